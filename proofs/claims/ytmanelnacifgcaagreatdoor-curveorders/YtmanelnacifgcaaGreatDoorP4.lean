/- Texts of the proof, joined. -/
import Derived.Test.YtmanelnacifgcaaGreatDoorP3
set_option maxRecDepth 100000
section
namespace Go.Proofs.YtmanelnacifgcaaGreatDoor
open Go.RowKit
namespace Rg
theorem mod_low (P k : Nat) (hk : k ≤ 6) : P % big % 2 ^ (64 * k) = P % 2 ^ (64 * k) := by
 obtain ⟨n, hn, e⟩ := big_pow
 rw [e]
 exact Nat.mod_mod_of_dvd P (Nat.pow_dvd_pow 2 (by omega))
theorem brw_low (L P k : Nat) (hk : k ≤ 6) : brw L (P % big) k = brw L P k := by unfold brw; rw [mod_low P k hk]
/-- What is left, the lowest k words less P. -/
def tkf (L P k m : Nat) : Int := if m < k then wd (L + big - P % big) m else wd L m
theorem tkf_at {L P k b : Nat} (hk : k < 6) : (lec b (tkf L P k))[6 + k]? = some (.int .u64 (wd L k)) := by
 rw [lec_hi hk]
 unfold tkf
 rw [if_neg (by omega)]
theorem tkf_step {L P k b : Nat} {v : Int} (h : v = wd (L + big - P % big) k) : lec b (upd (tkf L P k) k v) = lec b (tkf L P (k + 1)) := lec_congr fun j _ => by
 unfold upd tkf
 by_cases h1 : j = k
 ·subst h1; rw [if_pos rfl, if_pos (by omega), h]
 ·rw [if_neg h1]
  by_cases h2 : j < k
  ·rw [if_pos h2, if_pos (by omega)]
  ·rw [if_neg h2, if_neg (by omega)]
theorem tkf_start (L P b : Nat) : lec b (wd L) = lec b (tkf L P 0) := lec_congr fun j _ => by
 unfold tkf
 rw [if_neg (by omega)]
theorem tkf_end (L P b : Nat) : lec b (tkf L P 6) = lec b (wd ((L + big - P % big) % big)) := lec_congr fun j hj => by
 unfold tkf
 rw [if_pos hj, wd_mod _ _ hj]
theorem big_pos2 : 0 < big := by rw [big_eq]; exact pow_pos' 6
theorem take_word (L P k : Nat) (hk : k < 6) : subLo (wd L k) (wd P k) (brw L P k) = wd (L + big - P % big) k := by
 rw [← sub_word L (P % big) k hk (Nat.mod_lt _ big_pos2), wd_mod _ _ hk, brw_low _ _ _ (by omega)]
theorem mulLo_comm (x y m c : Int) : mulLo x y m c = mulLo y x m c := by unfold mulLo; rw [Int.mul_comm]
theorem mulHi_comm (x y m c : Int) : mulHi x y m c = mulHi y x m c := by unfold mulHi; rw [Int.mul_comm]
set_option maxHeartbeats 1000000 in
theorem take_gen (g b L t P T : Nat) (hT : IntKind.u64.wrap (((cc 0 t b 6 : Nat) : Int) + brw L P 6) = ((T : Nat) : Int))
  (c0 : ((0 : Nat) : Int) = ((cc 0 t b 0 : Nat) : Int)) (d0 : (0 : Int) = brw L P 0)
  (cm : ∀ k w, Calls Tryz.prog 65 #[.int .u64 (wd b k), .int .u64 ((t : Nat) : Int), .int .u64 0, .int .u64 ((cc 0 t b k : Nat) : Int)] w (Rt w (.tuple #[.int .u64 (wd P k), .int .u64 ((cc 0 t b (k + 1) : Nat) : Int)])))
  (cs : ∀ k w, (callFunc 63 #[.int .u64 (wd L k), .int .u64 (wd P k), .int .u64 (brw L P k)]).run Tryz.prog w = .ok (.value (.tuple #[.int .u64 (subLo (wd L k) (wd P k) (brw L P k)), .int .u64 (brw L P (k + 1))])) w) (w : World) (hm : Mm w [(g, lec b (wd L))]) :
  Calls Tryz.prog 132 #[PT g 0, .int .u64 ((t : Nat) : Int)] w fun e w' => e = .returned (.int .u64 ((T : Nat) : Int)) ∧ Mm w' [(g, lec b (tkf L P 6))] ∧ Kp g w w' := by
 have H0 : Hid (_ ∧ _) := ⟨hm, Kp.refl g w⟩
 clear hm
 have CM : Hid _ := cm
 have CS : Hid _ := cs
 clear cm cs
 go_enter Tryz.func132, Tryz.ntmps132
 refine wp_seq ?_
 refine zB 1 [.q (.int .u64 0)] (sB H0) ?ho1 ?he1
 case ho1 => exact ar trivial
 intro J w1 l hM hl
 have H1 := zO H0 hM.below
 clear hM hl l J
 refine rN (wp_seq ?_)
 refine zB 3 [.q (.int .u64 0), .q (.int .u64 0), .q (.int .u64 0)] (sB H1) ?ho2 ?he2
 case ho2 => exact ar (ar (ar trivial))
 intro J w2 l hM hl
 have H2 := zO H1 hM.below
 clear hM hl l H1 J
 refine rN (wp_seq (wp_seq ?_))
 refine zB 1 [.q (.int .i64 0)] (sB H2) ?ho3 ?he3
 case ho3 => exact ar trivial
 intro J w3 l hM hl
 have H3 := zO H2 hM.below
 clear hM hl l H2 J
 refine rN (wp_block ?_)
 refine loop_ghost (α := Nat) (fun k a' w' => ∃ s0 : Nat → Value, a' = ⟨#[PT g 0, .int .u64 ((t : Nat) : Int), ud, ud, .int .u64 0, s0 5, .int .u64 ((cc 0 t b k : Nat) : Int), .int .u64 (brw L P k), s0 8, .int .i64 ((k : Nat) : Int), s0 10, s0 11, s0 12, s0 13, s0 14, s0 15, s0 16, s0 17, s0 18, s0 19, s0 20, s0 21, s0 22, s0 23, s0 24, s0 25, s0 26, s0 27, s0 28, s0 29, s0 30, s0 31, s0 32, s0 33, s0 34, s0 35, s0 36, s0 37, s0 38, s0 39, s0 40, s0 41, ud, ud, ud], []⟩ ∧ (Mm w' [(g, lec b (tkf L P k))] ∧ Kp g w w') ∧ k ≤ 6) (fun k => 6 - k) 0 ?st0 ?rd0
 case st0 => exact ⟨(slotfn [ud, ud, ud, ud, ud, .int .u64 0, ud, ud, ud, ud, ud, ud, ud, ud, ud, ud, ud, ud, ud, ud, ud, ud, ud, ud, ud, ud, ud, ud, ud, ud, ud, ud, ud, ud, ud, ud, ud, ud, ud, ud, ud, ud]), by rw [← c0, ← d0]; rfl, ⟨H3.out.1.at0 (tkf_start L P b), H3.out.2⟩, by omega⟩
 intro k a' w4 hI
 obtain ⟨s0, rfl, hMB, hk0⟩ := hI
 have H4 : Hid (_ ∧ _) := hMB
 clear hMB H3
 by_cases hlt : k < 6
 ·have hrd : True := trivial
  clear hrd
  refine wp_seq ?_
  refine zB 1 [.q (.bool true)] (sB H4) ?ho4 ?he4
  case ho4 => exact ak (by refine fun J => ⟨rfl, fun w' h => ?_⟩; clear h; go_simp <;> omega) trivial
  intro J w5 l hM hl
  have H5 := zO H4 hM.below
  clear hM hl l H4 J
  refine rN (wp_seq ?_)
  refine wp_cond_true rfl (wp_skip ?_)
  refine zA (wp_seq ?_)
  refine wp_block (wp_seq ?_)
  refine zB 2 [.q (.int .i64 ((k : Nat) : Int)), .q (.int .i64 ((k : Nat) : Int))] (sB H5) ?ho5 ?he5
  case ho5 => exact ar (ar trivial)
  intro J w6 l hM hl
  have H6 := zO H5 hM.below
  clear hM hl l H5 J
  refine rN (wp_seq ?_)
  refine zB 13 [.q (PT g 0), .q (.int .i64 ((k : Nat) : Int)), .q (PT g 0), .q (PT g 0), .q (PT g (0 + k)), .q (.int .u64 (wd b k)), .q (.int .u64 ((t : Nat) : Int)), .q (.int .u64 ((cc 0 t b k : Nat) : Int)), .call (.tuple #[.int .u64 (wd P k), .int .u64 ((cc 0 t b (k + 1) : Nat) : Int)]), .q (.tuple #[.int .u64 (wd P k), .int .u64 ((cc 0 t b (k + 1) : Nat) : Int)]), .q (.int .u64 (wd P k)), .q (.int .u64 ((cc 0 t b (k + 1) : Nat) : Int)), .q (.int .u64 (wd P k))] (sB H6) ?ho6 ?he6
  case ho6 => exact ar (ar (ag (ag (ak (fun J => ⟨rfl, fun w' _ => yA rfl rfl rfl hlt⟩) (aq (fun w' h => ex_load1 h 0 rfl rfl rfl (lec_lo hlt)) (ar (ar (ac (fun w' h => eC call65 (CM.out k w')) (ar (ag (ag (ar trivial))))))))))))
  intro J w7 l hM hl
  have H7 := zO H6 hM.below
  clear hM hl l H6 J
  refine zF (l := [13]) rfl ?_
  refine zG (d := 6) rfl rfl rfl rfl ?_
  simp only [Act.put, sa, sz, ss]
  refine zE (zA ?_)
  refine walk_put (by kernel_rfl) 17 [13] [.q (PT g 0), .q (.int .i64 ((k : Nat) : Int)), .q (PT g 0), .q (.int .i64 ((k : Nat) : Int)), .q (PT g 0), .q (PT g 6), .q (PT g (6 + k)), .q (.int .u64 (wd L k)), .q (.int .u64 (wd P k)), .q (.int .u64 (brw L P k)), .q (.tuple #[.int .u64 (subLo (wd L k) (wd P k) (brw L P k)), .int .u64 (brw L P (k + 1))]), .q (.tuple #[.int .u64 (subLo (wd L k) (wd P k) (brw L P k)), .int .u64 (brw L P (k + 1))]), .q (.int .u64 (subLo (wd L k) (wd P k) (brw L P k))), .q (.int .u64 (brw L P (k + 1))), .q (PT g 0), .q (PT g 6), .q (PT g (6 + k))] _ ?pre7 ?F7 _ ?hpre7 (fun J => ?hF7) (by kernel_rfl) rfl trivial (sB H7) ?ho7 ?hla7 ?he7
  case hpre7 => simp only [tk, tz]; rfl
  case hF7 => simp only [yF, Kind.val, Act.put, sa, sz, ss]; rfl
  case ho7 =>
   refine ar ?_
   refine ar ?_
   refine ar ?_
   refine ar ?_
   refine ag ?_
   refine ag ?_
   refine ak (fun J => ⟨rfl, fun w' _ => yA rfl rfl rfl hlt⟩) ?_
   refine aq (fun w' h => ex_load1 h 0 rfl rfl rfl (tkf_at hlt)) ?_
   refine ar ?_
   refine ar ?_
   refine aq (fun w' h => ex_extern rfl (CS.out k w') rfl (mpn rfl)) ?_
   refine ar ?_
   refine ag ?_
   refine ag ?_
   refine ag ?_
   refine ag ?_
   refine ak (fun J => ⟨rfl, fun w' _ => yA rfl rfl rfl hlt⟩) ?_
   exact trivial
  case hla7 => exact ⟨⟨_, _, rfl, rfl, fun J => ⟨rfl, fun w' => by first | rfl | go_simp⟩⟩, trivial⟩
  intro J w8 l hM hl
  have H8 := zO H7 hM.below
  clear hM hl l H7 J
  refine ⟨_, ex_storeI H8.out.1 0 rfl rfl As22 rfl rfl (lec_bd hlt), ?_⟩
  have H9 : Hid (Mm (w8.setCells g (6 + k) [.int .u64 (subLo (wd L k) (wd P k) (brw L P k))]) [(g, lec b (tkf L P (k + 1)))] ∧ Kp g w (w8.setCells g (6 + k) [.int .u64 (subLo (wd L k) (wd P k) (brw L P k))])) := ⟨by
   have h := H8.out.1.put 0 (off := (6 + k)) (vs := [.int .u64 (subLo (wd L k) (wd P k) (brw L P k))]) rfl (lec_bd hlt)
   rw [lec_put hlt, tkf_step (take_word L P k hlt)] at h
   exact h, H8.out.2.put (Or.inl rfl)⟩
  clear H8
  generalize hgw : World.setCells _ _ _ _ = w9 at H9 ⊢
  clear hgw
  refine zF (l := [18]) rfl ?_
  refine zG (d := 7) rfl rfl rfl rfl ?_
  simp only [Act.put, sa, sz, ss]
  refine zE (zI (zA ?_))
  refine zB 1 [.q (.int .i64 ((k + 1 : Nat) : Int))] (sB H9) ?ho8 ?he8
  case ho8 => exact ak (by refine fun J => ⟨rfl, fun w' h => ?_⟩; clear h; go_simp; rw [IntKind.wrap_i64]; omega) trivial
  intro J w10 l hM hl
  have H10 := zO H9 hM.below
  clear hM hl l H9 J
  refine zF (l := [1]) rfl ?_
  refine zG (d := 9) rfl rfl rfl rfl ?_
  simp only [Act.put, sa, sz, ss]
  refine zE (zA ?_)
  exact ⟨k + 1, ⟨(slotfn [ud, ud, ud, ud, ud, .int .u64 (wd P k), ud, ud, .int .i64 ((k : Nat) : Int), ud, .bool true, .int .i64 ((k : Nat) : Int), .tuple #[.int .u64 (wd P k), .int .u64 ((cc 0 t b (k + 1) : Nat) : Int)], PT g 0, .int .i64 ((k : Nat) : Int), PT g 0, PT g 0, PT g (0 + k), .int .u64 (wd b k), .int .u64 ((t : Nat) : Int), .int .u64 ((cc 0 t b k : Nat) : Int), .tuple #[.int .u64 (wd P k), .int .u64 ((cc 0 t b (k + 1) : Nat) : Int)], .int .u64 (wd P k), .int .u64 ((cc 0 t b (k + 1) : Nat) : Int), .tuple #[.int .u64 (subLo (wd L k) (wd P k) (brw L P k)), .int .u64 (brw L P (k + 1))], PT g 0, .int .i64 ((k : Nat) : Int), PT g 0, .int .i64 ((k : Nat) : Int), PT g 0, PT g 6, PT g (6 + k), .int .u64 (wd L k), .int .u64 (wd P k), .int .u64 (brw L P k), .tuple #[.int .u64 (subLo (wd L k) (wd P k) (brw L P k)), .int .u64 (brw L P (k + 1))], .int .u64 (subLo (wd L k) (wd P k) (brw L P k)), .int .u64 (brw L P (k + 1)), PT g 0, PT g 6, PT g (6 + k), .int .i64 ((k + 1 : Nat) : Int)]), rfl, ⟨H10.out.1, H10.out.2⟩, by omega⟩, by omega⟩
 have hk6 : k = 6 := by omega
 subst hk6
 refine wp_seq ?_
 refine zB 1 [.q (.bool false)] (sB H4) ?ho9 ?he9
 case ho9 => exact ak (by refine fun J => ⟨rfl, fun w' h => ?_⟩; clear h; go_simp <;> omega) trivial
 intro J w11 l hM hl
 have H11 := zO H4 hM.below
 clear hM hl l H4 J
 refine rN (wp_seq (wp_cond_false rfl ?_))
 refine wp_exit ?_
 repeat refine zY ?_
 refine zU ?_
 refine zA (wp_seq ?_)
 refine zB 4 [.q (.int .u64 ((cc 0 t b 6 : Nat) : Int)), .q (.int .u64 (brw L P 6)), .q (.int .u64 ((T : Nat) : Int)), .q (.int .u64 ((T : Nat) : Int))] (sB H11) ?ho10 ?he10
 case ho10 => exact ar (ar (ag (ar trivial)))
 intro J w12 l hM hl
 have H12 := zO H11 hM.below
 clear hM hl l H11 J
 refine rN (wp_ret ?_)
 repeat (first | refine zK ?_ | refine zH ?_)
 refine bodyPost_ret (v := .int .u64 ((T : Nat) : Int)) (by simp [results, Tryz.results132, go_sem, *]) rfl ?_
 exact ⟨rfl, H12.out.1.one 0 rfl, H12.out.2⟩
theorem cc_any (t b k : Nat) : cc 0 t b k = t * (b % 2 ^ (64 * k)) / 2 ^ (64 * k) := by unfold cc; rw [Nat.zero_mod, Nat.zero_add]
theorem cc_six (t b : Nat) (hb : b < big) : cc 0 t b 6 = t * b / big := by
 obtain ⟨m, hm, e⟩ := big_pow
 rw [← hm, cc_any, ← e, Nat.mod_eq_of_lt hb]
theorem brw_six (L P : Nat) (hL : L < big) : brw L P 6 = (((if L < P % big then 1 else 0 : Nat)) : Int) := by
 obtain ⟨m, hm, e⟩ := big_pow
 rw [← hm]
 unfold brw
 rw [← e, Nat.mod_eq_of_lt hL]
 split <;> rfl
/-- What taking lacks above. -/
def tkT (L t b : Nat) : Nat := t * b / big + (if L < t * b % big then 1 else 0)
theorem takeL_any (g b L t : Nat) (hL : L < big) (hb : b < big) (ht : t < 18446744073709551616) (w : World) (hm : Mm w [(g, lec b (wd L))]) :
  Calls Tryz.prog 132 #[PT g 0, .int .u64 ((t : Nat) : Int)] w fun e w' => e = .returned (.int .u64 ((tkT L t b : Nat) : Int)) ∧ Mm w' [(g, lec b (wd ((L + big - t * b % big) % big)))] ∧ Kp g w w' := by
 have hcl : ∀ k, cc 0 t b k < 18446744073709551616 := fun k => cc_lt 0 t b k ht
 have h6 := cc_six t b hb
 have hb6 := brw_six L (t * b) hL
 have hT : IntKind.u64.wrap (((cc 0 t b 6 : Nat) : Int) + brw L (t * b) 6) = ((tkT L t b : Nat) : Int) := by
  have h1 : t * b / big < 18446744073709551615 := by
   rw [Nat.div_lt_iff_lt_mul big_pos2]
   rcases Nat.eq_zero_or_pos t with h | h
   ·rw [h, Nat.zero_mul]; exact Nat.mul_pos (by decide) big_pos2
   ·have : t * b < t * big := Nat.mul_lt_mul_of_pos_left hb h
    exact Nat.lt_of_lt_of_le this (Nat.mul_le_mul (by omega) (Nat.le_refl big))
  rw [IntKind.wrap_u64, h6, hb6]
  unfold tkT
  generalize t * b / big = q at h1
  split <;> omega
 have cm : ∀ k w, Calls Tryz.prog 65 #[.int .u64 (wd b k), .int .u64 ((t : Nat) : Int), .int .u64 0, .int .u64 ((cc 0 t b k : Nat) : Int)] w (Rt w (.tuple #[.int .u64 (wd (t * b) k), .int .u64 ((cc 0 t b (k + 1) : Nat) : Int)])) := fun k w => by
  have h := mulAddM_any (wd b k) ((t : Nat) : Int) 0 ((cc 0 t b k : Nat) : Int) (wd_bd _ _).1 (wd_bd _ _).2 (Int.natCast_nonneg _) (by omega) (by omega) (by omega) (Int.natCast_nonneg _) (by have := hcl k; omega) w
  have e1 := cc_lo 0 t b k
  have e2 := cc_hi 0 t b k
  rw [Nat.zero_add, wd_zero] at e1
  rw [wd_zero] at e2
  rw [mulLo_comm, mulHi_comm, e1, e2] at h
  exact h.mono fun e w2 ⟨h1, h2⟩ => ⟨h1, h2 ▸ Below.refl _ _⟩
 have cs : ∀ k w, (callFunc 63 #[.int .u64 (wd L k), .int .u64 (wd (t * b) k), .int .u64 (brw L (t * b) k)]).run Tryz.prog w = .ok (.value (.tuple #[.int .u64 (subLo (wd L k) (wd (t * b) k) (brw L (t * b) k)), .int .u64 (brw L (t * b) (k + 1))])) w := fun k w => by
  have h := sub64' (wd L k) (wd (t * b) k) (brw L (t * b) k) (wd_bd _ _).1 (wd_bd _ _).1 (wd_bd _ _).2 (brw_bd _ _ _).1 (brw_bd _ _ _).2 w
  rw [sub_cry] at h
  exact h
 have h := take_gen g b L t (t * b) (tkT L t b) hT (by rw [cc_zero]) (by unfold brw; simp [Nat.mod_one]) cm cs w hm
 rw [tkf_end] at h
 exact h
theorem Kp.join {g : Nat} {a b c : World} (h : Kp g a b) (k : Kp g b c) : Kp g a c :=
 ⟨k.os.trans h.os, k.tape.trans h.tape, k.output.trans h.output, Nat.le_trans h.size k.size, fun i hi hg => (k.block i (Nat.lt_of_lt_of_le hi h.size) hg).trans (h.block i hi hg)⟩
set_option maxHeartbeats 1000000 in
theorem step_gen (g b L L1 a0 t T D : Nat) (i : Int) (f : Nat → Nat) (A : Nat → Int) (cr : Nat → Bool)
  (h00 : A 0 = 0) (hN : ∀ x, x + 1 ≤ D → ¬ A (x + 1) = 0) (hD : IntKind.u64.wrap (((a0 : Nat) : Int) - ((T : Nat) : Int)) = A D)
  (hT : ∀ x, cr x = true → IntKind.u64.wrap (A (x + 1) + 1) = A x) (hF : ∀ x, cr x = false → A (x + 1) = A x)
  (cs : ∀ w, Mm w [(g, lec b (wd L))] → Calls Tryz.prog 131 #[PT g 0, .int .i64 i] w fun e w' => e = .returned (.int .u64 ((a0 : Nat) : Int)) ∧ Mm w' [(g, lec b (wd L1))] ∧ Kp g w w')
  (cg : ∀ w, Calls Tryz.prog 133 #[.int .u64 ((a0 : Nat) : Int), .int .u64 (wd L1 5), .int .u64 (wd b 5)] w (Rt w (.int .u64 ((t : Nat) : Int))))
  (ct : ∀ w, Mm w [(g, lec b (wd L1))] → Calls Tryz.prog 132 #[PT g 0, .int .u64 ((t : Nat) : Int)] w fun e w' => e = .returned (.int .u64 ((T : Nat) : Int)) ∧ Mm w' [(g, lec b (wd (f D)))] ∧ Kp g w w')
  (ca : ∀ x w, Calls Tryz.prog 21 #[N (f (x + 1)), N b] w (Rt w (.tuple #[N (f x), .bool (cr x)]))) (w : World) (hm : Mm w [(g, lec b (wd L))]) :
  Calls Tryz.prog 105 #[PT g 0, .int .i64 i] w fun e w' => e = .returned (.tuple #[]) ∧ Mm w' [(g, lec b (wd (f 0)))] ∧ Kp g w w' := by
 have H0 : Hid (_ ∧ _) := ⟨hm, Kp.refl g w⟩
 clear hm
 have CS : Hid _ := cs
 have CG : Hid _ := cg
 have CT : Hid _ := ct
 have CA : Hid _ := ca
 have HN : Hid _ := hN
 have H00 : Hid _ := h00
 have HT : Hid _ := hT
 have HF : Hid _ := hF
 clear cs cg ct ca hN h00 hT hF
 go_enter Tryz.func105, Tryz.ntmps105
 refine wp_seq ?_
 refine zB 2 [.q (PT g 0), .q (.int .i64 i)] (sB H0) ?ho1 ?he1
 case ho1 => exact ar (ar trivial)
 intro J w1 l hM hl
 have H1 := zO H0 hM.below
 clear hM hl l J
 refine zF (l := [2, 3]) rfl ?_
 refine rest_enter (d := 10) (R := fun vv w' => vv = .int .u64 ((a0 : Nat) : Int) ∧ Mm w' [(g, lec b (wd L1))] ∧ Kp g w1 w') rfl rfl rfl (exec_call (args := #[PT g 0, .int .i64 i]) rfl call131 rfl (mpn rfl)) (Calls.mono (CS.out w1 (H1.out.1.one 0 rfl)) (fun e w2 hh => ⟨_, hh.1, rfl, hh.2⟩)) ?_
 rintro _ w2 ⟨rfl, hn, hp⟩
 have H2 : Hid (Mm w2 [(g, lec b (wd L1))] ∧ Kp g w w2) := ⟨H1.out.1.change 0 rfl hp hn, H1.out.2.join hp⟩
 clear hn hp H1
 simp only [Act.put, sa, sz, ss]
 refine zG (d := 4) rfl rfl rfl rfl ?_
 simp only [Act.put, sa, sz, ss]
 refine zE (zA (wp_seq ?_))
 refine zB 1 [.q (.int .i64 5)] (sB H2) ?ho2 ?he2
 case ho2 => exact ar trivial
 intro J w3 l hM hl
 have H3 := zO H2 hM.below
 clear hM hl l H2 J
 refine rN (wp_seq ?_)
 refine walk_enter (by kernel_rfl) 16 [0] [.q (.int .u64 ((a0 : Nat) : Int)), .q (PT g 0), .q (.int .u64 ((a0 : Nat) : Int)), .q (PT g 0), .q (.int .i64 5), .q (PT g 0), .q (PT g 6), .q (PT g 11), .q (.int .u64 (wd L1 5)), .q (PT g 0), .q (.int .i64 5), .q (PT g 0), .q (PT g 0), .q (PT g 5), .q (.int .u64 (wd b 5)), .call (.int .u64 ((t : Nat) : Int))] _ ?pre3 ?F3 ?G3 _ 27 (.int .u64 ((T : Nat) : Int)) ?hpre3 (fun J => ?hF3) (fun J => ?hG3) (by kernel_rfl) rfl trivial (sB H3) ?ho3 ?hla3 ?he3
 case hpre3 => simp only [tk, tz]; rfl
 case hF3 => simp only [yF, Kind.val, Act.put, sa, sz, ss]; rfl
 case hG3 => simp only [yF, Kind.val, Act.put, sa, sz, ss]; rfl
 case ho3 =>
  refine ar ?_
  refine ar ?_
  refine ar ?_
  refine ar ?_
  refine ar ?_
  refine ag ?_
  refine ag ?_
  refine ag ?_
  refine aq (fun w' h => ex_load1 h 0 rfl rfl rfl rfl) ?_
  refine ar ?_
  refine ar ?_
  refine ag ?_
  refine ag ?_
  refine ag ?_
  refine aq (fun w' h => ex_load1 h 0 rfl rfl rfl rfl) ?_
  refine ak (fun J => ⟨rfl, fun w' h => eC call133 (CG.out w')⟩) ?_
  exact trivial
 case hla3 => exact ⟨⟨_, _, rfl, rfl, fun J => ⟨rfl, fun w' => by first | rfl | go_simp⟩⟩, trivial⟩
 intro J w4 l hM hl
 have H4 := zO H3 hM.below
 clear hM hl l H3 J
 refine ⟨132, #[PT g 0, .int .u64 ((t : Nat) : Int)], (fun w' => Mm w' [(g, lec b (wd (f D)))] ∧ Kp g w4 w'), exec_call (args := #[PT g 0, .int .u64 ((t : Nat) : Int)]) rfl call132 rfl (mpn rfl), CT.out w4 (H4.out.1.one 0 rfl), ?_⟩
 rintro w5 ⟨hn, hp⟩
 have H5 : Hid (Mm w5 [(g, lec b (wd (f D)))] ∧ Kp g w w5) := ⟨H4.out.1.change 0 rfl hp hn, H4.out.2.join hp⟩
 clear hn hp H4
 refine zF (l := [17, 18]) rfl ?_
 refine zG (d := 28) (v := .int .u64 (A D)) (w' := w5) rfl rfl rfl (by go_simp) ?_
 simp only [Act.put, sa, sz, ss]
 refine zG (d := 4) rfl rfl rfl rfl ?_
 simp only [Act.put, sa, sz, ss]
 refine zE (zA (wp_block ?_))
 refine loop_ghost (α := Nat) (fun d a' w' => ∃ s0 : Nat → Value, a' = ⟨#[PT g 0, .int .i64 i, undef, undef, .int .u64 (A d), .int .i64 5, s0 6, s0 7, PT g 0, .int .i64 i, .int .u64 ((a0 : Nat) : Int), .int .u64 ((a0 : Nat) : Int), PT g 0, .int .u64 ((a0 : Nat) : Int), PT g 0, .int .i64 5, PT g 0, PT g 6, PT g 11, .int .u64 (wd L1 5), PT g 0, .int .i64 5, PT g 0, PT g 0, PT g 5, .int .u64 (wd b 5), .int .u64 ((t : Nat) : Int), .int .u64 ((T : Nat) : Int), .int .u64 (A D), s0 29, s0 30, s0 31, s0 32, s0 33, s0 34, s0 35, s0 36, s0 37, s0 38, s0 39, s0 40, s0 41, s0 42, s0 43, s0 44, s0 45, s0 46, s0 47, s0 48, s0 49], []⟩ ∧ (Mm w' [(g, lec b (wd (f d)))] ∧ Kp g w w') ∧ d ≤ D) (fun d => d) D ?st0 ?rd0
 case st0 => exact ⟨(slotfn [ud, ud, ud, ud, ud, ud, ud, ud, ud, ud, ud, ud, ud, ud, ud, ud, ud, ud, ud, ud, ud, ud, ud, ud, ud, ud, ud, ud, ud, ud, ud, ud, ud, ud, ud, ud, ud, ud, ud, ud, ud, ud, ud, ud, ud, ud, ud, ud, ud, ud]), rfl, ⟨H5.out.1, H5.out.2⟩, by omega⟩
 intro d a' w6 hI
 obtain ⟨s0, rfl, hMB, hk0⟩ := hI
 have H6 : Hid (_ ∧ _) := hMB
 clear hMB H5
 by_cases hlt : 0 < d
 ·have hrd : True := trivial
  clear hrd
  obtain ⟨x, hx⟩ : ∃ x, d = x + 1 := ⟨d - 1, by omega⟩
  subst hx
  have hne := HN.out x (by omega)
  rcases Bool.eq_false_or_eq_true (cr x) with hcr | hcr
  ·have hrd : True := trivial
   clear hrd
   have cA := CA.out x
   rw [hcr] at cA
   have CA1 : Hid _ := cA
   have hAt := HT.out x hcr
   clear cA
   refine wp_seq (wp_seq ?_)
   refine zB 2 [.q (.int .u64 (A (x + 1))), .q (.bool true)] (sB H6) ?ho4 ?he4
   case ho4 => exact ar (ak (by refine fun J => ⟨rfl, fun w' h => ?_⟩; clear h; go_simp <;> omega) trivial)
   intro J w7 l hM hl
   have H7 := zO H6 hM.below
   clear hM hl l H6 J
   refine rN (wp_cond_true rfl ?_)
   refine wp_skip (zA ?_)
   refine wp_block (wp_seq ?_)
   refine zQ 15 [.q (PT g 0), .q (PT g 0), .q (PT g 6), .q (N (f (x + 1))), .q (PT g 0), .q (PT g 0), .q (PT g 0), .q (N b), .call (.tuple #[N (f x), .bool true]), .q (.tuple #[N (f x), .bool true]), .q (N (f x)), .q (.bool true), .made zero6 24, .laid 12 zero6 (zD (f x)), .q (.bool true)] (sB H7) ?ho5 ?he5 (hL := ?hL5)
   case hL5 => exact ⟨⟨_, rfl⟩, trivial⟩
   case ho5 => exact ar (ag (ag (bN 0 (ar (ag (ag (bN 0 (ac (fun w' h => eC call21 (CA1.out w')) (ar (ag (ag (am (zL rfl) (ak (fun J => ⟨rfl, rfl, rfl, fun w' h => zR h rfl rfl rfl⟩) (ar trivial))))))))))))))
   intro J w8 l hM hl
   have H8 : Hid (Mm w8 ([(J 12, zD (f x))] ++ _) ∧ _) := wK H7 hM hl [12]
   have o5_12 := vK H7 hM hl 12
   clear hM hl l H7
   generalize J 12 = J5_12 at H8 o5_12 ⊢
   clear J
   refine rN (wp_seq ?_)
   refine zB 4 [.q (PT g 0), .q (N (f x)), .q (PT g 0), .q (PT g 6)] (sB H8) ?ho6 ?he6
   case ho6 => exact ar (bN 0 (ag (ag trivial)))
   intro J w9 l hM hl
   have H9 := zO H8 hM.below
   clear hM hl l H8 J
   refine zF (l := [4]) rfl ?_
   refine sH rfl (fun h => zP h 1 rfl rfl rfl rfl (Nat.le_of_ble_eq_true rfl)) 1 [_, (_, lec b (wd (f x)))] H9 (Or.inl rfl) fun w10 H10 => ?_
   clear H9
   refine zE (zA (wp_seq ?_))
   refine zB 1 [.q (.bool true)] (sB H10) ?ho7 ?he7
   case ho7 => exact ar trivial
   intro J w11 l hM hl
   have H11 := zO H10 hM.below
   clear hM hl l H10 J
   refine rN (wp_cond_true rfl ?_)
   refine zB 2 [.q (.int .u64 (A (x + 1))), .q (.int .u64 (A x))] (sB H11) ?ho8 ?he8
   case ho8 => exact ar (ak (by refine fun J => ⟨rfl, fun w' h => ?_⟩; clear h; go_simp; try exact hAt) trivial)
   intro J w12 l hM hl
   have H12 := zO H11 hM.below
   clear hM hl l H11 J
   refine zF (l := [2]) rfl ?_
   refine zG (d := 4) rfl rfl rfl rfl ?_
   simp only [Act.put, sa, sz, ss]
   refine zE (zI (zA ?_))
   exact ⟨x, ⟨(slotfn [ud, ud, ud, ud, ud, ud, PT J5_12 0, .bool true, ud, ud, ud, ud, ud, ud, ud, ud, ud, ud, ud, ud, ud, ud, ud, ud, ud, ud, ud, ud, ud, .int .u64 (A (x + 1)), .bool true, .tuple #[N (f x), .bool true], PT g 0, PT g 0, PT g 6, N (f (x + 1)), PT g 0, PT g 0, PT g 0, N b, .tuple #[N (f x), .bool true], N (f x), .bool true, PT g 0, N (f x), PT g 0, PT g 6, .bool true, .int .u64 (A (x + 1)), .int .u64 (A x)]), rfl, ⟨H12.out.1.tail, H12.out.2⟩, by omega⟩, by omega⟩
  ·have hrd : True := trivial
   clear hrd
   have cA := CA.out x
   rw [hcr] at cA
   have CA1 : Hid _ := cA
   have hAf := HF.out x hcr
   clear cA
   rw [hAf]
   rw [hAf] at hne
   refine wp_seq (wp_seq ?_)
   refine zB 2 [.q (.int .u64 (A x)), .q (.bool true)] (sB H6) ?ho9 ?he9
   case ho9 => exact ar (ak (by refine fun J => ⟨rfl, fun w' h => ?_⟩; clear h; go_simp <;> omega) trivial)
   intro J w13 l hM hl
   have H13 := zO H6 hM.below
   clear hM hl l H6 J
   refine rN (wp_cond_true rfl ?_)
   refine wp_skip (zA ?_)
   refine wp_block (wp_seq ?_)
   refine zQ 15 [.q (PT g 0), .q (PT g 0), .q (PT g 6), .q (N (f (x + 1))), .q (PT g 0), .q (PT g 0), .q (PT g 0), .q (N b), .call (.tuple #[N (f x), .bool false]), .q (.tuple #[N (f x), .bool false]), .q (N (f x)), .q (.bool false), .made zero6 24, .laid 12 zero6 (zD (f x)), .q (.bool false)] (sB H13) ?ho10 ?he10 (hL := ?hL10)
   case hL10 => exact ⟨⟨_, rfl⟩, trivial⟩
   case ho10 => exact ar (ag (ag (bN 0 (ar (ag (ag (bN 0 (ac (fun w' h => eC call21 (CA1.out w')) (ar (ag (ag (am (zL rfl) (ak (fun J => ⟨rfl, rfl, rfl, fun w' h => zR h rfl rfl rfl⟩) (ar trivial))))))))))))))
   intro J w14 l hM hl
   have H14 : Hid (Mm w14 ([(J 12, zD (f x))] ++ _) ∧ _) := wK H13 hM hl [12]
   have o10_12 := vK H13 hM hl 12
   clear hM hl l H13
   generalize J 12 = J10_12 at H14 o10_12 ⊢
   clear J
   refine rN (wp_seq ?_)
   refine zB 4 [.q (PT g 0), .q (N (f x)), .q (PT g 0), .q (PT g 6)] (sB H14) ?ho11 ?he11
   case ho11 => exact ar (bN 0 (ag (ag trivial)))
   intro J w15 l hM hl
   have H15 := zO H14 hM.below
   clear hM hl l H14 J
   refine zF (l := [4]) rfl ?_
   refine sH rfl (fun h => zP h 1 rfl rfl rfl rfl (Nat.le_of_ble_eq_true rfl)) 1 [_, (_, lec b (wd (f x)))] H15 (Or.inl rfl) fun w16 H16 => ?_
   clear H15
   refine zE (zA (wp_seq ?_))
   refine zB 1 [.q (.bool false)] (sB H16) ?ho12 ?he12
   case ho12 => exact ar trivial
   intro J w17 l hM hl
   have H17 := zO H16 hM.below
   clear hM hl l H16 J
   refine rN (wp_cond_false rfl ?_)
   refine wp_skip (zI (zA ?_))
   exact ⟨x, ⟨(slotfn [ud, ud, ud, ud, ud, ud, PT J10_12 0, .bool false, ud, ud, ud, ud, ud, ud, ud, ud, ud, ud, ud, ud, ud, ud, ud, ud, ud, ud, ud, ud, ud, .int .u64 (A x), .bool true, .tuple #[N (f x), .bool false], PT g 0, PT g 0, PT g 6, N (f (x + 1)), PT g 0, PT g 0, PT g 0, N b, .tuple #[N (f x), .bool false], N (f x), .bool false, PT g 0, N (f x), PT g 0, PT g 6, .bool false, s0 48, s0 49]), rfl, ⟨H17.out.1.tail, H17.out.2⟩, by omega⟩, by omega⟩
 have hd0 : d = 0 := by omega
 subst hd0
 have hA0 := H00.out
 refine wp_seq (wp_seq ?_)
 refine zB 2 [.q (.int .u64 (A 0)), .q (.bool false)] (sB H6) ?ho13 ?he13
 case ho13 => exact ar (ak (by refine fun J => ⟨rfl, fun w' h => ?_⟩; clear h; go_simp <;> omega) trivial)
 intro J w18 l hM hl
 have H18 := zO H6 hM.below
 clear hM hl l H6 J
 refine rN (wp_cond_false rfl ?_)
 refine wp_exit ?_
 repeat refine zY ?_
 refine zU ?_
 refine bodyPost_end (v := .tuple #[]) (by simp [results, Tryz.results105, go_sem]) rfl ?_
 exact ⟨rfl, H18.out.1.one 0 rfl, H18.out.2⟩
set_option maxHeartbeats 1000000 in
theorem double_gen (g b L1 K j : Nat) (f : Nat → Nat) (hK : K < 1000) (hj : j ≤ 64) (hKj : 0 < K → 0 < j)
  (cf : ∀ k w, Mm w [(g, lec b (wd (f k)))] → Calls Tryz.prog 105 #[PT g 0, .int .i64 64] w fun e w' => e = .returned (.tuple #[]) ∧ Mm w' [(g, lec b (wd (f (k + 1))))] ∧ Kp g w w')
  (cl : ∀ w, Mm w [(g, lec b (wd (f K)))] → Calls Tryz.prog 105 #[PT g 0, .int .i64 ((64 * (K - K) + j : Nat) : Int)] w fun e w' => e = .returned (.tuple #[]) ∧ Mm w' [(g, lec b (wd L1))] ∧ Kp g w w') (w : World) (hm : Mm w [(g, lec b (wd (f 0)))]) :
  Calls Tryz.prog 62 #[PT g 0, .int .i64 ((64 * (K - 0) + j : Nat) : Int)] w fun e w' => e = .returned (.tuple #[]) ∧ Mm w' [(g, lec b (wd L1))] ∧ Kp g w w' := by
 have H0 : Hid (_ ∧ _) := ⟨hm, Kp.refl g w⟩
 clear hm
 have CF : Hid _ := cf
 have CL : Hid _ := cl
 clear cf cl
 go_enter Tryz.func62, Tryz.ntmps62
 refine wp_seq (wp_block ?_)
 refine loop_ghost (α := Nat) (fun k a' w' => ∃ s0 : Nat → Value, a' = ⟨#[PT g 0, .int .i64 ((64 * (K - k) + j : Nat) : Int), ud, ud, s0 4, s0 5, s0 6, s0 7, s0 8, s0 9, ud, ud, ud], []⟩ ∧ (Mm w' [(g, lec b (wd (f k)))] ∧ Kp g w w') ∧ k ≤ K) (fun k => K - k) 0 ?st0 ?rd0
 case st0 => exact ⟨(slotfn [ud, ud, ud, ud, ud, ud, ud, ud, ud, ud]), rfl, ⟨H0.out.1, H0.out.2⟩, by omega⟩
 intro k a' w1 hI
 obtain ⟨s0, rfl, hMB, hk0⟩ := hI
 have H1 : Hid (_ ∧ _) := hMB
 clear hMB
 by_cases hlt : k < K
 ·have hrd : True := trivial
  clear hrd
  refine wp_seq (wp_seq ?_)
  refine zB 2 [.q (.int .i64 ((64 * (K - k) + j : Nat) : Int)), .q (.bool true)] (sB H1) ?ho1 ?he1
  case ho1 => exact ar (ak (by refine fun J => ⟨rfl, fun w' h => ?_⟩; clear h; go_simp <;> omega) trivial)
  intro J w2 l hM hl
  have H2 := zO H1 hM.below
  clear hM hl l H1 J
  refine rN (wp_cond_true rfl ?_)
  refine wp_skip (zA ?_)
  refine wp_seq (wp_block ?_)
  refine zB 1 [.q (PT g 0)] (sB H2) ?ho2 ?he2
  case ho2 => exact ar trivial
  intro J w3 l hM hl
  have H3 := zO H2 hM.below
  clear hM hl l H2 J
  refine zF (l := [1]) rfl ?_
  refine rest_enter (d := 9) (R := fun vv w' => vv = .tuple #[] ∧ Mm w' [(g, lec b (wd (f (k + 1))))] ∧ Kp g w3 w') rfl rfl rfl (exec_call (args := #[PT g 0, .int .i64 64]) rfl call105 rfl (mpn rfl)) (Calls.mono (CF.out k w3 (H3.out.1.one 0 rfl)) (fun e w2 hh => ⟨_, hh.1, rfl, hh.2⟩)) ?_
  rintro _ w4 ⟨rfl, hn, hp⟩
  have H4 : Hid (Mm w4 [(g, lec b (wd (f (k + 1))))] ∧ Kp g w w4) := ⟨H3.out.1.change 0 rfl hp hn, H3.out.2.join hp⟩
  clear hn hp H3
  simp only [Act.put, sa, sz, ss]
  refine zE (zI (zA ?_))
  refine zB 2 [.q (.int .i64 ((64 * (K - k) + j : Nat) : Int)), .q (.int .i64 ((64 * (K - (k + 1)) + j : Nat) : Int))] (sB H4) ?ho3 ?he3
  case ho3 => exact ar (ak (by refine fun J => ⟨rfl, fun w' h => ?_⟩; clear h; go_simp; rw [IntKind.wrap_i64]; omega) trivial)
  intro J w5 l hM hl
  have H5 := zO H4 hM.below
  clear hM hl l H4 J
  refine zF (l := [2]) rfl ?_
  refine zG (d := 1) rfl rfl rfl rfl ?_
  simp only [Act.put, sa, sz, ss]
  refine zE (zA ?_)
  exact ⟨k + 1, ⟨(slotfn [ud, ud, ud, ud, .int .i64 ((64 * (K - k) + j : Nat) : Int), .bool true, .int .i64 ((64 * (K - k) + j : Nat) : Int), .int .i64 ((64 * (K - (k + 1)) + j : Nat) : Int), PT g 0, .tuple #[]]), rfl, ⟨H5.out.1, H5.out.2⟩, by omega⟩, by omega⟩
 have hkK : k = K := by omega
 subst hkK
 refine wp_seq (wp_seq ?_)
 refine zB 2 [.q (.int .i64 ((64 * (k - k) + j : Nat) : Int)), .q (.bool false)] (sB H1) ?ho4 ?he4
 case ho4 => exact ar (ak (by refine fun J => ⟨rfl, fun w' h => ?_⟩; clear h; go_simp <;> omega) trivial)
 intro J w6 l hM hl
 have H6 := zO H1 hM.below
 clear hM hl l H1 J
 refine rN (wp_cond_false rfl ?_)
 refine wp_exit ?_
 repeat refine zY ?_
 refine zU ?_
 refine zA ?_
 refine zB 2 [.q (PT g 0), .q (.int .i64 ((64 * (k - k) + j : Nat) : Int))] (sB H6) ?ho5 ?he5
 case ho5 => exact ar (ar trivial)
 intro J w7 l hM hl
 have H7 := zO H6 hM.below
 clear hM hl l H6 J
 refine zF (l := [2]) rfl ?_
 refine rest_enter (d := 12) (R := fun vv w' => vv = .tuple #[] ∧ Mm w' [(g, lec b (wd L1))] ∧ Kp g w7 w') rfl rfl rfl (exec_call (args := #[PT g 0, .int .i64 ((64 * (k - k) + j : Nat) : Int)]) rfl call105 rfl (mpn rfl)) (Calls.mono (CL.out w7 (H7.out.1.one 0 rfl)) (fun e w2 hh => ⟨_, hh.1, rfl, hh.2⟩)) ?_
 rintro _ w8 ⟨rfl, hn, hp⟩
 have H8 : Hid (Mm w8 [(g, lec b (wd L1))] ∧ Kp g w w8) := ⟨H7.out.1.change 0 rfl hp hn, H7.out.2.join hp⟩
 clear hn hp H7
 simp only [Act.put, sa, sz, ss]
 refine zE ?_
 refine bodyPost_end (v := .tuple #[]) (by simp [results, Tryz.results62, go_sem]) rfl ?_
 exact ⟨rfl, H8.out.1.one 0 rfl, H8.out.2⟩
theorem unq {u B k m : Int} (hB : 0 < B) (e : u = B * k + m) (h0 : 0 ≤ m) (h1 : m < B) : u / B = k ∧ u % B = m :=
 (Int.ediv_emod_unique hB).2 ⟨by omega, h0, h1⟩
/-- What is left less d times the divisor. -/
def zst (r b d : Nat) : Int := (r : Int) - (d : Int) * (b : Int)
def zl (r b d : Nat) : Nat := (zst r b d % (big : Int)).toNat
def za (r b d : Nat) : Int := zst r b d / (big : Int) % 18446744073709551616
theorem bigI : (0 : Int) < (big : Int) := by have := big_pos2; omega
theorem zl_cast (r b d : Nat) : ((zl r b d : Nat) : Int) = zst r b d % (big : Int) := Int.toNat_of_nonneg (Int.emod_nonneg _ (by have := bigI; omega))
theorem zl_lt (r b d : Nat) : zl r b d < big := by
 have h := zl_cast r b d
 have h2 := Int.emod_lt_of_pos (zst r b d) bigI
 omega
theorem zst_succ (r b d : Nat) : zst r b d = zst r b (d + 1) + b := by
 unfold zst
 rw [Int.natCast_add, Int.add_mul]
 omega
theorem z_step (r b d : Nat) (hb : b < big) : (if big ≤ zl r b (d + 1) + b then zst r b (d + 1) / (big : Int) + 1 else zst r b (d + 1) / (big : Int)) = zst r b d / (big : Int) ∧ (zl r b (d + 1) + b) % big = zl r b d := by
 have h1 := zl_cast r b (d + 1)
 have h2 := zl_cast r b d
 have h3 := zl_lt r b (d + 1)
 have hm := Int.mul_ediv_add_emod (zst r b (d + 1)) (big : Int)
 rw [← h1] at hm
 have e := zst_succ r b d
 by_cases hc : big ≤ zl r b (d + 1) + b
 ·rw [if_pos hc]
  obtain ⟨u1, u2⟩ := unq (u := zst r b d) (k := zst r b (d + 1) / (big : Int) + 1) (m := (zl r b (d + 1) : Int) + b - big) bigI (by rw [e, Int.mul_add, Int.mul_one]; omega) (by omega) (by omega)
  refine ⟨u1.symm, ?_⟩
  rw [u2] at h2
  rw [Nat.mod_eq_sub_mod hc, Nat.mod_eq_of_lt (by omega)]
  omega
 ·rw [if_neg hc]
  obtain ⟨u1, u2⟩ := unq (u := zst r b d) (k := zst r b (d + 1) / (big : Int)) (m := (zl r b (d + 1) : Int) + b) bigI (by rw [e]; omega) (by omega) (by omega)
  refine ⟨u1.symm, ?_⟩
  rw [u2] at h2
  rw [Nat.mod_eq_of_lt (by omega)]
  omega
theorem za_zero (r b : Nat) (hr : r < big) : za r b 0 = 0 := by
 unfold za zst
 rw [Int.natCast_zero, Int.zero_mul, Int.sub_zero, Int.ediv_eq_zero_of_lt (by omega) (by omega)]; rfl
theorem zl_zero (r b : Nat) (hr : r < big) : zl r b 0 = r := by
 have h := zl_cast r b 0
 unfold zst at h
 rw [Int.natCast_zero, Int.zero_mul, Int.sub_zero, Int.emod_eq_of_lt (by omega) (by omega)] at h
 omega
theorem za_ne (r b d : Nat) (hr : r < b) (hb : b < big) (hd : d < 18446744073709551616) (h0 : 0 < d) : ¬ za r b d = 0 := by
 unfold za
 have h1 : zst r b d < 0 := by
  unfold zst
  have : (b : Int) ≤ (d : Int) * (b : Int) := by
   have := Nat.mul_le_mul (show 1 ≤ d from h0) (Nat.le_refl b)
   rw [← Int.natCast_mul]; omega
  omega
 have h2 : -(18446744073709551615 * (big : Int)) ≤ zst r b d := by
  unfold zst
  have h3 : d * b ≤ 18446744073709551615 * big := Nat.mul_le_mul (by omega) (by omega)
  rw [← Int.natCast_mul]; omega
 have h3 : zst r b d / (big : Int) < 0 := Int.ediv_neg_of_neg_of_pos h1 bigI
 have h4 : -18446744073709551615 ≤ zst r b d / (big : Int) := by
  rw [Int.le_ediv_iff_mul_le bigI]; omega
 omega
theorem guess_ge (X b : Nat) (hb : b < big) (hX : X < 18446744073709551616 * b) : X / b ≤ gs (X / big) (wn (X % big) 5) (wn b 5) := by
 have hb0 : 0 < b := by
  rcases Nat.eq_zero_or_pos b with h | h
  ·rw [h, Nat.mul_zero] at hX; omega
  ·exact h
 unfold gs
 by_cases c : wn b 5 ≤ X / big
 ·rw [if_pos c]
  have : X / b < 18446744073709551616 := by rw [Nat.div_lt_iff_lt_mul hb0]; exact hX
  omega
 ·rw [if_neg c]
  obtain ⟨j, hj⟩ : ∃ j, j = 5 := ⟨5, rfl⟩
  have hbj := big_j j hj
  rw [← hj] at c ⊢
  have e1 : wn b j = b / 2 ^ (64 * j) := by
   have := wd_last b j (by rw [← hbj]; exact hb)
   rw [wd_wn] at this; omega
  have e2 : X / big * 18446744073709551616 + wn (X % big) j = X / 2 ^ (64 * j) := by
   have h1 : wn (X % big) j = X % big / 2 ^ (64 * j) := by
    have := wd_last (X % big) j (by rw [← hbj]; exact Nat.mod_lt _ big_pos2)
    rw [wd_wn] at this; omega
   rw [h1]
   have h2 := Nat.div_add_mod X big
   generalize X % big = m at h2 ⊢
   generalize X / big = k at h2 ⊢
   rw [← h2, hbj, pow_step, Nat.mul_assoc, Nat.mul_add_div (pow_pos' j), Nat.mul_comm k]
  rw [e2, e1]
  have hq : 0 < b / 2 ^ (64 * j) := by rw [← e1]; omega
  rw [Nat.le_div_iff_mul_le hq, Nat.le_div_iff_mul_le (pow_pos' j)]
  have h3 : b / 2 ^ (64 * j) * 2 ^ (64 * j) ≤ b := Nat.div_mul_le_self _ _
  have h4 : X / b * b ≤ X := Nat.div_mul_le_self _ _
  rw [Nat.mul_assoc]
  exact Nat.le_trans (Nat.mul_le_mul (Nat.le_refl _) h3) h4
theorem take_z (X b t : Nat) (ht : X / b ≤ t) : zst (X % b) b (t - X / b) / (big : Int) = ((X / big : Nat) : Int) - ((tkT (X % big) t b : Nat) : Int) ∧ zl (X % b) b (t - X / b) = (X % big + big - t * b % big) % big := by
 have h1 : zst (X % b) b (t - X / b) = (X : Int) - (t : Int) * (b : Int) := by
  unfold zst
  have e := Nat.div_add_mod X b
  have e2 : ((t - X / b : Nat) : Int) = (t : Int) - ((X / b : Nat) : Int) := by omega
  rw [e2, Int.sub_mul]
  have e3 : ((X / b : Nat) : Int) * (b : Int) = ((b * (X / b) : Nat) : Int) := by rw [Int.natCast_mul, Int.mul_comm]
  rw [e3]; omega
 have e4 := Nat.div_add_mod X big
 have e5 := Nat.div_add_mod (t * b) big
 have l1 := Nat.mod_lt X big_pos2
 have l2 := Nat.mod_lt (t * b) big_pos2
 have hzl := zl_cast (X % b) b (t - X / b)
 rw [← Int.natCast_mul] at h1
 unfold tkT
 generalize X % big = m at *
 generalize t * b % big = u at *
 generalize hP : t * b = P at *
 by_cases hc : m < u
 ·rw [if_pos hc]
  obtain ⟨u1, u2⟩ := unq (u := zst (X % b) b (t - X / b)) (k := ((X / big : Nat) : Int) - ((P / big + 1 : Nat) : Int)) (m := (m : Int) + big - u) bigI (by
   rw [h1, Int.mul_sub, ← Int.natCast_mul, ← Int.natCast_mul, Nat.mul_add, Nat.mul_one]; omega) (by omega) (by omega)
  refine ⟨u1, ?_⟩
  rw [u2] at hzl
  rw [Nat.mod_eq_of_lt (show m + big - u < big by omega)]; omega
 ·rw [if_neg hc]
  obtain ⟨u1, u2⟩ := unq (u := zst (X % b) b (t - X / b)) (k := ((X / big : Nat) : Int) - ((P / big + 0 : Nat) : Int)) (m := (m : Int) - u) bigI (by
   rw [h1, Int.mul_sub, ← Int.natCast_mul, ← Int.natCast_mul, Nat.add_zero]; omega) (by omega) (by omega)
  refine ⟨u1, ?_⟩
  rw [u2] at hzl
  rw [Nat.mod_eq_sub_mod (show big ≤ m + big - u by omega), Nat.mod_eq_of_lt (show m + big - u - big < big by omega)]; omega
theorem stepL_any (g b L i : Nat) (hi : i ≤ 64) (hb : b < big) (hL : L < b) (w : World) (hm : Mm w [(g, lec b (wd L))]) :
  Calls Tryz.prog 105 #[PT g 0, .int .i64 ((i : Nat) : Int)] w fun e w' => e = .returned (.tuple #[]) ∧ Mm w' [(g, lec b (wd (L * 2 ^ i % b)))] ∧ Kp g w w' := by
 have hLb : L < big := by omega
 have hb0 : 0 < b := by omega
 have hX : L * 2 ^ i < 18446744073709551616 * b := by
  have h1 : 2 ^ i ≤ 18446744073709551616 := by
   have := Nat.pow_le_pow_right (show 0 < 2 by decide) hi
   exact this
  have h2 : L * 2 ^ i ≤ L * 18446744073709551616 := Nat.mul_le_mul (Nat.le_refl _) h1
  omega
 have cs := fun w hm => shiftL_any g b L i hi hLb w hm
 generalize L * 2 ^ i = X at cs hX ⊢
 have hge := guess_ge X b hb hX
 have hlt := gs_bd (X / big) (wn (X % big) 5) (wn b 5) (wn_lt _ _)
 have cg := fun w => guessM_any (X / big) (wn (X % big) 5) (wn b 5) (wn_lt _ _) (wn_lt _ _) w
 generalize gs (X / big) (wn (X % big) 5) (wn b 5) = t at hge hlt cg
 have ct := fun w hm => takeL_any g b (X % big) t (Nat.mod_lt _ big_pos2) hb hlt w hm
 obtain ⟨z1, z2⟩ := take_z X b t hge
 have hr := Nat.mod_lt X hb0
 rw [← z2] at ct
 have h := step_gen g b L (X % big) (X / big) t (tkT (X % big) t b) (t - X / b) ((i : Nat) : Int) (zl (X % b) b) (za (X % b) b) (fun x => decide (big ≤ zl (X % b) b (x + 1) + b))
  (za_zero _ _ (by omega)) (fun x hx => za_ne _ _ _ hr hb (by have := Nat.sub_le t (X / b); omega) (by omega)) (by rw [IntKind.wrap_u64, ← z1]; rfl)
  (fun x hx => by
   have hz := (z_step (X % b) b x hb).1
   rw [if_pos (of_decide_eq_true hx)] at hz
   unfold za
   rw [IntKind.wrap_u64, ← hz]; omega)
  (fun x hx => by
   have hz := (z_step (X % b) b x hb).1
   rw [if_neg (of_decide_eq_false hx)] at hz
   unfold za
   rw [hz])
  cs cg ct (fun x w => by
   have h := add_any (zl (X % b) b (x + 1)) b (zl_lt _ _ _) hb w
   rw [(z_step (X % b) b x hb).2] at h
   exact h) w hm
 rw [zl_zero _ _ (by omega)] at h
 exact h
theorem doubleL_any (g b L n : Nat) (hn : n ≤ 384) (hb : b < big) (hL : L < b) (w : World) (hm : Mm w [(g, lec b (wd L))]) :
  Calls Tryz.prog 62 #[PT g 0, .int .i64 ((n : Nat) : Int)] w fun e w' => e = .returned (.tuple #[]) ∧ Mm w' [(g, lec b (wd (L * 2 ^ n % b)))] ∧ Kp g w w' := by
 obtain ⟨K, j, hK, hj, hKj, e⟩ : ∃ K j, K < 1000 ∧ j ≤ 64 ∧ (0 < K → 0 < j) ∧ n = 64 * (K - 0) + j := by
  by_cases h0 : n = 0
  ·exact ⟨0, 0, by omega, by omega, by omega, by omega⟩
  ·exact ⟨(n - 1) / 64, n - 64 * ((n - 1) / 64), by omega, by omega, by omega, by omega⟩
 have hb0 : 0 < b := by omega
 have ef : ∀ k m, L * 2 ^ (64 * k) % b * 2 ^ m % b = L * 2 ^ (64 * k + m) % b := fun k m => by
  rw [Nat.mul_mod, Nat.mod_mod, ← Nat.mul_mod, Nat.mul_assoc, ← Nat.pow_add]
 have cf : ∀ k w, Mm w [(g, lec b (wd (L * 2 ^ (64 * k) % b)))] → Calls Tryz.prog 105 #[PT g 0, .int .i64 64] w fun e w' => e = .returned (.tuple #[]) ∧ Mm w' [(g, lec b (wd (L * 2 ^ (64 * (k + 1)) % b)))] ∧ Kp g w w' := fun k w hm => by
  have h := stepL_any g b (L * 2 ^ (64 * k) % b) 64 (Nat.le_refl _) hb (Nat.mod_lt _ hb0) w hm
  rw [ef k 64, show 64 * k + 64 = 64 * (k + 1) by omega] at h
  exact h
 have cl : ∀ w, Mm w [(g, lec b (wd (L * 2 ^ (64 * K) % b)))] → Calls Tryz.prog 105 #[PT g 0, .int .i64 ((64 * (K - K) + j : Nat) : Int)] w fun e w' => e = .returned (.tuple #[]) ∧ Mm w' [(g, lec b (wd (L * 2 ^ n % b)))] ∧ Kp g w w' := fun w hm => by
  have h := stepL_any g b (L * 2 ^ (64 * K) % b) j hj hb (Nat.mod_lt _ hb0) w hm
  rw [ef K j, show 64 * K + j = n by omega] at h
  rw [show 64 * (K - K) + j = j by omega]
  exact h
 have h0 : L * 2 ^ (64 * 0) % b = L := by rw [Nat.mul_zero, Nat.pow_zero, Nat.mul_one, Nat.mod_eq_of_lt hL]
 have h := double_gen g b (L * 2 ^ n % b) K j (fun k => L * 2 ^ (64 * k) % b) hK hj hKj cf cl w (by rw [h0]; exact hm)
 rw [← e] at h
 exact h
end Rg
end Go.Proofs.YtmanelnacifgcaaGreatDoor
end
section
namespace Go.Proofs.YtmanelnacifgcaaGreatDoor
open Go.RowKit
namespace Rg
section
variable {P : Program} {ops : Array Oper} {ks : List Kind} {a₀ : Act} {w₀ : World} {Q : Exit → Act → World → Prop}
/-- An operation that the store need not wait for: it tells its value behind it. -/
def LateAt (P : Program) (ops : Array Oper) (ks : List Kind) (a : Act) (w : World) : List Nat → Prop
 | [] => True
 | i :: r => (∃ o v, ops[i]? = some o ∧ ks[i]? = some (.q v) ∧ Region.wanted o (yielded ops a.tmps) = true ∧ (execOp a.eval o).run P w = .ok (.value v) w) ∧ LateAt P ops ks a w r
theorem LateAt.at {a : Act} {w : World} : ∀ {late : List Nat}, LateAt P ops ks a w late → ∀ {i : Nat}, i ∈ late → ∃ o v, ops[i]? = some o ∧ ks[i]? = some (.q v) ∧ Region.wanted o (yielded ops a.tmps) = true ∧ (execOp a.eval o).run P w = .ok (.value v) w
 | [], _, _, h => by cases h
 | j :: r, hl, i, h => by
  rcases List.mem_cons.1 h with e | h
  ·subst e; exact hl.1
  ·exact hl.2.at h
def isQuiet : Option Kind → Bool
 | some ((Sum.inl _)) => true
 | _ => false
theorem isQuiet_spec {k : Option Kind} (h : isQuiet k = true) : ∃ v, k = some (.q v) := by
 cases k with
 | none => cases h
 | some k => cases k using Kind.each <;> first | exact ⟨_, rfl⟩ | cases h
theorem mem_late2 {J : Nat → Nat} {w : World} : ∀ {late : List Nat} {l : Array Bool}, (late.all fun i => isQuiet ks[i]?) = true → Mem ks w₀ l J w → ∃ l', Mem ks w₀ l' J w ∧ l'.size = l.size ∧ (∀ i, l.getD i false = true → l'.getD i false = true) ∧ ∀ i ∈ late, i < l.size → l'.getD i false = true
 | [], l, _, h => ⟨l, h, rfl, fun _ h => h, fun _ h => by cases h⟩
 | j :: r, l, hl, h => by
  simp only [List.all_cons, Bool.and_eq_true] at hl
  obtain ⟨v, hk⟩ := isQuiet_spec hl.1
  obtain ⟨l', h1, h2, h3, h4⟩ := mem_late2 (late := r) hl.2 (h.still (Below.refl _ _) hk rfl (fun _ _ _ h => by cases h))
  refine ⟨l', h1, by rw [h2]; simp, fun i hi => h3 i (getD_true hi), fun i hi hlt => ?_⟩
  rcases List.mem_cons.1 hi with e | hi
  ·subst e
   exact h3 i (by simp [hlt])
  ·exact h4 i hi (by simpa using hlt)
theorem after_put2 {full : Array Oper} {n p : Nat} (hO : Orderly ops ks n) (hn : n = a₀.tmps.size) (hp : ops.size = p) (hpf : p + 1 ≤ full.size) (hfull : ∀ i, i < p → full[i]? = ops[i]?) (hgd : ∀ {i : Nat} {o : Oper} {g : Nat} {b : Bool}, ops[i]? = some o → o.guard = some (g, b) → g < p)
  (hup : ∀ {i : Nat} {o : Oper}, full[i]? = some o → ∀ e ∈ o.after, Region.binds .any e = true → e.on < i)
  (hwt : ∀ {i : Nat} {o : Oper}, full[i]? = some o → p + 1 ≤ i → ∀ j, j < i → waitsT full 4 o j = true)
  {late : List Nat} {J : Nat → Nat} {w : World} (hlate : LateAt P ops ks (yF J 0 ops.toList ks a₀) w late) (hQ : wpOps P full Q (List.range' (p + 1) (full.size - (p + 1))) (yF J 0 ops.toList ks a₀) w) :
  ∀ (fuel : Nat) (l : Array Bool) (a : Act), l.size = full.size → l.toList.count false ≤ fuel → Closed full l → (∀ i, i ≤ p → l.getD i true = false → i ∈ late) → (∀ i, p + 1 ≤ i → i < full.size → l.getD i true = false) → Agree ops ks a₀ l J a → wpAny P .any full Q fuel l a w := by
 intro fuel
 induction fuel with
 | zero =>
  intro l a hsz hc hcl hu ht hA
  have hall : ∀ i, i < full.size → l.getD i false = true := fun i hi => by
   cases hb : l.getD i true with
   | false => have := count_set hb; omega
   | true =>
    have hi' : i < l.size := by omega
    simpa [hi'] using hb
  rw [hA.whole (fun i hi => hall i (by omega))]
  have h0 := tail_count full.size (full.size - (p + 1)) l hsz (by omega) (fun i hi1 hi2 => ht i (by omega) hi2)
  exact rest_anyT (p + 1) hup hwt (full.size - (p + 1)) 0 (p + 1) l _ w (by omega) (Nat.le_refl _) hsz (by omega) hcl (fun i hi => hall i (by omega)) ht hQ
 | succ fuel ih =>
  intro l a hsz hc hcl hu ht hA
  by_cases hall : ∀ i, i < p + 1 → l.getD i false = true
  ·rw [hA.whole (fun i hi => hall i (by omega))]
   have h0 := tail_count full.size (full.size - (p + 1)) l hsz (by omega) (fun i hi1 hi2 => ht i (by omega) hi2)
   exact rest_anyT (p + 1) hup hwt (full.size - (p + 1)) (fuel + 1) (p + 1) l _ w (by omega) (Nat.le_refl _) hsz (by omega) hcl hall ht hQ
  ·have hex : ∃ x, x < p + 1 ∧ l.getD x false = false := by
    apply Classical.byContradiction
    intro hno
    apply hall
    intro i hi
    cases hb : l.getD i false with
    | true => rfl
    | false => exact absurd ⟨i, hi, hb⟩ hno
   obtain ⟨x, hx, hxf⟩ := hex
   refine ⟨fun hr => ?_, fun i hi => ?_⟩
   ·have := ready_all hup hsz hr x (by omega)
    rw [hxf] at this
    cases this
   ·obtain ⟨hun, o, ho, hedge⟩ := mem_ready.1 hi
    have hilt : i < full.size := (Array.getElem?_eq_some_iff.1 ho).1
    have hip1 : i < p + 1 := by
     rcases Nat.lt_or_ge i (p + 1) with h' | h'
     ·exact h'
     ·have := waitsT_spec hcl 4 o (hwt ho h' x (by omega)) hedge
      rw [hxf] at this
      cases this
    obtain ⟨o', v, ho', hk, hxq⟩ := hlate.at (hu i (by omega) hun)
    have hip : i < p := by rw [← hp]; exact (Array.getElem?_eq_some_iff.1 ho').1
    have hof := ho
    rw [hfull i hip, ho'] at ho
    injection ho with ho
    subst ho
    obtain ⟨he, hw0⟩ := hA.sees hO ho' hedge
    have hy : ∀ ts, Region.wanted o' (yielded full ts) = Region.wanted o' (yielded ops ts) := fun ts => by
     unfold Region.wanted
     cases hg : o'.guard with
     | none => rfl
     | some gw =>
      obtain ⟨g, want⟩ := gw
      have : yielded full ts g = yielded ops ts g := by unfold yielded; rw [hfull g (hgd ho' hg)]
      simp only [this]
    have hc' := count_set hun
    refine wpOp_step hof (fun K' hK => ?_)
    rw [hy, hw0, if_pos hxq.1]
    unfold Oper.wp
    rw [he, hxq.2]
    refine hK _ _ (ih _ _ (by simp [hsz]) (by omega) (hcl.step hof hedge) (fun j hj hj2 => ?_) (fun j hj hj2 => ?_) (hA.step hO hn ho' hk (fun _ _ _ _ => rfl)))
    ·by_cases e : i = j
     ·subst e
      have hi' : i < l.size := by omega
      simp [hi'] at hj2
     ·rw [getD_set_ne true e] at hj2
      exact hu j hj hj2
    ·rw [getD_set_ne true (by omega)]
     exact ht j hj hj2
theorem first_put2 {full : Array Oper} {n p : Nat} {op : Oper} (hO : Orderly ops ks n) (hn : n = a₀.tmps.size) (hL : LaidOk ks ks) {S : World → Prop} (hS : ∀ w, Below w₀.heap.size w₀ w → S w)
  (hp : ops.size = p) (hpf : p + 1 ≤ full.size) (hfull : ∀ i, i < p → full[i]? = ops[i]?) (hgd : ∀ {i : Nat} {o : Oper} {g : Nat} {b : Bool}, ops[i]? = some o → o.guard = some (g, b) → g < p)
  (hup : ∀ {i : Nat} {o : Oper}, full[i]? = some o → ∀ e ∈ o.after, Region.binds .any e = true → e.on < i)
  (hop : full[p]? = some op) (hdst : op.dst = none) (hgu : op.guard = none) (hsel : ∀ cs b, op.op ≠ .select cs b)
  {late : List Nat} (hwp : ∀ j, j < p → waitsT full 4 op j = true ∨ j ∈ late) (hlook : ∀ d ∈ op.looksAt full, ∀ j oj, ops[j]? = some oj → oj.dst = some d → waitsT full 4 op j = true)
  (hwt : ∀ {i : Nat} {o : Oper}, full[i]? = some o → p + 1 ≤ i → ∀ j, j < i → waitsT full 4 o j = true)
  (hlate : (late.all fun i => isQuiet ks[i]?) = true)
  (hops : AllOk P ops S (fun J => yF J 0 ops.toList ks a₀) ops.toList ks)
  (hend : ∀ J w l, Mem ks w₀ l J w → (∀ i, i < p → l.getD i false = true) → ∃ w', (execOp (yF J 0 ops.toList ks a₀).eval op).run P w = .ok .skip w' ∧ LateAt P ops ks (yF J 0 ops.toList ks a₀) w' late ∧ wpOps P full Q (List.range' (p + 1) (full.size - (p + 1))) (yF J 0 ops.toList ks a₀) w') :
  ∀ (fuel : Nat) (l : Array Bool) (J : Nat → Nat) (a : Act) (w : World), l.size = full.size → l.toList.count false ≤ fuel → Closed full l → (∀ i, p ≤ i → i < full.size → l.getD i true = false) → Agree ops ks a₀ l J a → Mem ks w₀ l J w → wpAny P .any full Q fuel l a w := by
 intro fuel
 induction fuel with
 | zero =>
  intro l J a w hsz hc hcl ht hA hM
  have := count_set (ht p (Nat.le_refl _) (by omega))
  omega
 | succ fuel ih =>
  intro l J a w hsz hc hcl ht hA hM
  have hpu := ht p (Nat.le_refl _) (by omega)
  refine ⟨fun hr => ?_, fun i hi => ?_⟩
  ·have := ready_all hup hsz hr p (by omega)
   rw [(getD_same hpu).1] at this
   cases this
  ·obtain ⟨hun, o, ho, hedge⟩ := mem_ready.1 hi
   have hilt : i < full.size := (Array.getElem?_eq_some_iff.1 ho).1
   have hc' := count_set hun
   have hip1 : i < p + 1 := by
    rcases Nat.lt_or_ge i (p + 1) with h' | h'
    ·exact h'
    ·have := waitsT_spec hcl 4 o (hwt ho h' p (by omega)) hedge
     rw [(getD_same hpu).1] at this
     cases this
   by_cases hip : i = p
   ·subst hip
    have ho2 := ho
    rw [hop] at ho
    injection ho with ho
    subst ho
    have hbefore : ∀ j, j < i → j ∉ late → l.getD j false = true := fun j hj hnl => by
     rcases hwp j hj with h | h
     ·exact waitsT_spec hcl 4 _ h hedge
     ·exact absurd h hnl
    obtain ⟨l', hM', hs', hl1, hl2⟩ := mem_late2 hlate hM
    have hfin : ∀ j, j < i → l'.getD j false = true := fun j hj => by
     by_cases h : j ∈ late
     ·exact hl2 j h (by omega)
     ·exact hl1 j (hbefore j hj h)
    obtain ⟨w', hx, hla, hQ⟩ := hend J w l' hM' hfin
    have he := see_all (full := full) hA hsel (fun d hd j oj hj hdj => waitsT_spec hcl 4 _ (hlook d hd j oj hj hdj) hedge)
    refine wpOp_step hop (fun K' hK => ?_)
    have hwn : Region.wanted op (yielded full a.tmps) = true := by unfold Region.wanted; rw [hgu]
    rw [if_pos hwn]
    unfold Oper.wp
    rw [he, hx]
    have hA' : Agree ops ks a₀ (l.setIfInBounds i true) J (a.put op.dst undef) := by
     rw [hdst]
     refine ⟨hA.defers, hA.size, fun d hd => hA.slots d (fun j oj hj hdj => ?_)⟩
     have h1 := hd j oj hj hdj
     have hj' : j < i := by rw [← hp]; exact (Array.getElem?_eq_some_iff.1 hj).1
     rwa [getD_set_ne false (by omega)] at h1
    refine hK _ _ (after_put2 hO hn hp hpf hfull hgd hup hwt hla hQ fuel _ _ (by simp [hsz]) (by omega) (hcl.step ho2 hedge) (fun j hj hj2 => ?_) (fun j hj hj2 => ?_) hA')
    ·by_cases e : i = j
     ·subst e
      have hi' : i < l.size := by omega
      simp [hi'] at hj2
     ·rw [getD_set_ne true e] at hj2
      apply Classical.byContradiction
      intro hnl
      have := hbefore j (by omega) hnl
      rw [(getD_same hj2).1] at this
      cases this
    ·rw [getD_set_ne true (by omega)]
     exact ht j (by omega) hj2
   ·have hlt : i < p := by omega
    have ho' : ops[i]? = some o := by rw [← hfull i hlt]; exact ho
    refine kind_step hO hn hL hS hfull hgd hops hA hM hlt ho' hun hedge (fun J' a' w' hA' hM' => ?_)
    exact ih _ J' a' w' (by simp [hsz]) (by omega) (hcl.step ho hedge) (fun j hj hj2 => by rw [getD_set_ne true (by omega)]; exact ht j hj hj2) hA' hM'
/-- **The law of such a region.** -/
theorem walk_put2 {full : Array Oper} {a : Act} {w : World} {id : Nat} (hm : P.follows .mixedOrders = true) (p : Nat) (late : List Nat) (ks : List Kind) (S : World → Prop) (pre : List Oper) (F : (Nat → Nat) → Act) (op : Oper) (hpre : full.toList.take p = pre)
  (hF : ∀ J, yF J 0 pre ks a = F J) (hor : (orderly pre.toArray ks a.tmps.size && guarded pre.toArray p && putly full p late) = true) (hop : full[p]? = some op) (hL : LaidOk ks ks) (hS : ∀ w', Below w.heap.size w w' → S w')
  (hops : AllOk P pre.toArray S F pre ks) (hlate : (late.all fun i => isQuiet ks[i]?) = true)
  (hend : ∀ J w' l, Mem ks w l J w' → (∀ i, i < p → l.getD i false = true) → ∃ w'', (execOp (F J).eval op).run P w' = .ok .skip w'' ∧ LateAt P pre.toArray ks (F J) w'' late ∧ wpOps P full Q (List.range' (p + 1) (full.size - (p + 1))) (F J) w'') :
  (Code.region id full true).wp P Q a w := by
 subst hpre
 obtain rfl : (fun J => yF J 0 (full.toList.take p) ks a) = F := funext hF
 simp only [Bool.and_eq_true] at hor
 obtain ⟨⟨h1, h2⟩, h3⟩ := hor
 unfold putly at h3
 rw [hop] at h3
 simp only [Bool.and_eq_true, decide_eq_true_eq, Option.isNone_iff_eq_none] at h3
 obtain ⟨⟨⟨⟨h5, h6⟩, h7⟩, ⟨⟨h8, h9⟩, h10⟩, h11⟩, h12⟩ := h3
 have hsz : (full.toList.take p).toArray.size = p := by simp; omega
 have hfu : ∀ i, i < p → full[i]? = (full.toList.take p).toArray[i]? := fun i hi => by rw [← take_arr]; exact first_full hi
 refine wp_region_any hm (first_put2 (ops := (full.toList.take p).toArray) (Orderly.of h1) rfl hL hS hsz h6 hfu (fun ho hg => guarded_spec h2 ho hg) (fun ho e he hb => ?_) hop h8 h9 (fun cs b => Region.noSelect_spec h7 p op cs b hop) (late := late) (fun j hj => ?_) (fun d hd j oj hj hdj => ?_) (fun ho hi j hj => ?_) hlate hops hend full.size _ (fun _ => 0) a w.drew (by simp) (by simp) (Closed.none _ _) (fun i _ hi => none_listed' hi) (start_agree _ _) (start_mem _ _ (Below.refl _ _).drew))
 ·have := Array.all_eq_true_iff_forall_mem.1 (zZ h5 ho) e he
  simpa [hb] using this
 ·have := List.all_eq_true.1 h10 j (List.mem_range.2 hj)
  simpa using this
 ·have hj' : j < p := by rw [← hsz]; exact (Array.getElem?_eq_some_iff.1 hj).1
  have := zZ (List.all_eq_true.1 h11 d hd) (by rw [hfu j hj']; exact hj)
  simp only [hdj, bne_self_eq_false, Bool.false_or, Bool.or_eq_true, decide_eq_true_eq] at this
  rcases this with h | h
  ·exact h
  ·omega
 ·have := zZ h12 ho
  simp only [Bool.or_eq_true, decide_eq_true_eq] at this
  rcases this with h | h
  ·omega
  ·exact List.all_eq_true.1 h j (List.mem_range.2 hj)
end
end Rg
end Go.Proofs.YtmanelnacifgcaaGreatDoor
end
section
namespace Go.Proofs.YtmanelnacifgcaaGreatDoor
open Go.RowKit
namespace Rg
abbrev zero12 : List Value := [.int .u64 0, .int .u64 0, .int .u64 0, .int .u64 0, .int .u64 0, .int .u64 0, .int .u64 0, .int .u64 0, .int .u64 0, .int .u64 0, .int .u64 0, .int .u64 0]
abbrev lev (b L : Nat) : Value := .agg (lec b (wd L)).toArray
theorem ex_madeL {ρ : Operand → Value} {o : Oper} {w : World} (ho : o.op = .alloc 119) :
  (execOp ρ o).run Tryz.prog w = .ok (.value (.pointer (some ⟨w.heap.size, 0, none⟩))) (w.alloc (.cells zero12.toArray 119)) := by
 simp only [execOp, ho]
 go_simp
theorem ex_buildL {ρ : Operand → Value} {o : Oper} {x : Operand} {b z : Nat} {w : World} (hz : z = 0) (ho : o.op = .build 119 #[(0, x)]) (hx : ρ x = N b) : (execOp ρ o).run Tryz.prog w = .ok (.value (lev b z)) w := by
 subst hz
 simp only [execOp, ho]
 go_simp
 simp [wd_zero]
theorem ex_laidL {ρ : Operand → Value} {o : Oper} {x y : Operand} {g b L : Nat} {w : World} (hb : Blk w g zero12) (ho : o.op = .store 119 x y) (hx : ρ x = .pointer (some ⟨g, 0, none⟩)) (hy : ρ y = lev b L) :
  (execOp ρ o).run Tryz.prog w = .ok .skip (w.setCells g 0 (lec b (wd L))) := ex_laidT hb rfl rfl Tryz.sizeOf119 ho hx hy
set_option maxHeartbeats 2000000 in
theorem powersOf_gen (n l s B z L0 L1 L2 o q : Nat) (cB : Bool) (hz : z = 0) (hl : l ≤ 384) (hs : s = 384 - l)
  (cl : ∀ w, Calls Tryz.prog 34 #[N n] w (Rt w (.int .i64 ((l : Nat) : Int))))
  (cb : ∀ w, Calls Tryz.prog 61 #[N n, .int .i64 ((s : Nat) : Int)] w (Rt w (N B)))
  (cs : ∀ w, Calls Tryz.prog 39 #[N 0, N B] w (Rt w (.tuple #[N L0, .bool cB])))
  (d1 : ∀ g w, Mm w [(g, lec B (wd L0))] → Calls Tryz.prog 62 #[PT g 0, .int .i64 ((s : Nat) : Int)] w fun e w' => e = .returned (.tuple #[]) ∧ Mm w' [(g, lec B (wd L1))] ∧ Kp g w w')
  (co : ∀ w, Calls Tryz.prog 61 #[N L1, .int .i64 (-((s : Nat) : Int))] w (Rt w (N o)))
  (d2 : ∀ g w, Mm w [(g, lec B (wd L1))] → Calls Tryz.prog 62 #[PT g 0, .int .i64 384] w fun e w' => e = .returned (.tuple #[]) ∧ Mm w' [(g, lec B (wd L2))] ∧ Kp g w w')
  (cq : ∀ w, Calls Tryz.prog 61 #[N L2, .int .i64 (-((s : Nat) : Int))] w (Rt w (N q))) (w : World) :
  Calls Tryz.prog 36 #[N n] w (Rt w (.tuple #[N o, N q])) := by
 have H0 : Hid (_ ∧ _) := ⟨Mm.nil w, Below.refl w.heap.size w⟩
 have CL : Hid _ := cl
 have CB : Hid _ := cb
 have CS : Hid _ := cs
 have CD1 : Hid _ := d1
 have CO : Hid _ := co
 have CD2 : Hid _ := d2
 have CQ : Hid _ := cq
 have HZ : Hid _ := hz
 clear cl cb cs d1 co d2 cq hz
 go_enter Tryz.func36, Tryz.ntmps36
 refine wp_seq ?_
 refine zB 3 [.made (zD n) 24, .made zero6 24, .made zero6 24] (sB H0) ?ho1 ?he1
 case ho1 => exact am (yE rfl rfl) (am (zL rfl) (am (zL rfl) trivial))
 intro J w1 l hM hl
 have H1 : Hid (Mm w1 [(J 0, zD n), (J 1, zero6), (J 2, zero6)] ∧ _) := wB H0 hM hl [0, 1, 2]
 have o1_0 := vB H0 hM hl 0
 have o1_1 := vB H0 hM hl 1
 have o1_2 := vB H0 hM hl 2
 clear hM hl l
 generalize J 0 = J1_0 at H1 o1_0 ⊢
 generalize J 1 = J1_1 at H1 o1_1 ⊢
 generalize J 2 = J1_2 at H1 o1_2 ⊢
 clear J
 refine rN (wp_seq ?_)
 refine zC 4 [.q (N n), .call (.int .i64 ((l : Nat) : Int)), .q (.int .i64 ((s : Nat) : Int)), .q (.int .i64 ((s : Nat) : Int))] H1 ?ho2 ?he2
 case ho2 => exact bN 0 (ac (fun w' h => eC call34 (CL.out w')) (ak (by refine fun J => ⟨rfl, fun w' h => ?_⟩; clear h; go_simp; rw [IntKind.wrap_i64]; omega) (ar trivial)))
 intro _ w2 H2
 clear H1
 refine rN (wp_seq ?_)
 refine zB 6 [.q (N n), .q (.int .i64 ((s : Nat) : Int)), .call (N B), .q (lev B z), .made zero12 119, .laid 4 zero12 (lec B (wd z))] (sB H2) ?ho3 ?he3 (hL := ?hL3)
 case hL3 => exact ⟨⟨_, rfl⟩, trivial⟩
 case ho3 => exact bN 0 (ar (ac (fun w' h => eC call61 (CB.out w')) (ak (fun J => ⟨rfl, fun w' _ => ex_buildL HZ.out rfl rfl⟩) (am (ex_madeL rfl) (ak (fun J => ⟨rfl, rfl, rfl, fun w' h => ex_laidL h rfl rfl rfl⟩) trivial)))))
 intro J w3 l hM hl
 have H3 : Hid (Mm w3 ([(J 4, lec B (wd z))] ++ _) ∧ _) := wB H2 hM hl [4]
 have o3_4 := vB H2 hM hl 4
 clear hM hl l H2
 generalize J 4 = J3_4 at H3 o3_4 ⊢
 clear J
 refine rN (wp_seq ?_)
 refine zC 8 [.q (N 0), .q (PT J3_4 0), .q (N B), .call (.tuple #[N L0, .bool cB]), .q (.tuple #[N L0, .bool cB]), .q (N L0), .q (.bool cB), .q (PT J3_4 6)] H3 ?ho4 ?he4
 case ho4 => exact ak (by refine fun J => ⟨rfl, fun w' h => ?_⟩; clear h; exact ex_zero6 rfl) (ag (bN 0 (ac (fun w' h => eC call39 (CS.out w')) (ar (ag (ag (ag trivial)))))))
 intro _ w4 H4
 clear H3
 refine zF (l := [8]) rfl ?_
 refine sG rfl (fun h => zP h 0 rfl rfl rfl rfl (Nat.le_of_ble_eq_true rfl)) 0 [(_, lec B (wd L0)), _, _, _] H4 o3_4 fun w5 H5 => ?_
 clear H4
 refine zE (zA (wp_seq ?_))
 refine zC 1 [.q (.int .i64 ((s : Nat) : Int))] H5 ?ho5 ?he5
 case ho5 => exact ar trivial
 intro _ w6 H6
 clear H5
 refine zF (l := [1]) rfl ?_
 refine rest_enter (d := 22) (R := fun vv w' => vv = .tuple #[] ∧ Mm w' [(J3_4, lec B (wd L1))] ∧ Kp J3_4 w6 w') rfl rfl rfl (exec_call (args := #[PT J3_4 0, .int .i64 ((s : Nat) : Int)]) rfl call62 rfl (mpn rfl)) (Calls.mono (CD1.out J3_4 w6 (H6.out.1.one 0 rfl)) (fun e w2 hh => ⟨_, hh.1, rfl, hh.2⟩)) ?_
 rintro _ w7 ⟨rfl, hn, hp⟩
 have H7 : Hid (Mm w7 [(J3_4, lec B (wd L1)), (J1_0, zD n), (J1_1, zero6), (J1_2, zero6)] ∧ Below w.heap.size w w7) := ⟨H6.out.1.change 0 rfl hp hn, Below.kp H6.out.2 hp o3_4.out H6.out.2.size⟩
 clear hn hp H6
 simp only [Act.put, sa, sz, ss]
 refine zE (zA (wp_seq ?_))
 refine zC 5 [.q (PT J3_4 6), .q (N L1), .q (.int .i64 ((s : Nat) : Int)), .q (.int .i64 (-((s : Nat) : Int))), .call (N o)] H7 ?ho6 ?he6
 case ho6 => exact ag (bN 0 (ar (ak (by refine fun J => ⟨rfl, fun w' h => ?_⟩; clear h; go_simp; rw [IntKind.wrap_i64]; omega) (ac (fun w' h => eC call61 (CO.out w')) trivial))))
 intro _ w8 H8
 clear H7
 refine zF (l := [5]) rfl ?_
 refine sG rfl (fun h => zP h 2 rfl rfl rfl rfl (Nat.le_of_ble_eq_true rfl)) 2 [_, _, (_, zD o), _] H8 o1_1 fun w9 H9 => ?_
 clear H8
 refine zE (zA (wp_seq ?_))
 refine zC 0 [] H9 ?ho7 ?he7
 case ho7 => exact trivial
 intro _ w10 H10
 clear H9
 refine zF (l := [0]) rfl ?_
 refine rest_enter (d := 28) (R := fun vv w' => vv = .tuple #[] ∧ Mm w' [(J3_4, lec B (wd L2))] ∧ Kp J3_4 w10 w') rfl rfl rfl (exec_call (args := #[PT J3_4 0, .int .i64 384]) rfl call62 rfl (mpn rfl)) (Calls.mono (CD2.out J3_4 w10 (H10.out.1.one 0 rfl)) (fun e w2 hh => ⟨_, hh.1, rfl, hh.2⟩)) ?_
 rintro _ w11 ⟨rfl, hn, hp⟩
 have H11 : Hid (Mm w11 [(J3_4, lec B (wd L2)), (J1_0, zD n), (J1_1, zD o), (J1_2, zero6)] ∧ Below w.heap.size w w11) := ⟨H10.out.1.change 0 rfl hp hn, Below.kp H10.out.2 hp o3_4.out H10.out.2.size⟩
 clear hn hp H10
 simp only [Act.put, sa, sz, ss]
 refine zE (zA (wp_seq ?_))
 refine zC 5 [.q (PT J3_4 6), .q (N L2), .q (.int .i64 ((s : Nat) : Int)), .q (.int .i64 (-((s : Nat) : Int))), .call (N q)] H11 ?ho8 ?he8
 case ho8 => exact ag (bN 0 (ar (ak (by refine fun J => ⟨rfl, fun w' h => ?_⟩; clear h; go_simp; rw [IntKind.wrap_i64]; omega) (ac (fun w' h => eC call61 (CQ.out w')) trivial))))
 intro _ w12 H12
 clear H11
 refine zF (l := [5]) rfl ?_
 refine sG rfl (fun h => zP h 3 rfl rfl rfl rfl (Nat.le_of_ble_eq_true rfl)) 3 [_, _, _, (_, zD q)] H12 o1_2 fun w13 H13 => ?_
 clear H12
 refine zE (zA (wp_seq ?_))
 refine walk_put2 (by kernel_rfl) 2 [1] [.q (N o), .q (N q)] _ ?pre9 ?F9 _ ?hpre9 (fun J => ?hF9) (by kernel_rfl) rfl trivial (sB H13) ?ho9 ?hla9 ?he9
 case hpre9 => simp only [tk, tz]; rfl
 case hF9 => simp only [yF, Kind.val, Act.put, sa, sz, ss]; rfl
 case ho9 =>
  refine bN 2 ?_
  refine bN 3 ?_
  exact trivial
 case hla9 => exact rfl
 intro J w14 l hM hl
 have H14 := keepB H13 hM.below
 clear hM hl l H13 J
 have H15 : Hid (Mm (w14.setCells J1_1 0 (zD o)) [(J3_4, lec B (wd L2)), (J1_0, zD n), (J1_1, zD o), (J1_2, zD q)] ∧ Below w.heap.size w (w14.setCells J1_1 0 (zD o))) := ⟨H14.out.1.put 2 (off := 0) (vs := zD o) rfl (Nat.le_of_ble_eq_true rfl), yD _ o1_1.out _ _ _ H14.out.2⟩
 refine ⟨_, zP H14.out.1 2 rfl rfl rfl rfl (Nat.le_of_ble_eq_true rfl), ⟨⟨_, _, rfl, rfl, rfl, yG H15.out.1 3 rfl rfl rfl rfl⟩, trivial⟩, ?_⟩
 clear H14
 generalize hgw : World.setCells _ _ _ _ = w15 at H15 ⊢
 clear hgw
 refine zF (l := [3]) rfl ?_
 refine sG rfl (fun h => zP h 3 rfl rfl rfl rfl (Nat.le_of_ble_eq_true rfl)) 3 [_, _, _, (_, zD q)] H15 o1_2 fun w16 H16 => ?_
 clear H15
 refine zE (zA (wp_ret ?_))
 repeat (first | refine zK ?_ | refine zH ?_)
 have c0 := H16.out.1.get 2 rfl 0 rfl
 have c1 := H16.out.1.get 2 rfl 1 rfl
 have c2 := H16.out.1.get 2 rfl 2 rfl
 have c3 := H16.out.1.get 2 rfl 3 rfl
 have c4 := H16.out.1.get 2 rfl 4 rfl
 have c5 := H16.out.1.get 2 rfl 5 rfl
 have c1_0 := H16.out.1.get 3 rfl 0 rfl
 have c1_1 := H16.out.1.get 3 rfl 1 rfl
 have c1_2 := H16.out.1.get 3 rfl 2 rfl
 have c1_3 := H16.out.1.get 3 rfl 3 rfl
 have c1_4 := H16.out.1.get 3 rfl 4 rfl
 have c1_5 := H16.out.1.get 3 rfl 5 rfl
 refine bodyPost_ret (v := .tuple #[N o, N q]) (by simp [results, Tryz.results36, go_sem, *]) rfl ?_
 exact ⟨rfl, H16.out.2⟩
theorem lead_facts {n : Nat} (ok : Ok n) : ∃ l s, l = bl n ∧ l ≤ 384 ∧ s = 384 - l ∧ s < 384 ∧ n * 2 ^ s < big ∧ big < n * 2 ^ s + n * 2 ^ s := by
 have h0 : n ≠ 0 := by have := ok.three; omega
 have h1 := bl_lt n
 have h2 := bl_le n h0
 have h3 := bl_pos n h0
 have h4 := len_ok ok
 have hl : bl n ≤ 382 := by omega
 refine ⟨bl n, 384 - bl n, rfl, by omega, rfl, by omega, ?_, ?_⟩
 ·obtain ⟨m, hm, e⟩ := big_pow
  have hs : 64 * m = bl n + (384 - bl n) := by omega
  rw [e, hs, Nat.pow_add]
  exact Nat.mul_lt_mul_of_pos_right h1 (Nat.two_pow_pos _)
 ·obtain ⟨m, hm, e⟩ := big_pow
  have hs : 64 * m = (bl n - 1) + 1 + (384 - bl n) := by omega
  have hne : 2 ^ (bl n - 1) ≠ n := by
   intro h
   rcases Nat.lt_or_ge (bl n - 1) 1 with g | g
   ·have : bl n - 1 = 0 := by omega
    rw [this, Nat.pow_zero] at h
    have := ok.three; omega
   ·obtain ⟨k, hk⟩ : ∃ k, bl n - 1 = k + 1 := ⟨bl n - 1 - 1, by omega⟩
    rw [hk, Nat.pow_succ] at h
    have := ok.odd; omega
  have hlt : 2 ^ (bl n - 1) < n := by omega
  have h5 := Nat.mul_lt_mul_of_pos_right hlt (Nat.two_pow_pos (384 - bl n))
  rw [e, hs, Nat.pow_add, Nat.pow_succ, Nat.mul_right_comm]
  omega
theorem powersOf_any {n : Nat} (ok : Ok n) (w : World) : Calls Tryz.prog 36 #[N n] w (Rt w (.tuple #[N (big % n), N (big * big % n)])) := by
 obtain ⟨l, s, hl, hl2, hs, hs2, hB, hB2⟩ := lead_facts ok
 have cb := fun w => shift_up n s hs2 w
 rw [Nat.mod_eq_of_lt hB] at cb
 have hBp : 0 < n * 2 ^ s := by omega
 have cl := fun w => len_any n ok.big w
 rw [← hl] at cl
 obtain ⟨B, hBe⟩ : ∃ B, B = n * 2 ^ s := ⟨_, rfl⟩
 rw [← hBe] at cb hB hB2 hBp
 have cs := fun w => sub_any 0 B big_pos2 hB w
 rw [Nat.zero_add, Nat.mod_eq_of_lt (show big - B < big by omega)] at cs
 have hL0 : big - B < B := by omega
 have hmod : big % B = big - B := by
  rw [Nat.mod_eq_sub_mod (by omega), Nat.mod_eq_of_lt hL0]
 have d1 := fun g w hm => doubleL_any g B (big - B) s (by omega) hB hL0 w hm
 have e1 : (big - B) * 2 ^ s % B = big % n * 2 ^ s := by
  rw [← hmod, Nat.mul_mod, Nat.mod_mod, ← Nat.mul_mod, hBe, Nat.mul_mod_mul_right]
 rw [e1] at d1
 have hp := Nat.two_pow_pos s
 have hL1 : big % n * 2 ^ s < B := by
  rw [hBe]; exact Nat.mul_lt_mul_of_pos_right (Nat.mod_lt _ ok.pos) hp
 obtain ⟨k, hk⟩ : ∃ k : Nat, k = 384 := ⟨_, rfl⟩
 have d2 := fun g w hm => doubleL_any g B (big % n * 2 ^ s) k (by omega) hB hL1 w hm
 have e2 : big % n * 2 ^ s * 2 ^ k % B = big * big % n * 2 ^ s := by
  rw [pow_is k (by omega), Nat.mul_right_comm, hBe, Nat.mul_mod_mul_right, Nat.mul_mod, Nat.mod_mod, ← Nat.mul_mod]
 rw [e2] at d2
 have hL2 : big * big % n * 2 ^ s < B := by
  rw [hBe]; exact Nat.mul_lt_mul_of_pos_right (Nat.mod_lt _ ok.pos) hp
 have ek : ((k : Nat) : Int) = 384 := by omega
 rw [ek] at d2
 have co := fun w => shift_neg' (big % n * 2 ^ s) s (by omega) hs2 w
 have cq := fun w => shift_neg' (big * big % n * 2 ^ s) s (by omega) hs2 w
 rw [Nat.mul_div_cancel _ hp] at co cq
 exact powersOf_gen n l s B 0 (big - B) _ _ _ _ _ rfl hl2 hs cl cb cs d1 co d2 cq w
theorem new_4 (n o s : Nat) (L : Int) (hr : (wd n 0).tmod 2 = 1)
  (e1 : ∀ w, (Op.equalIn 10000 24 (N n) (N 1)).run Tryz.prog w = .ok false w) (hL : ¬ (382 : Int) < L)
  (c29 : ∀ w, Calls Tryz.prog 17 #[.int .u64 1] w (Rt w (N 1)))
  (c33 : ∀ w, Calls Tryz.prog 34 #[N n] w (Rt w (.int .i64 L)))
  (c34 : ∀ w, Calls Tryz.prog 35 #[.int .u64 (wd n 0)] w (Rt w (.int .u64 (wrapZ (wd n 0)))))
  (c35 : ∀ w, Calls Tryz.prog 36 #[N n] w (Rt w (.tuple #[N o, N s]))) (w : World) :
  Calls Tryz.prog 12 #[N n] w fun e w' => Below w.heap.size w w' ∧ ∃ g, e = .returned (.tuple #[PT g 0, .int .i64 0]) ∧ w.heap.size ≤ g ∧ g < w'.heap.size ∧ Blk w' g (zX n o s) := by
 have H0 : Hid (_ ∧ _) := ⟨Mm.nil w, Below.refl w.heap.size w⟩
 have C29 : Hid _ := c29
 have C33 : Hid _ := c33
 have C34 : Hid _ := c34
 have C35 : Hid _ := c35
 clear c29 c33 c34 c35
 go_enter Tryz.func12, Tryz.ntmps12
 refine wp_seq ?_
 refine zB 3 [.made (zD n) 24, .q (.pointer none), .q (.int .i64 0)] (sB H0) ?ho1 ?he1
 case ho1 => exact am (yE rfl rfl) (ar (ar trivial))
 intro J w1 l hM hl
 have H1 : Hid (Mm w1 [(J 0, zD n)] ∧ _) := wB H0 hM hl [0]
 have o1_0 := vB H0 hM hl 0
 clear hM hl l
 generalize J 0 = J1_0 at H1 o1_0 ⊢
 clear J
 refine rN (wp_seq (wp_seq ?_))
 refine zN 14 [.q (PT J1_0 0), .q (.int .u64 (wd n 0)), .q (.int .u64 1), .q (.bool false), .q (.bool false), .q (N n), .call (N 1), .q (.bool false), .q (.bool false), .q (.bool false), .q (N n), .call (.int .i64 L), .q (.bool false), .q (.bool false)] H1 ?ho2 ?he2
 case ho2 => exact ag (aq (fun w' h => ex_load1 h 0 rfl rfl rfl rfl) (ag (ag (ar (bN 0 (ac (fun w' h => eC call17 (C29.out w')) (ak (fun J => ⟨rfl, fun w' _ => exec_eq6 e1 rfl rfl rfl⟩) (ag (ar (bN 0 (ac (fun w' h => eC call34 (C33.out w')) (ag (ag trivial)))))))))))))
 intro _ w2 H2
 clear H1
 refine rN (wp_cond_false rfl ?_)
 refine wp_skip (zA (wp_seq ?_))
 refine zQ 6 [.q (N n), .q (PT J1_0 0), .q (.int .u64 (wd n 0)), .call (.int .u64 (wrapZ (wd n 0))), .q (modv n 0 0), .made (zX n 0 0) 72] (sB H2) ?ho3 ?he3
 case ho3 => exact bN 0 (ag (aq (fun w' h => ex_load1 h 0 rfl rfl rfl rfl) (ac (fun w' h => eC call35 (C34.out w')) (ak (fun J => ⟨rfl, fun w' _ => ex_build39 rfl rfl rfl⟩) (am (ex_box39 rfl rfl) trivial)))))
 intro J w3 l hM hl
 have H3 : Hid (Mm w3 ([(J 5, zX n 0 0)] ++ _) ∧ _) := wB H2 hM hl [5]
 have o3_5 := vB H2 hM hl 5
 clear hM hl l H2
 generalize J 5 = J3_5 at H3 o3_5 ⊢
 clear J
 refine zF (l := [6]) rfl ?_
 refine zG (d := 4) rfl rfl rfl rfl ?_
 simp only [Act.put, sa, sz, ss]
 refine zE (zA (wp_seq ?_))
 refine zC 9 [.q (PT J3_5 0), .q (PT J3_5 0), .q (N n), .call (.tuple #[N o, N s]), .q (.tuple #[N o, N s]), .q (N o), .q (N s), .q (PT J3_5 0), .q (PT J3_5 7)] H3 ?ho4 ?he4
 case ho4 => exact ar (ar (bN 1 (ac (fun w' h => eC call36 (C35.out w')) (ar (ag (ag (ag (ag trivial))))))))
 intro _ w4 H4
 clear H3
 refine zF (l := [9, 10, 11, 12]) rfl ?_
 refine sG rfl (fun h => zP h 0 rfl rfl rfl rfl (Nat.le_of_ble_eq_true rfl)) 0 [(_, zX n o 0), _] H4 o3_5 fun w5 H5 => ?_
 clear H4
 refine zG (d := 34) (v := PT J3_5 0) (w' := w5) rfl rfl rfl (by go_simp) ?_
 simp only [Act.put, sa, sz, ss]
 refine zG (d := 35) (v := PT J3_5 13) (w' := w5) rfl rfl rfl (by go_simp) ?_
 simp only [Act.put, sa, sz, ss]
 refine sG rfl (fun h => zP h 0 rfl rfl rfl rfl (Nat.le_of_ble_eq_true rfl)) 0 [(_, zX n o s), _] H5 o3_5 fun w6 H6 => ?_
 clear H5
 refine zE (zA (wp_seq ?_))
 refine zC 3 [.q (PT J3_5 0), .q (PT J3_5 0), .q (.int .i64 0)] H6 ?ho5 ?he5
 case ho5 => exact ar (ar (ar trivial))
 intro _ w7 H7
 clear H6
 refine rN (wp_ret ?_)
 repeat (first | refine zK ?_ | refine zH ?_)
 refine bodyPost_ret (v := .tuple #[PT J3_5 0, .int .i64 0]) (by simp [results, Tryz.results12, go_sem, *]) rfl ?_
 exact ⟨H7.out.2, J3_5, rfl, o3_5.out, H7.out.1.lt (List.mem_of_getElem? (i := 0) rfl), (H7.out.1.blk _ (List.mem_of_getElem? (i := 0) rfl)).2⟩
theorem new_ok {n : Nat} (ok : Ok n) (w : World) : Calls Tryz.prog 12 #[N n] w fun e w' => Below w.heap.size w w' ∧ ∃ g, e = .returned (.tuple #[PT g 0, .int .i64 0]) ∧ w.heap.size ≤ g ∧ g < w'.heap.size ∧ Blk w' g (zV n) := by
 have hw := word_mod n
 rw [ok.odd] at hw
 have e1 := fun w => run_eqN n 1 ok.big (small_big 1 (by decide)) w
 rw [decide_eq_false (by have := ok.three; omega)] at e1
 exact new_4 n (big % n) (big * big % n) _ hw e1 (len_ok ok) (fun w => of_any 1 (by decide) w) (fun w => len_any n ok.big w) (fun w => (wrapOf_any (wd n 0) w).mono fun e w' ⟨h1, h2⟩ => ⟨h1, h2 ▸ Below.refl _ _⟩) (fun w => powersOf_any ok w) w
/-- The rounds of down. -/
def drun (n wr a : Nat) : Nat → Nat
 | 0 => a
 | k + 1 => (drun n wr a k + mt (drun n wr a k) wr * n) / 18446744073709551616
theorem drun_bd (n wr a : Nat) : ∀ k, drun n wr a k ≤ a / 2 ^ (64 * k) + n
 | 0 => by rw [Nat.mul_zero, Nat.pow_zero, Nat.div_one]; exact Nat.le_add_right _ _
 | k + 1 => by
  have ih := drun_bd n wr a k
  have ht := mt_lt (drun n wr a k) wr
  show (drun n wr a k + mt (drun n wr a k) wr * n) / 18446744073709551616 ≤ _
  rw [pow_step, ← Nat.div_div_eq_div_mul]
  have h1 : mt (drun n wr a k) wr * n ≤ 18446744073709551615 * n := Nat.mul_le_mul (by omega) (Nat.le_refl n)
  generalize mt (drun n wr a k) wr * n = p at h1
  omega
theorem drun_lt (n wr a : Nat) (ha : a < big) (hn : n < big) : ∀ k, drun n wr a k < big
 | 0 => ha
 | k + 1 => by
  have ih := drun_lt n wr a ha hn k
  have ht := mt_lt (drun n wr a k) wr
  show (drun n wr a k + mt (drun n wr a k) wr * n) / 18446744073709551616 < _
  rw [Nat.div_lt_iff_lt_mul (by decide)]
  have h1 : mt (drun n wr a k) wr * n ≤ 18446744073709551615 * n := Nat.mul_le_mul (by omega) (Nat.le_refl n)
  omega
theorem drun_cg (n wr a : Nat) (h : wr * n % 18446744073709551616 = 18446744073709551615) : ∀ k, Cg n (drun n wr a k * 2 ^ (64 * k)) a
 | 0 => by rw [Nat.mul_zero, Nat.pow_zero, Nat.mul_one]; exact Cg.refl _ _
 | k + 1 => by
  have ih := drun_cg n wr a h k
  have he := mt_even n wr (drun n wr a k) h
  have e : drun n wr a (k + 1) * 18446744073709551616 = drun n wr a k + mt (drun n wr a k) wr * n := by
   show (drun n wr a k + mt (drun n wr a k) wr * n) / 18446744073709551616 * 18446744073709551616 = _
   omega
  rw [pow_step, ← Nat.mul_assoc, Nat.mul_right_comm, e, Nat.add_mul]
  refine Cg.trans (b := drun n wr a k * 2 ^ (64 * k) + 0) (Cg.addL _ ?_) (by rw [Nat.add_zero]; exact ih)
  rw [Nat.mul_right_comm]
  exact Cg.zero n _
theorem drun_top (n S t : Nat) (hS : S < big) (hn : n < big) : cc S t n 6 = wn ((S + t * n) / 18446744073709551616) 5 ∨ ¬ (S + t * n) / 18446744073709551616 < big := by
 by_cases hr : (S + t * n) / 18446744073709551616 < big
 ·left
  obtain ⟨j, hj⟩ : ∃ j, j = 5 := ⟨5, rfl⟩
  have hb := big_j j hj
  have e6 : cc S t n 6 = cc S t n (j + 1) := by rw [hj]
  rw [← hj, e6]
  have h := wd_last ((S + t * n) / 18446744073709551616) j (by rw [← hb]; exact hr)
  rw [wd_wn] at h
  have h' : wn ((S + t * n) / 18446744073709551616) j = (S + t * n) / 18446744073709551616 / 2 ^ (64 * j) := by omega
  rw [h', Nat.div_div_eq_div_mul, Nat.mul_comm 18446744073709551616, ← pow_step]
  unfold cc
  rw [← hb, Nat.mod_eq_of_lt hS, Nat.mod_eq_of_lt hn]
 ·exact Or.inr hr
theorem d_word (Y k : Nat) : wd (Y / 18446744073709551616) k = wd Y (k + 1) := by
 unfold wd
 rw [Nat.div_div_eq_div_mul, Nat.mul_comm 18446744073709551616, ← pow_step]
set_option maxHeartbeats 2000000 in
theorem down_any (g n o s a : Nat) (ok : Ok n) (ha : a < big) (w : World) (hm : Mm w [(g, zX n o s)]) :
  Calls Tryz.prog 159 #[PT g 0, N a] w (Rt w (N (drun n (wrapN n) a 6))) := by
 have H0 : Hid (_ ∧ _) := ⟨hm, Below.refl w.heap.size w⟩
 clear hm
 have HA : Hid _ := ha
 clear ha
 go_enter Tryz.func159, Tryz.ntmps159
 refine wp_seq ?_
 refine zB 2 [.made (zD a) 24, .made zero6 24] (sB H0) ?ho1 ?he1
 case ho1 => exact am (yE rfl rfl) (am (zL rfl) trivial)
 intro J w1 l hM hl
 have H1 : Hid (Mm w1 ([(J 0, zD a), (J 1, zero6)] ++ _) ∧ _) := wB H0 hM hl [0, 1]
 have o1_0 := vB H0 hM hl 0
 have o1_1 := vB H0 hM hl 1
 clear hM hl l
 generalize J 0 = J1_0 at H1 o1_0 ⊢
 generalize J 1 = J1_1 at H1 o1_1 ⊢
 clear J
 refine rN (wp_seq (wp_seq ?_))
 refine zC 1 [.q (.int .i64 0)] H1 ?ho2 ?he2
 case ho2 => exact ar trivial
 intro _ w2 H2
 clear H1
 refine rN (wp_block ?_)
 refine loop_ghost (α := Nat) (fun i a' w' => ∃ s0 : Nat → Value, a' = ⟨#[PT g 0, N a, undef, PT J1_0 0, PT J1_1 0, s0 5, s0 6, s0 7, s0 8, .int .i64 ((i : Nat) : Int), s0 10, s0 11, s0 12, s0 13, s0 14, s0 15, s0 16, s0 17, s0 18, s0 19, s0 20, s0 21, s0 22, s0 23, s0 24, s0 25, s0 26, s0 27, s0 28, s0 29, s0 30, s0 31, s0 32, s0 33, s0 34, s0 35, s0 36, s0 37, s0 38, s0 39, s0 40, s0 41, s0 42, s0 43, s0 44, s0 45, s0 46, s0 47, s0 48, s0 49, s0 50, s0 51, s0 52, s0 53, s0 54, undef], []⟩ ∧ (Mm w' [(J1_0, zD (drun n (wrapN n) a i)), (J1_1, zero6), (g, zX n o s)] ∧ Below w.heap.size w w') ∧ i ≤ 6) (fun i => 6 - i) 0 ?st0 ?rd0
 case st0 => exact ⟨(slotfn [ud, ud, ud, ud, ud, ud, ud, ud, ud, ud, ud, ud, ud, ud, ud, ud, ud, ud, ud, ud, ud, ud, ud, ud, ud, ud, ud, ud, ud, ud, ud, ud, ud, ud, ud, ud, ud, ud, ud, ud, ud, ud, ud, ud, ud, ud, ud, ud, ud, ud, ud, ud, ud, ud, ud]), rfl, ⟨H2.out.1.at0 rfl, H2.out.2⟩, by omega⟩
 intro i a' w3 hI
 obtain ⟨s0, rfl, hMB, hk0⟩ := hI
 have H3 : Hid (_ ∧ _) := hMB
 clear hMB H2
 by_cases hlt : i < 6
 ·have hrd : True := trivial
  clear hrd
  have hS2 := drun_lt n (wrapN n) a HA.out ok.big i
  have hZ2 := drun_lt n (wrapN n) a HA.out ok.big (i + 1)
  obtain ⟨S, hS⟩ : ∃ S, S = drun n (wrapN n) a i := ⟨_, rfl⟩
  obtain ⟨t, ht⟩ : ∃ t, t = mt S (wrapN n) := ⟨_, rfl⟩
  obtain ⟨Y, hY⟩ : ∃ Y, Y = S + t * n := ⟨_, rfl⟩
  obtain ⟨Z, hZ⟩ : ∃ Z, Z = drun n (wrapN n) a (i + 1) := ⟨_, rfl⟩
  have hZ1 : Z = Y / 18446744073709551616 := by rw [hZ, hY, ht, hS]; rfl
  have htl : t < 18446744073709551616 := by rw [ht]; exact mt_lt _ _
  rw [← hS] at hS2
  rw [← hZ] at hZ2
  have e3 : IntKind.u64.wrap (wd S 0 * wrapZ (wd n 0)) = (t : Nat) := by
   rw [IntKind.wrap_u64, ← wrapN_cast, ht, wd_wn]
   unfold mt wn
   rw [Nat.mul_zero, Nat.pow_zero, Nat.div_one, ← Int.natCast_mul]; rfl
  have e5 : ((cc S t n 6 : Nat) : Int) = wd Z 5 := by
   rcases drun_top n S t hS2 ok.big with h | h
   ·rw [← hY, ← hZ1] at h
    rw [wd_wn, ← h]
   ·rw [← hY, ← hZ1] at h
    exact absurd hZ2 h
  have e6 : ∀ k, k < 5 → wd Z k = wd Y (k + 1) := fun k _ => by rw [hZ1, d_word]
  have cB : ∀ m, ∀ w, Calls Tryz.prog 65 #[.int .u64 ((t : Nat) : Int), .int .u64 (wd n m), .int .u64 (wd S m), .int .u64 ((cc S t n m : Nat) : Int)] w (Rt w (.tuple #[.int .u64 (wd Y m), .int .u64 ((cc S t n (m + 1) : Nat) : Int)])) := fun m w => by
   have h := mulAddM_any ((t : Nat) : Int) (wd n m) (wd S m) ((cc S t n m : Nat) : Int) (Int.natCast_nonneg _) (by omega) (wd_bd _ _).1 (wd_bd _ _).2 (wd_bd _ _).1 (wd_bd _ _).2 (Int.natCast_nonneg _) (by have := cc_lt S t n m htl; omega) w
   rw [cc_lo, cc_hi, ← hY] at h
   exact h.mono fun e w2 ⟨h1, h2⟩ => ⟨h1, h2 ▸ Below.refl _ _⟩
  have cB0 := cB 0
  rw [cc_zero, Int.natCast_zero] at cB0
  have CB : Hid _ := cB
  have CB0 : Hid _ := cB0
  have E6 : Hid _ := e6
  have E5 : Hid _ := e5
  have HZ : Hid _ := hZ
  rw [← hS] at H3
  clear cB cB0 e6 e5 hZ hZ1 hZ2 hS hS2 ht hY htl
  refine wp_seq ?_
  refine zC 1 [.q (.bool true)] H3 ?ho3 ?he3
  case ho3 => exact ak (by refine fun J => ⟨rfl, fun w' h => ?_⟩; clear h; go_simp <;> omega) trivial
  intro _ w4 H4
  clear H3
  refine rN (wp_seq ?_)
  refine wp_cond_true rfl (wp_skip ?_)
  refine zA (wp_seq ?_)
  refine wp_block (wp_seq ?_)
  refine zN 8 [.q (PT J1_0 0), .q (.int .u64 (wd S 0)), .q (PT g 0), .q (PT g 0), .q (PT g 6), .q (.int .u64 (wrapZ (wd n 0))), .q (.int .u64 ((t : Nat) : Int)), .q (.int .u64 ((t : Nat) : Int))] H4 ?ho4 ?he4
  case ho4 => exact ag (aq (fun w' h => ex_load1 h 0 rfl rfl rfl rfl) (ar (ag (ag (aq (fun w' h => ex_load1 h 2 rfl rfl rfl rfl) (ag (ar trivial)))))))
  intro _ w5 H5
  clear H4
  refine rN (wp_seq ?_)
  refine zN 14 [.q (.int .u64 ((t : Nat) : Int)), .q (PT g 0), .q (PT g 0), .q (PT g 0), .q (PT g 0), .q (.int .u64 (wd n 0)), .q (PT J1_0 0), .q (.int .u64 (wd S 0)), .call (.tuple #[.int .u64 (wd Y 0), .int .u64 ((cc S t n (0 + 1) : Nat) : Int)]), .q (.tuple #[.int .u64 (wd Y 0), .int .u64 ((cc S t n (0 + 1) : Nat) : Int)]), .q (.int .u64 (wd Y 0)), .q (.int .u64 ((cc S t n (0 + 1) : Nat) : Int)), .q (.int .u64 (wd Y 0)), .q (.int .u64 ((cc S t n (0 + 1) : Nat) : Int))] H5 ?ho5 ?he5
  case ho5 => exact ar (ar (ag (ag (ag (aq (fun w' h => ex_load1 h 2 rfl rfl rfl rfl) (ag (aq (fun w' h => ex_load1 h 0 rfl rfl rfl rfl) (ac (fun w' h => eC call65 (CB0.out w')) (ar (ag (ag (ar (ar trivial)))))))))))))
  intro _ w6 H6
  clear H5
  refine rN (wp_seq (wp_seq ?_))
  refine zC 1 [.q (.int .i64 1)] H6 ?ho6 ?he6
  case ho6 => exact ar trivial
  intro _ w7 H7
  clear H6
  refine rN (wp_block ?_)
  refine loop_ghost (α := Nat) (fun m a' w' => ∃ s2 : Nat → Value, a' = ⟨#[PT g 0, N a, undef, PT J1_0 0, PT J1_1 0, .int .u64 ((t : Nat) : Int), .int .u64 (wd Y 0), .int .u64 ((cc S t n (m + 1) : Nat) : Int), .int .i64 ((m + 1 : Nat) : Int), .int .i64 ((i : Nat) : Int), .bool true, PT J1_0 0, .int .u64 (wd S 0), PT g 0, PT g 0, PT g 6, .int .u64 (wrapZ (wd n 0)), .int .u64 ((t : Nat) : Int), .tuple #[.int .u64 (wd Y 0), .int .u64 ((cc S t n (0 + 1) : Nat) : Int)], .int .u64 ((t : Nat) : Int), PT g 0, PT g 0, PT g 0, PT g 0, .int .u64 (wd n 0), PT J1_0 0, .int .u64 (wd S 0), .tuple #[.int .u64 (wd Y 0), .int .u64 ((cc S t n (0 + 1) : Nat) : Int)], .int .u64 (wd Y 0), .int .u64 ((cc S t n (0 + 1) : Nat) : Int), s2 30, s2 31, s2 32, s2 33, s2 34, s2 35, s2 36, s2 37, s2 38, s2 39, s2 40, s2 41, s2 42, s2 43, s2 44, s2 45, s2 46, s2 47, s2 48, s2 49, s2 50, s2 51, s0 52, s0 53, s0 54, undef], []⟩ ∧ (Mm w' [(J1_0, rowc (inn S Y (m + 1))), (J1_1, zero6), (g, zX n o s)] ∧ Below w.heap.size w w') ∧ m ≤ 5) (fun m => 5 - m) 0 ?st2 ?rd2
  case st2 => exact ⟨(slotfn [ud, ud, ud, ud, ud, ud, ud, ud, ud, ud, ud, ud, ud, ud, ud, ud, ud, ud, ud, ud, ud, ud, ud, ud, ud, ud, ud, ud, ud, ud, s0 30, s0 31, s0 32, s0 33, s0 34, s0 35, s0 36, s0 37, s0 38, s0 39, s0 40, s0 41, s0 42, s0 43, s0 44, s0 45, s0 46, s0 47, s0 48, s0 49, s0 50, s0 51]), rfl, ⟨H7.out.1, H7.out.2⟩, by omega⟩
  intro m a' w8 hI
  obtain ⟨s2, rfl, hMB, hk2⟩ := hI
  have H8 : Hid (_ ∧ _) := hMB
  clear hMB H7
  by_cases hlt2 : m < 5
  ·have hrd : True := trivial
   clear hrd
   have hm6 : m + 1 < 6 := by omega
   refine wp_seq (wp_seq ?_)
   refine zC 2 [.q (.int .i64 ((m + 1 : Nat) : Int)), .q (.bool true)] H8 ?ho7 ?he7
   case ho7 => exact ar (ak (by refine fun J => ⟨rfl, fun w' h => ?_⟩; clear h; go_simp <;> omega) trivial)
   intro _ w9 H9
   clear H8
   refine rN (wp_cond_true rfl ?_)
   refine wp_skip (zA ?_)
   refine wp_seq (wp_block ?_)
   refine walk_put (by kernel_rfl) 18 [16] [.q (.int .i64 ((m + 1 : Nat) : Int)), .q (.int .i64 ((m : Nat) : Int)), .q (.int .u64 ((t : Nat) : Int)), .q (PT g 0), .q (.int .i64 ((m + 1 : Nat) : Int)), .q (PT g 0), .q (PT g 0), .q (PT g (0 + (m + 1))), .q (.int .u64 (wd n (m + 1))), .q (.int .i64 ((m + 1 : Nat) : Int)), .q (PT J1_0 (0 + (m + 1))), .q (.int .u64 (wd S (m + 1))), .q (.int .u64 ((cc S t n (m + 1) : Nat) : Int)), .call (.tuple #[.int .u64 (wd Y (m + 1)), .int .u64 ((cc S t n (m + 1 + 1) : Nat) : Int)]), .q (.tuple #[.int .u64 (wd Y (m + 1)), .int .u64 ((cc S t n (m + 1 + 1) : Nat) : Int)]), .q (.int .u64 (wd Y (m + 1))), .q (.int .u64 ((cc S t n (m + 1 + 1) : Nat) : Int)), .q (PT J1_0 (0 + m))] _ ?pre8 ?F8 _ ?hpre8 (fun J => ?hF8) (by kernel_rfl) rfl trivial (sB H9) ?ho8 ?hla8 ?he8
   case hpre8 => simp only [tk, tz]; rfl
   case hF8 => simp only [yF, Kind.val, Act.put, sa, sz, ss]; rfl
   case ho8 =>
    refine ar ?_
    refine ak (by refine fun J => ⟨rfl, fun w' h => ?_⟩; clear h; go_simp; rw [IntKind.wrap_i64]; omega) ?_
    refine ar ?_
    refine ar ?_
    refine ar ?_
    refine ag ?_
    refine ag ?_
    refine ak (fun J => ⟨rfl, fun w' _ => yA rfl rfl rfl hm6⟩) ?_
    refine aq (fun w' h => ex_load1 h 2 rfl rfl rfl (modn_at hm6)) ?_
    refine ar ?_
    refine ak (fun J => ⟨rfl, fun w' _ => yA rfl rfl rfl hm6⟩) ?_
    refine aq (fun w' h => ex_load1 h 0 rfl rfl rfl (inn_at hm6)) ?_
    refine ar ?_
    refine ak (fun J => ⟨rfl, fun w' h => eC call65 (CB.out (m + 1) w')⟩) ?_
    refine ar ?_
    refine ag ?_
    refine ag ?_
    refine ak (fun J => ⟨rfl, fun w' _ => yA rfl rfl rfl (Nat.lt_of_succ_lt hm6)⟩) ?_
    exact trivial
   case hla8 => exact ⟨⟨_, _, rfl, rfl, fun J => ⟨rfl, fun w' => by first | rfl | go_simp⟩⟩, trivial⟩
   intro J w10 l hM hl
   have H10 := keepB H9 hM.below
   clear hM hl l H9 J
   refine ⟨_, ex_storeI H10.out.1 0 rfl rfl As22 rfl rfl (row_bd (Nat.lt_of_succ_lt hm6)), ?_⟩
   have H11 : Hid (Mm (w10.setCells J1_0 (0 + m) [.int .u64 (wd Y (m + 1))]) [(J1_0, rowc (inn S Y (m + 1 + 1))), (J1_1, zero6), (g, zX n o s)] ∧ Below w.heap.size w (w10.setCells J1_0 (0 + m) [.int .u64 (wd Y (m + 1))])) := ⟨by
    have h := H10.out.1.put 0 (off := (0 + m)) (vs := [.int .u64 (wd Y (m + 1))]) rfl (row_bd (Nat.lt_of_succ_lt hm6))
    rw [patch_row (Nat.lt_of_succ_lt hm6), inn_step rfl] at h
    exact h, yD _ o1_0.out _ _ _ H10.out.2⟩
   clear H10
   generalize hgw : World.setCells _ _ _ _ = w11 at H11 ⊢
   clear hgw
   refine zF (l := [19]) rfl ?_
   refine zG (d := 7) rfl rfl rfl rfl ?_
   simp only [Act.put, sa, sz, ss]
   refine zE (zI (zA ?_))
   refine zC 2 [.q (.int .i64 ((m + 1 : Nat) : Int)), .q (.int .i64 ((m + 1 + 1 : Nat) : Int))] H11 ?ho9 ?he9
   case ho9 => exact ar (ak (by refine fun J => ⟨rfl, fun w' h => ?_⟩; clear h; go_simp; rw [IntKind.wrap_i64]; omega) trivial)
   intro _ w12 H12
   clear H11
   refine zF (l := [2]) rfl ?_
   refine zG (d := 8) rfl rfl rfl rfl ?_
   simp only [Act.put, sa, sz, ss]
   refine zE (zA ?_)
   exact ⟨m + 1, ⟨(slotfn [ud, ud, ud, ud, ud, ud, ud, ud, ud, ud, ud, ud, ud, ud, ud, ud, ud, ud, ud, ud, ud, ud, ud, ud, ud, ud, ud, ud, ud, ud, .int .i64 ((m + 1 : Nat) : Int), .bool true, .int .i64 ((m + 1 : Nat) : Int), .int .i64 ((m + 1 + 1 : Nat) : Int), .tuple #[.int .u64 (wd Y (m + 1)), .int .u64 ((cc S t n (m + 1 + 1) : Nat) : Int)], .int .i64 ((m + 1 : Nat) : Int), .int .i64 ((m : Nat) : Int), .int .u64 ((t : Nat) : Int), PT g 0, .int .i64 ((m + 1 : Nat) : Int), PT g 0, PT g 0, PT g (0 + (m + 1)), .int .u64 (wd n (m + 1)), .int .i64 ((m + 1 : Nat) : Int), PT J1_0 (0 + (m + 1)), .int .u64 (wd S (m + 1)), .int .u64 ((cc S t n (m + 1) : Nat) : Int), .tuple #[.int .u64 (wd Y (m + 1)), .int .u64 ((cc S t n (m + 1 + 1) : Nat) : Int)], .int .u64 (wd Y (m + 1)), .int .u64 ((cc S t n (m + 1 + 1) : Nat) : Int), PT J1_0 (0 + m)]), rfl, ⟨H12.out.1, H12.out.2⟩, by omega⟩, by omega⟩
  have hm5 : m = 5 := by omega
  subst hm5
  refine wp_seq (wp_seq ?_)
  refine zC 2 [.q (.int .i64 ((5 + 1 : Nat) : Int)), .q (.bool false)] H8 ?ho10 ?he10
  case ho10 => exact ar (ak (by refine fun J => ⟨rfl, fun w' h => ?_⟩; clear h; go_simp <;> omega) trivial)
  intro _ w13 H13
  clear H8
  refine rN (wp_cond_false rfl ?_)
  refine wp_exit ?_
  repeat refine zY ?_
  refine zU ?_
  refine zA ?_
  refine zC 2 [.q (.int .u64 ((cc S t n (5 + 1) : Nat) : Int)), .q (PT J1_0 5)] H13 ?ho11 ?he11
  case ho11 => exact ar (ag trivial)
  intro _ w14 H14
  clear H13
  refine zF (l := [2]) rfl ?_
  refine rest_store rfl rfl rfl (ex_storeI H14.out.1 0 rfl rfl As22 rfl rfl (Nat.le_of_ble_eq_true rfl)) ?_
  have H15 : Hid (Mm (w14.setCells J1_0 5 [.int .u64 ((cc S t n (5 + 1) : Nat) : Int)]) [(J1_0, zD Z), (J1_1, zero6), (g, zX n o s)] ∧ Below w.heap.size w (w14.setCells J1_0 5 [.int .u64 ((cc S t n (5 + 1) : Nat) : Int)])) := ⟨by
   have h := H14.out.1.put 0 (off := 5) (vs := [.int .u64 ((cc S t n (5 + 1) : Nat) : Int)]) rfl (Nat.le_of_ble_eq_true rfl)
   rw [patch_row5, inn_end E5.out E6.out] at h
   exact h, yD _ o1_0.out _ _ _ H14.out.2⟩
  clear H14
  generalize hgw : World.setCells _ _ _ _ = w15 at H15 ⊢
  clear hgw
  refine zE (zI (zA ?_))
  refine zC 1 [.q (.int .i64 ((i + 1 : Nat) : Int))] H15 ?ho12 ?he12
  case ho12 => exact ak (by refine fun J => ⟨rfl, fun w' h => ?_⟩; clear h; go_simp; rw [IntKind.wrap_i64]; omega) trivial
  intro _ w16 H16
  clear H15
  refine zF (l := [1]) rfl ?_
  refine zG (d := 9) rfl rfl rfl rfl ?_
  simp only [Act.put, sa, sz, ss]
  refine zE (zA ?_)
  exact ⟨i + 1, ⟨(slotfn [ud, ud, ud, ud, ud, .int .u64 ((t : Nat) : Int), .int .u64 (wd Y 0), .int .u64 ((cc S t n (5 + 1) : Nat) : Int), .int .i64 ((5 + 1 : Nat) : Int), ud, .bool true, PT J1_0 0, .int .u64 (wd S 0), PT g 0, PT g 0, PT g 6, .int .u64 (wrapZ (wd n 0)), .int .u64 ((t : Nat) : Int), .tuple #[.int .u64 (wd Y 0), .int .u64 ((cc S t n (0 + 1) : Nat) : Int)], .int .u64 ((t : Nat) : Int), PT g 0, PT g 0, PT g 0, PT g 0, .int .u64 (wd n 0), PT J1_0 0, .int .u64 (wd S 0), .tuple #[.int .u64 (wd Y 0), .int .u64 ((cc S t n (0 + 1) : Nat) : Int)], .int .u64 (wd Y 0), .int .u64 ((cc S t n (0 + 1) : Nat) : Int), .int .i64 ((5 + 1 : Nat) : Int), .bool false, s2 32, s2 33, s2 34, s2 35, s2 36, s2 37, s2 38, s2 39, s2 40, s2 41, s2 42, s2 43, s2 44, s2 45, s2 46, s2 47, s2 48, s2 49, s2 50, s2 51, .int .u64 ((cc S t n (5 + 1) : Nat) : Int), PT J1_0 5, .int .i64 ((i + 1 : Nat) : Int)]), rfl, by rw [← HZ.out]; exact H16.out, by omega⟩, by omega⟩
 have hi6 : i = 6 := by omega
 subst hi6
 refine wp_seq ?_
 refine zC 1 [.q (.bool false)] H3 ?ho13 ?he13
 case ho13 => exact ak (by refine fun J => ⟨rfl, fun w' h => ?_⟩; clear h; go_simp <;> omega) trivial
 intro _ w17 H17
 clear H3
 refine rN (wp_seq (wp_cond_false rfl ?_))
 refine wp_exit ?_
 repeat refine zY ?_
 refine zU ?_
 refine zA (wp_seq ?_)
 refine zC 1 [.q (N (drun n (wrapN n) a 6))] H17 ?ho14 ?he14
 case ho14 => exact bN 0 trivial
 intro _ w18 H18
 clear H17
 refine zF (l := [1]) rfl ?_
 refine sG rfl (fun h => zP h 1 rfl rfl rfl rfl (Nat.le_of_ble_eq_true rfl)) 1 [_, (_, zD (drun n (wrapN n) a 6)), _] H18 o1_1 fun w19 H19 => ?_
 clear H18
 refine zE (zA (wp_ret ?_))
 repeat (first | refine zK ?_ | refine zH ?_)
 have c0 := H19.out.1.get 1 rfl 0 rfl
 have c1 := H19.out.1.get 1 rfl 1 rfl
 have c2 := H19.out.1.get 1 rfl 2 rfl
 have c3 := H19.out.1.get 1 rfl 3 rfl
 have c4 := H19.out.1.get 1 rfl 4 rfl
 have c5 := H19.out.1.get 1 rfl 5 rfl
 refine bodyPost_ret (v := N (drun n (wrapN n) a 6)) (by simp [results, Tryz.results159, go_sem, *]) rfl ?_
 exact ⟨rfl, H19.out.2⟩
set_option maxHeartbeats 1000000 in
theorem wide_1 (g n o s a b d u r : Nat)
  (c0 : ∀ w, Mm w [(g, zX n o s)] → Calls Tryz.prog 37 #[PT g 0] w (Rt w (.bool true)))
  (c1 : ∀ w, Mm w [(g, zX n o s)] → Calls Tryz.prog 159 #[PT g 0, N a] w (Rt w (N d)))
  (c2 : ∀ w, Calls Tryz.prog 21 #[N b, N d] w (Rt w (.tuple #[N u, .bool false])))
  (c3 : ∀ w, Mm w [(g, zX n o s)] → Calls Tryz.prog 40 #[PT g 0, N u, N s] w (Rt w (N r))) (w : World) (hm : Mm w [(g, zX n o s)]) :
  Calls Tryz.prog 157 #[PT g 0, N a, N b] w (Rt w (N r)) := by
 have H0 : Hid (_ ∧ _) := ⟨hm, Below.refl w.heap.size w⟩
 clear hm
 have C0 : Hid _ := c0
 have C1 : Hid _ := c1
 have C2 : Hid _ := c2
 have C3 : Hid _ := c3
 clear c0 c1 c2 c3
 go_enter Tryz.func157, Tryz.ntmps157
 refine wp_seq ?_
 refine zB 3 [.made (zD a) 24, .made (zD b) 24, .made zero6 24] (sB H0) ?ho1 ?he1
 case ho1 => exact am (yE rfl rfl) (am (yE rfl rfl) (am (zL rfl) trivial))
 intro J w1 l hM hl
 have H1 : Hid (Mm w1 ([(J 0, zD a), (J 1, zD b), (J 2, zero6)] ++ _) ∧ _) := wB H0 hM hl [0, 1, 2]
 have o1_0 := vB H0 hM hl 0
 have o1_1 := vB H0 hM hl 1
 have o1_2 := vB H0 hM hl 2
 clear hM hl l
 generalize J 0 = J1_0 at H1 o1_0 ⊢
 generalize J 1 = J1_1 at H1 o1_1 ⊢
 generalize J 2 = J1_2 at H1 o1_2 ⊢
 clear J
 refine rN (wp_seq (wp_seq ?_))
 refine zC 3 [.q (PT g 0), .call (.bool true), .q (.bool false)] H1 ?ho2 ?he2
 case ho2 => exact ar (ac (fun w' h => eC call37 (C0.out w' (h.one 3 rfl))) (ag trivial))
 intro _ w2 H2
 clear H1
 refine rN (wp_cond_false rfl ?_)
 refine wp_skip (zA (wp_seq ?_))
 refine zQ 11 [.q (N b), .q (PT g 0), .q (N a), .call (N d), .call (.tuple #[N u, .bool false]), .q (.tuple #[N u, .bool false]), .q (N u), .q (.bool false), .made zero6 24, .laid 8 zero6 (zD u), .q (.bool false)] (sB H2) ?ho3 ?he3 (hL := ?hL3)
 case hL3 => exact ⟨⟨_, rfl⟩, trivial⟩
 case ho3 => exact bN 1 (ar (bN 0 (ac (fun w' h => eC call159 (C1.out w' (h.one 3 rfl))) (ac (fun w' h => eC call21 (C2.out w')) (ar (ag (ag (am (zL rfl) (ak (fun J => ⟨rfl, rfl, rfl, fun w' h => zR h rfl rfl rfl⟩) (ar trivial))))))))))
 intro J w3 l hM hl
 have H3 : Hid (Mm w3 ([(J 8, zD u)] ++ _) ∧ _) := wB H2 hM hl [8]
 have o3_8 := vB H2 hM hl 8
 clear hM hl l H2
 generalize J 8 = J3_8 at H3 o3_8 ⊢
 clear J
 refine rN (wp_seq (wp_seq ?_))
 refine zC 1 [.q (.bool false)] H3 ?ho4 ?he4
 case ho4 => exact ar trivial
 intro _ w4 H4
 clear H3
 refine rN (wp_cond_false rfl ?_)
 refine wp_skip (zA (wp_seq ?_))
 refine zN 7 [.q (PT g 0), .q (N u), .q (PT g 0), .q (PT g 0), .q (PT g 13), .q (N s), .call (N r)] H4 ?ho5 ?he5
 case ho5 => exact ar (bN 0 (ar (ag (ag (bN 4 (ac (fun w' h => eC call40 (C3.out w' (h.one 4 rfl))) trivial))))))
 intro _ w5 H5
 clear H4
 refine zF (l := [7]) rfl ?_
 refine sG rfl (fun h => zP h 3 rfl rfl rfl rfl (Nat.le_of_ble_eq_true rfl)) 3 [_, _, _, (_, zD r), _] H5 o1_2 fun w6 H6 => ?_
 clear H5
 refine zE (zA (wp_ret ?_))
 repeat (first | refine zK ?_ | refine zH ?_)
 have c0 := H6.out.1.get 3 rfl 0 rfl
 have c1 := H6.out.1.get 3 rfl 1 rfl
 have c2 := H6.out.1.get 3 rfl 2 rfl
 have c3 := H6.out.1.get 3 rfl 3 rfl
 have c4 := H6.out.1.get 3 rfl 4 rfl
 have c5 := H6.out.1.get 3 rfl 5 rfl
 refine bodyPost_ret (v := N r) (by simp [results, Tryz.results157, go_sem, *]) rfl ?_
 exact ⟨rfl, H6.out.2⟩
set_option maxHeartbeats 1000000 in
theorem wide_2 (g n o s a b d u r x : Nat) (cx : Bool)
  (c0 : ∀ w, Mm w [(g, zX n o s)] → Calls Tryz.prog 37 #[PT g 0] w (Rt w (.bool true)))
  (c1 : ∀ w, Mm w [(g, zX n o s)] → Calls Tryz.prog 159 #[PT g 0, N a] w (Rt w (N d)))
  (c2 : ∀ w, Calls Tryz.prog 21 #[N b, N d] w (Rt w (.tuple #[N u, .bool true])))
  (c3 : ∀ w, Calls Tryz.prog 39 #[N u, N n] w (Rt w (.tuple #[N x, .bool cx])))
  (c4 : ∀ w, Mm w [(g, zX n o s)] → Calls Tryz.prog 40 #[PT g 0, N x, N s] w (Rt w (N r))) (w : World) (hm : Mm w [(g, zX n o s)]) :
  Calls Tryz.prog 157 #[PT g 0, N a, N b] w (Rt w (N r)) := by
 have H0 : Hid (_ ∧ _) := ⟨hm, Below.refl w.heap.size w⟩
 clear hm
 have C0 : Hid _ := c0
 have C1 : Hid _ := c1
 have C2 : Hid _ := c2
 have C3 : Hid _ := c3
 have C4 : Hid _ := c4
 clear c0 c1 c2 c3 c4
 go_enter Tryz.func157, Tryz.ntmps157
 refine wp_seq ?_
 refine zB 3 [.made (zD a) 24, .made (zD b) 24, .made zero6 24] (sB H0) ?ho1 ?he1
 case ho1 => exact am (yE rfl rfl) (am (yE rfl rfl) (am (zL rfl) trivial))
 intro J w1 l hM hl
 have H1 : Hid (Mm w1 ([(J 0, zD a), (J 1, zD b), (J 2, zero6)] ++ _) ∧ _) := wB H0 hM hl [0, 1, 2]
 have o1_0 := vB H0 hM hl 0
 have o1_1 := vB H0 hM hl 1
 have o1_2 := vB H0 hM hl 2
 clear hM hl l
 generalize J 0 = J1_0 at H1 o1_0 ⊢
 generalize J 1 = J1_1 at H1 o1_1 ⊢
 generalize J 2 = J1_2 at H1 o1_2 ⊢
 clear J
 refine rN (wp_seq (wp_seq ?_))
 refine zC 3 [.q (PT g 0), .call (.bool true), .q (.bool false)] H1 ?ho2 ?he2
 case ho2 => exact ar (ac (fun w' h => eC call37 (C0.out w' (h.one 3 rfl))) (ag trivial))
 intro _ w2 H2
 clear H1
 refine rN (wp_cond_false rfl ?_)
 refine wp_skip (zA (wp_seq ?_))
 refine zQ 11 [.q (N b), .q (PT g 0), .q (N a), .call (N d), .call (.tuple #[N u, .bool true]), .q (.tuple #[N u, .bool true]), .q (N u), .q (.bool true), .made zero6 24, .laid 8 zero6 (zD u), .q (.bool true)] (sB H2) ?ho3 ?he3 (hL := ?hL3)
 case hL3 => exact ⟨⟨_, rfl⟩, trivial⟩
 case ho3 => exact bN 1 (ar (bN 0 (ac (fun w' h => eC call159 (C1.out w' (h.one 3 rfl))) (ac (fun w' h => eC call21 (C2.out w')) (ar (ag (ag (am (zL rfl) (ak (fun J => ⟨rfl, rfl, rfl, fun w' h => zR h rfl rfl rfl⟩) (ar trivial))))))))))
 intro J w3 l hM hl
 have H3 : Hid (Mm w3 ([(J 8, zD u)] ++ _) ∧ _) := wB H2 hM hl [8]
 have o3_8 := vB H2 hM hl 8
 clear hM hl l H2
 generalize J 8 = J3_8 at H3 o3_8 ⊢
 clear J
 refine rN (wp_seq (wp_seq ?_))
 refine zC 1 [.q (.bool true)] H3 ?ho4 ?he4
 case ho4 => exact ar trivial
 intro _ w4 H4
 clear H3
 refine rN (wp_cond_true rfl ?_)
 refine walk_put (by kernel_rfl) 9 [8] [.q (N u), .q (PT g 0), .q (PT g 0), .q (PT g 0), .q (N n), .call (.tuple #[N x, .bool cx]), .q (.tuple #[N x, .bool cx]), .q (N x), .q (.bool cx)] _ ?pre5 ?F5 _ ?hpre5 (fun J => ?hF5) (by kernel_rfl) rfl trivial (sB H4) ?ho5 ?hla5 ?he5
 case hpre5 => simp only [tk, tz]; rfl
 case hF5 => simp only [yF, Kind.val, Act.put, sa, sz, ss]; rfl
 case ho5 =>
  refine bN 0 ?_
  refine ar ?_
  refine ag ?_
  refine ag ?_
  refine bN 4 ?_
  refine ak (fun J => ⟨rfl, fun w' h => eC call39 (C3.out w')⟩) ?_
  refine ar ?_
  refine ag ?_
  refine ag ?_
  exact trivial
 case hla5 => exact ⟨⟨_, _, rfl, rfl, fun J => ⟨rfl, fun w' => by first | rfl | go_simp⟩⟩, trivial⟩
 intro J w5 l hM hl
 have H5 := keepB H4 hM.below
 clear hM hl l H4 J
 refine ⟨_, zP H5.out.1 0 rfl rfl rfl rfl (Nat.le_of_ble_eq_true rfl), ?_⟩
 have H6 : Hid (Mm (w5.setCells J3_8 0 (zD x)) [(J3_8, zD x), (J1_0, zD a), (J1_1, zD b), (J1_2, zero6), (g, zX n o s)] ∧ Below w.heap.size w (w5.setCells J3_8 0 (zD x))) := ⟨H5.out.1.put 0 (off := 0) (vs := zD x) rfl (Nat.le_of_ble_eq_true rfl), yD _ o3_8.out _ _ _ H5.out.2⟩
 clear H5
 generalize hgw : World.setCells _ _ _ _ = w6 at H6 ⊢
 clear hgw
 refine rN (wp_seq ?_)
 refine zN 7 [.q (PT g 0), .q (N x), .q (PT g 0), .q (PT g 0), .q (PT g 13), .q (N s), .call (N r)] H6 ?ho6 ?he6
 case ho6 => exact ar (bN 0 (ar (ag (ag (bN 4 (ac (fun w' h => eC call40 (C4.out w' (h.one 4 rfl))) trivial))))))
 intro _ w7 H7
 clear H6
 refine zF (l := [7]) rfl ?_
 refine sG rfl (fun h => zP h 3 rfl rfl rfl rfl (Nat.le_of_ble_eq_true rfl)) 3 [_, _, _, (_, zD r), _] H7 o1_2 fun w8 H8 => ?_
 clear H7
 refine zE (zA (wp_ret ?_))
 repeat (first | refine zK ?_ | refine zH ?_)
 have c0 := H8.out.1.get 3 rfl 0 rfl
 have c1 := H8.out.1.get 3 rfl 1 rfl
 have c2 := H8.out.1.get 3 rfl 2 rfl
 have c3 := H8.out.1.get 3 rfl 3 rfl
 have c4 := H8.out.1.get 3 rfl 4 rfl
 have c5 := H8.out.1.get 3 rfl 5 rfl
 refine bodyPost_ret (v := N r) (by simp [results, Tryz.results157, go_sem, *]) rfl ?_
 exact ⟨rfl, H8.out.2⟩
theorem wideM {n : Nat} (ok : Ok n) {a b x : Nat} (hx : Cg n x (b + drun n (wrapN n) a 6)) : mont n x (big * big % n) = (a + b * big) % n := by
 rw [mont_big ok]
 have h1 := drun_cg n (wrapN n) a (wrapN_spec n ok.odd) 6
 rw [← big_eq] at h1
 have h2 := hx.mulR big
 refine h2.trans ?_
 rw [Nat.add_mul, Nat.add_comm]
 exact h1.addR _
theorem wide_any {g n : Nat} (ok : Ok n) {a b : Nat} (ha : a < big) (hb : b < big) (w : World) (hm : Mm w [(g, zV n)]) : Calls Tryz.prog 157 #[PT g 0, N a, N b] w (Rt w (N ((a + b * big) % n))) := by
 have hd := drun_bd n (wrapN n) a 6
 rw [← big_eq, Nat.div_eq_of_lt ha, Nat.zero_add] at hd
 have cd := fun w hm => down_any g n (big % n) (big * big % n) a ok ha w hm
 have hM := fun x hx => wideM (x := x) (a := a) (b := b) ok hx
 have hdl : drun n (wrapN n) a 6 < big := by have := ok.big; omega
 generalize drun n (wrapN n) a 6 = d at hd cd hM hdl
 have c := fun w => add_any b d hb hdl w
 have hsq : big * big % n < n := Nat.mod_lt _ ok.pos
 have h3 := ok.top
 by_cases h : big ≤ b + d
 ·rw [decide_eq_true h, Nat.mod_eq_sub_mod h, Nat.mod_eq_of_lt (show b + d - big < big by omega)] at c
  have cs := fun w => sub_any (b + d - big) n (by omega) ok.big w
  have e : (b + d - big + big - n) % big = b + d - n := by
   rw [show b + d - big + big - n = b + d - n by omega, Nat.mod_eq_of_lt (by omega)]
  rw [e] at cs
  have cp := fun w hm => product_any g n (big % n) (big * big % n) (b + d - n) (big * big % n) ok (by omega) hsq w hm
  rw [hM (b + d - n) (by
   have : b + d = b + d - n + 1 * n := by omega
   rw [this]
   unfold Cg
   rw [Nat.add_mul_mod_self_right, show b + d - n + 1 * n - n = b + d - n by omega])] at cp
  exact wide_2 g n _ _ a b d _ _ _ _ (fun w hm => madeC ok w hm) cd c cs cp w hm
 ·rw [decide_eq_false h, Nat.mod_eq_of_lt (show b + d < big by omega)] at c
  have cp := fun w hm => product_any g n (big % n) (big * big % n) (b + d) (big * big % n) ok (by omega) hsq w hm
  rw [hM (b + d) (Cg.refl _ _)] at cp
  exact wide_1 g n _ _ a b d _ _ (fun w hm => madeC ok w hm) cd c cp w hm
/-! Numbers side by side. -/
def cel : List Nat → List Value
  | [] => []
  | a :: l => zD a ++ cel l
abbrev V (l : List Nat) : Value := .agg (cel l).toArray
theorem cel_len : ∀ l : List Nat, (cel l).length = 6 * l.length
  | [] => rfl
  | a :: l => by
    show (zD a ++ cel l).length = _
    rw [List.length_append, cel_len l]
    show 6 + 6 * l.length = 6 * (l.length + 1)
    omega
theorem cel_app : ∀ l m : List Nat, cel (l ++ m) = cel l ++ cel m
  | [], _ => rfl
  | a :: l, m => by
    show zD a ++ cel (l ++ m) = zD a ++ cel l ++ cel m
    rw [cel_app l m, List.append_assoc]
theorem cel_drop : ∀ (i : Nat) (l : List Nat), (cel l).drop (6 * i) = cel (l.drop i)
  | 0, _ => by rw [Nat.mul_zero, List.drop_zero, List.drop_zero]
  | i + 1, [] => by simp [cel]
  | i + 1, a :: l => by
    show (zD a ++ cel l).drop (6 * (i + 1)) = cel (l.drop i)
    rw [← cel_drop i l, show 6 * (i + 1) = (zD a).length + 6 * i by show _ = 6 + 6 * i; omega, List.drop_length_add_append]
theorem cel_take : ∀ (i : Nat) (l : List Nat), (cel l).take (6 * i) = cel (l.take i)
  | 0, _ => by rw [Nat.mul_zero, List.take_zero, List.take_zero]; rfl
  | i + 1, [] => by simp [cel]
  | i + 1, a :: l => by
    show (zD a ++ cel l).take (6 * (i + 1)) = zD a ++ cel (l.take i)
    rw [← cel_take i l, show 6 * (i + 1) = (zD a).length + 6 * i by show _ = 6 + 6 * i; omega, List.take_length_add_append]
theorem cel_one (l : List Nat) : (cel l).all Value.oneCell' = true := by
  induction l with
  | nil => rfl
  | cons a l ih =>
    show (zD a ++ cel l).all Value.oneCell' = true
    rw [List.all_append, ih, Bool.and_true]
    rfl
theorem cel_patch (l m : List Nat) (i : Nat) : patch (cel l) (6 * i) (cel m) = cel (l.take i ++ m ++ l.drop (i + m.length)) := by
  unfold patch
  rw [cel_app, cel_app, cel_take, cel_len, ← Nat.mul_add, cel_drop]
theorem cel_zero (k : Nat) : cel (List.replicate k 0) = List.replicate (6 * k) (.int .u64 0) := by
  induction k with
  | zero => rfl
  | succ k ih =>
    rw [List.replicate_succ]
    show zD 0 ++ cel (List.replicate k 0) = _
    rw [ih, cells_zero, show 6 * (k + 1) = 6 + 6 * k by omega, ← List.replicate_append_replicate]
    rfl
theorem ex_loadA {ρ : Operand → Value} {o : Oper} {x : Operand} {g i k : Nat} {t : TypeId} {ns ms : List Nat} {w : World} {l : List (Nat × List Value)} (h : Mm w l) (q : Nat) (hk : l[q]? = some (g, cel ns)) (ho : o.op = .load t x) (hx : ρ x = PT g (6 * i)) (ha : ∀ w, (isAgg t).run Tryz.prog w = .ok true w) (hs : ∀ w, (sizeOf t).run Tryz.prog w = .ok (6 * k) w) (hc : (ns.drop i).take k = ms) (hl : ms.length = k) :
    (execOp ρ o).run Tryz.prog w = .ok (.value (V ms)) w := by
  have hm := List.mem_of_getElem? hk
  have hcell := run_loadCells_list (P := Tryz.prog) (w := w) ⟨g, 6 * i, none⟩ (cel ms) (fun j v hv => by
    have e : (cel ns)[6 * i + j]? = some v := by
      rw [← List.getElem?_drop, cel_drop]
      rw [← hc, ← cel_take, List.getElem?_take] at hv
      split at hv
      · exact hv
      · cases hv
    have e2 := h.cell hm e
    rw [show (⟨g, 6 * i, none⟩ : Addr).add j = ⟨g, 6 * i + j, none⟩ from by unfold Addr.add; split <;> simp_all]
    exact e2)
  rw [cel_len, hl] at hcell
  have hf : (loadCellsFrom ⟨g, 6 * i, none⟩ 0 (6 * k) #[]).run Tryz.prog w = .ok (cel ms).toArray w := hcell
  clear hcell hc hk hm h
  simp only [execOp, ho, hx]
  go_simp
theorem lA {ρ : Operand → Value} {o : Oper} {x : Operand} {g : Nat} {t : TypeId} {ns ms : List Nat} {w : World} {l : List (Nat × List Value)} (i k : Nat) (h : Mm w l) (q : Nat) (ha : ∀ w, (isAgg t).run Tryz.prog w = .ok true w) (hs : ∀ w, (sizeOf t).run Tryz.prog w = .ok (6 * k) w) (hk : l[q]? = some (g, cel ns) := by exact rfl) (ho : o.op = .load t x := by exact rfl) (hx : ρ x = PT g (6 * i) := by exact rfl) (hc : (ns.drop i).take k = ms := by exact rfl) (hl : ms.length = k := by exact rfl) : (execOp ρ o).run Tryz.prog w = .ok (.value (V ms)) w := ex_loadA h q hk ho hx ha hs hc hl
theorem bA {ops : Array Oper} {L : List (Nat × List Value)} {F : (Nat → Nat) → Act} {o : Oper} {os : List Oper} {ks : List Kind} {x : Operand} {g : Nat} {t : TypeId} {ns ms : List Nat} (i n k : Nat) (ha : ∀ w, (isAgg t).run Tryz.prog w = .ok true w) (hz : ∀ w, (sizeOf t).run Tryz.prog w = .ok (6 * n) w) (hs : AllOk Tryz.prog ops (fun w' => Mm w' L) F os ks) (hw : ∀ J, Region.wanted o (yielded ops (F J).tmps) = true := by exact fun _ => rfl) (hk : L[k]? = some (g, cel ns) := by exact rfl) (ho : o.op = .load t x := by exact rfl) (hx : ∀ J, (F J).eval x = PT g (6 * i) := by exact fun _ => rfl) (hc : (ns.drop i).take n = ms := by exact rfl) (hl : ms.length = n := by exact rfl) : AllOk Tryz.prog ops (fun w' => Mm w' L) F (o :: os) (.q (V ms) :: ks) := ⟨fun J => ⟨hw J, fun _ h => ex_loadA h k hk ho (hx J) ha hz hc hl⟩, hs⟩
theorem ex_boxA {ρ : Operand → Value} {o : Oper} {x : Operand} {t : TypeId} {ns : List Nat} {w : World} (ho : o.op = .box t x) (hx : ρ x = V ns) :
    (execOp ρ o).run Tryz.prog w = .ok (.value (.pointer (some ⟨w.heap.size, 0, none⟩))) (w.alloc (.cells (cel ns).toArray t)) := by
  simp only [execOp, ho, hx]
  go_simp
theorem ex_storeA {ρ : Operand → Value} {o : Oper} {x y : Operand} {g i : Nat} {t : TypeId} {ns ms : List Nat} {w : World} {l : List (Nat × List Value)} (h : Mm w l) (q : Nat) (hk : l[q]? = some (g, cel ns)) (ho : o.op = .store t x y) (hx : ρ x = PT g (6 * i)) (hy : ρ y = V ms) (hs : ∀ w, (sizeOf t).run Tryz.prog w = .ok (6 * ms.length) w) (hb : i + ms.length ≤ ns.length) :
    (execOp ρ o).run Tryz.prog w = .ok .skip (w.setCells g (6 * i) (cel ms)) := by
  have hm := List.mem_of_getElem? hk
  have hq : ∀ j, j < (cel ms).length → ∃ u, (cel ns)[6 * i + j]? = some u := fun j hj => by
    rw [cel_len] at hj
    exact ⟨_, List.getElem?_eq_getElem (by rw [cel_len]; omega)⟩
  have hst := run_storeCells_cells (P := Tryz.prog) g (6 * i) (cel ms) 0 w (fun j hj => by
    obtain ⟨u, hu⟩ := hq j hj
    rw [show 6 * i + 0 + j = 6 * i + j by omega, h.cell hm hu]; rfl) (fun j hj => by
    obtain ⟨u, hu⟩ := hq j hj
    rw [show 6 * i + 0 + j = 6 * i + j by omega]; exact h.free hm hu) (List.all_eq_true.1 (cel_one ms))
  have hl := cel_len ms
  clear h hm hq hb hk
  simp only [execOp, ho, hx, hy]
  go_simp
theorem sA {Q : Exit → Act → World → Prop} {full : Array Oper} {a : Act} {w w0 : World} {j B g : Nat} {r : List Nat} {o : Oper} {l : List (Nat × List Value)} {x y : Operand} {t : TypeId} {ns : List Nat} (k i : Nat) (ms : List Nat) (l' : List (Nat × List Value)) (H : Hid (Mm w l ∧ Below B w0 w)) (hg : Hid (B ≤ g)) (hs : ∀ w, (sizeOf t).run Tryz.prog w = .ok (6 * ms.length) w) (h : ∀ w', Hid (Mm w' l' ∧ Below B w0 w') → wpOps Tryz.prog full Q r a w') (ho : full[j]? = some o := by exact rfl) (hd : o.dst = none := by exact rfl) (hw : Region.wanted o (yielded full a.tmps) = true := by exact rfl) (hk : l[k]? = some (g, cel ns) := by exact rfl) (hp : o.op = .store t x y := by exact rfl) (hx : a.eval x = PT g (6 * i) := by exact rfl) (hy : a.eval y = V ms := by exact rfl) (hb : i + ms.length ≤ ns.length := by exact Nat.le_of_ble_eq_true rfl) (hl : l.set k (g, cel (ns.take i ++ ms ++ ns.drop (i + ms.length))) = l' := by exact rfl) : wpOps Tryz.prog full Q (j :: r) a w :=
 rest_store ho hd hw (ex_storeA H.out.1 k hk hp hx hy hs (by omega)) (h _ ⟨(hl ▸ by have h := H.out.1.put k (off := 6 * i) (vs := cel ms) hk (by simp only [cel_len]; omega); rw [cel_patch] at h; exact h), yD _ hg.out _ _ _ H.out.2⟩)
theorem sK {Q : Exit → Act → World → Prop} {full : Array Oper} {a : Act} {w w0 : World} {j q g : Nat} {r : List Nat} {o : Oper} {l : List (Nat × List Value)} {x y : Operand} {t : TypeId} {ns : List Nat} (k i : Nat) (ms : List Nat) (l' : List (Nat × List Value)) (H : Hid (Mm w l ∧ Kp q w0 w)) (hg : Hid (w0.heap.size ≤ g)) (hs : ∀ w, (sizeOf t).run Tryz.prog w = .ok (6 * ms.length) w) (h : ∀ w', Hid (Mm w' l' ∧ Kp q w0 w') → wpOps Tryz.prog full Q r a w') (ho : full[j]? = some o := by exact rfl) (hd : o.dst = none := by exact rfl) (hw : Region.wanted o (yielded full a.tmps) = true := by exact rfl) (hk : l[k]? = some (g, cel ns) := by exact rfl) (hp : o.op = .store t x y := by exact rfl) (hx : a.eval x = PT g (6 * i) := by exact rfl) (hy : a.eval y = V ms := by exact rfl) (hb : i + ms.length ≤ ns.length := by exact Nat.le_of_ble_eq_true rfl) (hl : l.set k (g, cel (ns.take i ++ ms ++ ns.drop (i + ms.length))) = l' := by exact rfl) : wpOps Tryz.prog full Q (j :: r) a w :=
 rest_store ho hd hw (ex_storeA H.out.1 k hk hp hx hy hs (by omega)) (h _ ⟨(hl ▸ by have h := H.out.1.put k (off := 6 * i) (vs := cel ms) hk (by simp only [cel_len]; omega); rw [cel_patch] at h; exact h), H.out.2.put (Or.inr hg.out)⟩)
theorem sF {Q : Exit → Act → World → Prop} {full : Array Oper} {a : Act} {w w0 : World} {j B g : Nat} {r : List Nat} {o : Oper} {l : List (Nat × List Value)} {x y : Operand} {t : TypeId} {ns : List Nat} (k : Nat) (ms : List Nat) (l' : List (Nat × List Value)) (H : Hid (Mm w l ∧ Below B w0 w)) (hg : Hid (B ≤ g)) (hs : ∀ w, (sizeOf t).run Tryz.prog w = .ok (6 * ms.length) w) (h : ∀ w', Hid (Mm w' l' ∧ Below B w0 w') → wpOps Tryz.prog full Q r a w') (ho : full[j]? = some o := by exact rfl) (hd : o.dst = none := by exact rfl) (hw : Region.wanted o (yielded full a.tmps) = true := by exact rfl) (hk : l[k]? = some (g, cel ns) := by exact rfl) (hp : o.op = .store t x y := by exact rfl) (hx : a.eval x = PT g (6 * 0) := by exact rfl) (hy : a.eval y = V ms := by exact rfl) (hb : ms.length = ns.length := by exact rfl) (hl : l.set k (g, cel ms) = l' := by exact rfl) : wpOps Tryz.prog full Q (j :: r) a w :=
 rest_store ho hd hw (ex_storeA H.out.1 k hk hp hx hy hs (by omega)) (h _ ⟨(hl ▸ by have h := H.out.1.put k (off := 6 * 0) (vs := cel ms) hk (by simp only [cel_len]; omega); rw [cel_patch] at h; simpa [hb] using h), yD _ hg.out _ _ _ H.out.2⟩)
theorem sL {Q : Exit → Act → World → Prop} {full : Array Oper} {a : Act} {w w0 : World} {j q g : Nat} {r : List Nat} {o : Oper} {l : List (Nat × List Value)} {x y : Operand} {t : TypeId} {ns : List Nat} (k : Nat) (ms : List Nat) (l' : List (Nat × List Value)) (H : Hid (Mm w l ∧ Kp q w0 w)) (hg : Hid (w0.heap.size ≤ g)) (hs : ∀ w, (sizeOf t).run Tryz.prog w = .ok (6 * ms.length) w) (h : ∀ w', Hid (Mm w' l' ∧ Kp q w0 w') → wpOps Tryz.prog full Q r a w') (ho : full[j]? = some o := by exact rfl) (hd : o.dst = none := by exact rfl) (hw : Region.wanted o (yielded full a.tmps) = true := by exact rfl) (hk : l[k]? = some (g, cel ns) := by exact rfl) (hp : o.op = .store t x y := by exact rfl) (hx : a.eval x = PT g (6 * 0) := by exact rfl) (hy : a.eval y = V ms := by exact rfl) (hb : ms.length = ns.length := by exact rfl) (hl : l.set k (g, cel ms) = l' := by exact rfl) : wpOps Tryz.prog full Q (j :: r) a w :=
 rest_store ho hd hw (ex_storeA H.out.1 k hk hp hx hy hs (by omega)) (h _ ⟨(hl ▸ by have h := H.out.1.put k (off := 6 * 0) (vs := cel ms) hk (by simp only [cel_len]; omega); rw [cel_patch] at h; simpa [hb] using h), H.out.2.put (Or.inr hg.out)⟩)
theorem ex_laidA {ρ : Operand → Value} {o : Oper} {x y : Operand} {g : Nat} {t : TypeId} {zs ms : List Nat} {w : World} (hb : Blk w g (cel zs)) (hz : zs.length = ms.length) (hs : ∀ w, (sizeOf t).run Tryz.prog w = .ok (6 * ms.length) w) (ho : o.op = .store t x y) (hx : ρ x = .pointer (some ⟨g, 0, none⟩)) (hy : ρ y = V ms) :
    (execOp ρ o).run Tryz.prog w = .ok .skip (w.setCells g 0 (cel ms)) :=
  ex_laidT hb (by rw [cel_len, cel_len, hz]) (cel_one ms) (by rw [cel_len]; exact hs) ho hx hy
theorem zT {ρ : Operand → Value} {o : Oper} {x : Operand} {g i v : Nat} {ns : List Nat} {w : World} {l : List (Nat × List Value)} (h : Mm w l) (q : Nat) (hk : l[q]? = some (g, cel ns)) (ho : o.op = .load 24 x) (hx : ρ x = PT g (6 * i)) (hc : ns[i]? = some v) :
    (execOp ρ o).run Tryz.prog w = .ok (.value (N v)) w := by
  refine yG h q hk ho hx ?_
  rw [cel_drop, show 6 = 6 * 1 from rfl, cel_take]
  obtain ⟨hlt, e⟩ := List.getElem?_eq_some_iff.1 hc
  rw [List.drop_eq_getElem_cons hlt, e]
  rfl
theorem yB {ρ : Operand → Value} {o : Oper} {w : World} (ho : o.op = .alloc 33) :
    (execOp ρ o).run Tryz.prog w = .ok (.value (.pointer (some ⟨w.heap.size, 0, none⟩))) (w.alloc (.cells (cel [0, 0]).toArray 33)) := by
  rw [show cel [0, 0] = [.int .u64 0, .int .u64 0, .int .u64 0, .int .u64 0, .int .u64 0, .int .u64 0, .int .u64 0, .int .u64 0, .int .u64 0, .int .u64 0, .int .u64 0, .int .u64 0] from cel_zero 2]
  simp only [execOp, ho]
  go_simp
theorem ex_madeWD {ρ : Operand → Value} {o : Oper} {w : World} (ho : o.op = .alloc 179) :
    (execOp ρ o).run Tryz.prog w = .ok (.value (.pointer (some ⟨w.heap.size, 0, none⟩))) (w.alloc (.cells (cel [0, 0]).toArray 179)) := by
  rw [show cel [0, 0] = [.int .u64 0, .int .u64 0, .int .u64 0, .int .u64 0, .int .u64 0, .int .u64 0, .int .u64 0, .int .u64 0, .int .u64 0, .int .u64 0, .int .u64 0, .int .u64 0] from cel_zero 2]
  simp only [execOp, ho]
  go_simp
theorem ex_madeW2 {ρ : Operand → Value} {o : Oper} {w : World} (ho : o.op = .alloc 181) :
    (execOp ρ o).run Tryz.prog w = .ok (.value (.pointer (some ⟨w.heap.size, 0, none⟩))) (w.alloc (.cells (cel [0, 0, 0, 0]).toArray 181)) := by
  rw [show cel [0, 0, 0, 0] = [.int .u64 0, .int .u64 0, .int .u64 0, .int .u64 0, .int .u64 0, .int .u64 0, .int .u64 0, .int .u64 0, .int .u64 0, .int .u64 0, .int .u64 0, .int .u64 0, .int .u64 0, .int .u64 0, .int .u64 0, .int .u64 0, .int .u64 0, .int .u64 0, .int .u64 0, .int .u64 0, .int .u64 0, .int .u64 0, .int .u64 0, .int .u64 0] from cel_zero 4]
  simp only [execOp, ho]
  go_simp
theorem ex_buildE2 {ρ : Operand → Value} {o : Oper} {x0 x1 : Operand} {a b : Nat} {w : World} (ho : o.op = .build 33 #[(0, x0), (1, x1)]) (h0 : ρ x0 = N a) (h1 : ρ x1 = N b) : (execOp ρ o).run Tryz.prog w = .ok (.value (V [a, b])) w := by
  simp only [execOp, ho, V, cel, List.cons_append, List.nil_append]
  go_simp
theorem ex_buildE2a {ρ : Operand → Value} {o : Oper} {x0 : Operand} {a : Nat} {w : World} (ho : o.op = .build 33 #[(0, x0)]) (h0 : ρ x0 = N a) : (execOp ρ o).run Tryz.prog w = .ok (.value (V [a, 0])) w := by
  simp only [execOp, ho, V, cel, List.cons_append, List.nil_append]
  go_simp
  simp [wd_zero]
theorem ex_buildWD {ρ : Operand → Value} {o : Oper} {x0 x1 : Operand} {a b : Nat} {w : World} (ho : o.op = .build 179 #[(0, x0), (1, x1)]) (h0 : ρ x0 = N a) (h1 : ρ x1 = N b) : (execOp ρ o).run Tryz.prog w = .ok (.value (V [a, b])) w := by
  simp only [execOp, ho, V, cel, List.cons_append, List.nil_append]
  go_simp
theorem ex_buildW2 {ρ : Operand → Value} {o : Oper} {x0 x1 : Operand} {a0 a1 b0 b1 : Nat} {w : World} (ho : o.op = .build 181 #[(0, x0), (1, x1)]) (h0 : ρ x0 = V [a0, a1]) (h1 : ρ x1 = V [b0, b1]) : (execOp ρ o).run Tryz.prog w = .ok (.value (V [a0, a1, b0, b1])) w := by
  simp only [V, cel, List.cons_append, List.nil_append] at h0
  simp only [V, cel, List.cons_append, List.nil_append] at h1
  simp only [execOp, ho, V, cel, List.cons_append, List.nil_append]
  go_simp
theorem cel_load {n g : Nat} {ns : List Nat} {w : World} {l : List (Nat × List Value)} (h : Mm w l) (q : Nat) (hk : l[q]? = some (g, cel ns)) (hn : 6 * ns.length = n) : (loadCellsFrom ⟨g, 0, none⟩ 0 n #[]).run Tryz.prog w = .ok (cel ns).toArray w := by
  have hm := List.mem_of_getElem? hk
  have hcell := run_loadCells_list (P := Tryz.prog) (w := w) ⟨g, 0, none⟩ (cel ns) (fun j v hv => by
    have e2 := h.cell hm hv
    rw [show (⟨g, 0, none⟩ : Addr).add j = ⟨g, j, none⟩ from by unfold Addr.add; split <;> simp_all]
    exact e2)
  rw [cel_len, hn] at hcell
  exact hcell
theorem cel_var {g k : Nat} {t : TypeId} {ns : List Nat} {w : World} {l : List (Nat × List Value)} (h : Mm w l) (q : Nat) (hk : l[q]? = some (g, cel ns)) (ha : ∀ w, (isAgg t).run Tryz.prog w = .ok true w) (hs : ∀ w, (sizeOf t).run Tryz.prog w = .ok (6 * k) w) (hn : ns.length = k) : (loadVar t ⟨g, 0, none⟩).run Tryz.prog w = .ok (V ns) w := by
  have hf := cel_load (n := 6 * k) h q hk (by rw [hn])
  clear h hk
  simp only [loadVar]
  go_simp
theorem ex_loadF {ρ : Operand → Value} {o : Oper} {x : Operand} {g h0 : Nat} {cs : List Value} {w : World} {l : List (Nat × List Value)} (h : Mm w l) (k : Nat) (hk : l[k]? = some (g, cs)) (ho : o.op = .load 156 x) (hx : ρ x = PT g 0) (hc : cs[0]? = some (PT h0 0)) :
    (execOp ρ o).run Tryz.prog w = .ok (.value (.agg #[PT h0 0])) w := by
  have c0 := h.cell (List.mem_of_getElem? hk) hc
  clear h hk hc
  simp only [execOp, ho, hx]
  go_simp
theorem ex_loadQ {ρ : Operand → Value} {o : Oper} {x : Operand} {g : Nat} {v : Value} {cs : List Value} {w : World} {l : List (Nat × List Value)} (h : Mm w l) (k : Nat) (hk : l[k]? = some (g, cs)) (ho : o.op = .load 39 x) (hx : ρ x = PT g 0) (hc : cs[0]? = some v) :
    (execOp ρ o).run Tryz.prog w = .ok (.value v) w := by
  have c0 := h.cell (List.mem_of_getElem? hk) hc
  clear h hk hc
  simp only [execOp, ho, hx]
  go_simp
theorem ex_boxF {ρ : Operand → Value} {o : Oper} {x : Operand} {g : Nat} {w : World} (ho : o.op = .box 156 x) (hx : ρ x = .agg #[PT g 0]) :
    (execOp ρ o).run Tryz.prog w = .ok (.value (.pointer (some ⟨w.heap.size, 0, none⟩))) (w.alloc (.cells [PT g 0].toArray 156)) := by
  simp only [execOp, ho, hx]
  go_simp
/-- A point's cells. -/
abbrev yC (a b : Nat) (z : Bool) : List Value := cel [a, b] ++ [Value.bool z]
abbrev pc2 (a b c d : Nat) (z : Bool) : List Value := cel [a, b, c, d] ++ [Value.bool z]
theorem ex_loadT {ρ : Operand → Value} {o : Oper} {x : Operand} {g off n : Nat} {t : TypeId} {cs ms : List Value} {w : World} {l : List (Nat × List Value)} (h : Mm w l) (q : Nat) (hk : l[q]? = some (g, cs)) (ho : o.op = .load t x) (hx : ρ x = PT g off) (ha : ∀ w, (isAgg t).run Tryz.prog w = .ok true w) (hs : ∀ w, (sizeOf t).run Tryz.prog w = .ok n w) (hc : (cs.drop off).take n = ms) (hl : ms.length = n) :
  (execOp ρ o).run Tryz.prog w = .ok (.value (.agg ms.toArray)) w := by
 have hm := List.mem_of_getElem? hk
 have hcell := run_loadCells_list (P := Tryz.prog) (w := w) ⟨g, off, none⟩ ms (fun j v hv => by
  have e : cs[off + j]? = some v := by
   rw [← List.getElem?_drop]
   rw [← hc, List.getElem?_take] at hv
   split at hv
   ·exact hv
   ·cases hv
  have e2 := h.cell hm e
  rw [show (⟨g, off, none⟩ : Addr).add j = ⟨g, off + j, none⟩ from by unfold Addr.add; split <;> simp_all]
  exact e2)
 rw [hl] at hcell
 have hf : (loadCellsFrom ⟨g, off, none⟩ 0 n #[]).run Tryz.prog w = .ok ms.toArray w := hcell
 clear hcell hc hk hm h
 simp only [execOp, ho, hx]
 go_simp
theorem ex_loadC {ρ : Operand → Value} {o : Oper} {x : Operand} {g off : Nat} {t : TypeId} {v : Value} {cs : List Value} {w : World} {l : List (Nat × List Value)} (h : Mm w l) (k : Nat) (hk : l[k]? = some (g, cs)) (ho : o.op = .load t x) (hx : ρ x = PT g off) (ha : ∀ w, (isAgg t).run Tryz.prog w = .ok false w) (hc : cs[off]? = some v) :
  (execOp ρ o).run Tryz.prog w = .ok (.value v) w := by
 have c0 := h.cell (List.mem_of_getElem? hk) hc
 clear h hk hc
 simp only [execOp, ho, hx]
 go_simp
theorem lC {ρ : Operand → Value} {o : Oper} {x : Operand} {g off : Nat} {t : TypeId} {v : Value} {cs : List Value} {w : World} {l : List (Nat × List Value)} (h : Mm w l) (k : Nat) (ha : ∀ w, (isAgg t).run Tryz.prog w = .ok false w) (hk : l[k]? = some (g, cs) := by exact rfl) (ho : o.op = .load t x := by exact rfl) (hx : ρ x = PT g off := by exact rfl) (hc : cs[off]? = some v := by exact rfl) : (execOp ρ o).run Tryz.prog w = .ok (.value v) w := ex_loadC h k hk ho hx ha hc
theorem lT {ρ : Operand → Value} {o : Oper} {x : Operand} {g off n : Nat} {t : TypeId} {cs ms : List Value} {w : World} {l : List (Nat × List Value)} (h : Mm w l) (q : Nat) (ha : ∀ w, (isAgg t).run Tryz.prog w = .ok true w) (hs : ∀ w, (sizeOf t).run Tryz.prog w = .ok n w) (hk : l[q]? = some (g, cs) := by exact rfl) (ho : o.op = .load t x := by exact rfl) (hx : ρ x = PT g off := by exact rfl) (hc : (cs.drop off).take n = ms := by exact rfl) (hl : ms.length = n := by exact rfl) : (execOp ρ o).run Tryz.prog w = .ok (.value (.agg ms.toArray)) w := ex_loadT h q hk ho hx ha hs hc hl
theorem bC {ops : Array Oper} {L : List (Nat × List Value)} {F : (Nat → Nat) → Act} {o : Oper} {os : List Oper} {ks : List Kind} {x : Operand} {g off : Nat} {cs : List Value} {t : TypeId} {v : Value} (k : Nat) (ha : ∀ w, (isAgg t).run Tryz.prog w = .ok false w) (hs : AllOk Tryz.prog ops (fun w' => Mm w' L) F os ks) (hw : ∀ J, Region.wanted o (yielded ops (F J).tmps) = true := by exact fun _ => rfl) (hk : L[k]? = some (g, cs) := by exact rfl) (ho : o.op = .load t x := by exact rfl) (hx : ∀ J, (F J).eval x = PT g off := by exact fun _ => rfl) (hc : cs[off]? = some v := by exact rfl) : AllOk Tryz.prog ops (fun w' => Mm w' L) F (o :: os) (.q v :: ks) := ⟨fun J => ⟨hw J, fun _ h => ex_loadC h k hk ho (hx J) ha hc⟩, hs⟩
theorem bT {ops : Array Oper} {L : List (Nat × List Value)} {F : (Nat → Nat) → Act} {o : Oper} {os : List Oper} {ks : List Kind} {x : Operand} {g off : Nat} {cs : List Value} {n : Nat} {t : TypeId} {ms : List Value} (k : Nat) (ha : ∀ w, (isAgg t).run Tryz.prog w = .ok true w) (hz : ∀ w, (sizeOf t).run Tryz.prog w = .ok n w) (hs : AllOk Tryz.prog ops (fun w' => Mm w' L) F os ks) (hw : ∀ J, Region.wanted o (yielded ops (F J).tmps) = true := by exact fun _ => rfl) (hk : L[k]? = some (g, cs) := by exact rfl) (ho : o.op = .load t x := by exact rfl) (hx : ∀ J, (F J).eval x = PT g off := by exact fun _ => rfl) (hc : (cs.drop off).take n = ms := by exact rfl) (hl : ms.length = n := by exact rfl) : AllOk Tryz.prog ops (fun w' => Mm w' L) F (o :: os) (.q (.agg ms.toArray) :: ks) := ⟨fun J => ⟨hw J, fun _ h => ex_loadT h k hk ho (hx J) ha hz hc hl⟩, hs⟩
theorem zS {ρ : Operand → Value} {o : Oper} {x : Operand} {t : TypeId} {cs : List Value} {w : World} (ho : o.op = .box t x) (hx : ρ x = .agg cs.toArray) :
  (execOp ρ o).run Tryz.prog w = .ok (.value (.pointer (some ⟨w.heap.size, 0, none⟩))) (w.alloc (.cells cs.toArray t)) := by
 simp only [execOp, ho, hx]
 go_simp
theorem ex_storeT {ρ : Operand → Value} {o : Oper} {x y : Operand} {g off : Nat} {t : TypeId} {cs vs : List Value} {w : World} {l : List (Nat × List Value)} (h : Mm w l) (q : Nat) (hk : l[q]? = some (g, cs)) (ho : o.op = .store t x y) (hx : ρ x = PT g off) (hy : ρ y = .agg vs.toArray) (hs : ∀ w, (sizeOf t).run Tryz.prog w = .ok vs.length w) (h1 : vs.all Value.oneCell' = true) (hb : off + vs.length ≤ cs.length) :
  (execOp ρ o).run Tryz.prog w = .ok .skip (w.setCells g off vs) := by
 have hm := List.mem_of_getElem? hk
 have hq : ∀ j, j < vs.length → ∃ u, cs[off + j]? = some u := fun j hj => ⟨_, List.getElem?_eq_getElem (by omega)⟩
 have hst := run_storeCells_cells (P := Tryz.prog) g off vs 0 w (fun j hj => by
  obtain ⟨u, hu⟩ := hq j hj
  rw [show off + 0 + j = off + j by omega, h.cell hm hu]; rfl) (fun j hj => by
  obtain ⟨u, hu⟩ := hq j hj
  rw [show off + 0 + j = off + j by omega]; exact h.free hm hu) (List.all_eq_true.1 h1)
 clear h hm hq hb hk
 simp only [execOp, ho, hx, hy]
 go_simp
theorem var_T {g n : Nat} {t : TypeId} {cs : List Value} {w : World} {l : List (Nat × List Value)} (h : Mm w l) (q : Nat) (hk : l[q]? = some (g, cs)) (ha : ∀ w, (isAgg t).run Tryz.prog w = .ok true w) (hs : ∀ w, (sizeOf t).run Tryz.prog w = .ok n w) (hn : cs.length = n) : (loadVar t ⟨g, 0, none⟩).run Tryz.prog w = .ok (.agg cs.toArray) w := by
 have hm := List.mem_of_getElem? hk
 have hcell := run_loadCells_list (P := Tryz.prog) (w := w) ⟨g, 0, none⟩ cs (fun j v hv => by
  have e2 := h.cell hm hv
  rw [show (⟨g, 0, none⟩ : Addr).add j = ⟨g, j, none⟩ from by unfold Addr.add; split <;> simp_all]
  exact e2)
 rw [hn] at hcell
 have hf : (loadCellsFrom ⟨g, 0, none⟩ 0 n #[]).run Tryz.prog w = .ok cs.toArray w := hcell
 clear hcell h hk hm
 simp only [loadVar]
 go_simp
theorem ex_makeC {P : Program} {ρ : Operand → Value} {o : Oper} {f : FuncId} {xs : Array Operand} {vs : Array Value} {w : World} (ho : o.op = .makeFunc (.func f) #[] xs) (hx : xs.map ρ = vs) :
  (execOp ρ o).run P w = .ok (.value (.func (.func f) #[] vs)) w := by
 subst hx
 simp only [execOp, ho]
 simp [go_sem, Instr.makeFunc]
theorem ex_makeM {P : Program} {ρ : Operand → Value} {o : Oper} {f : FuncId} {xs : Array Operand} {vs : Array Value} {w : World} (ho : o.op = .makeFunc (.func f) xs #[]) (hx : xs.map ρ = vs) :
  (execOp ρ o).run P w = .ok (.value (.func (.func f) vs #[])) w := by
 subst hx
 simp only [execOp, ho]
 simp [go_sem, Instr.makeFunc]
theorem zJ {P : Program} {ρ : Operand → Value} {o : Oper} {f : FuncId} {y : Operand} {xs : Array Operand} {ts : Array TypeId} {fs bs cs args : Array Value} {w : World} (ho : o.op = .call { callee := .value y, args := xs, argTypes := ts }) (hc : ∀ args w, (callFunc f args).run P w = .ok (.enter f args) w) (hf : ρ y = .func (.func f) fs cs) (hx : xs.map ρ = bs) (ha : fs ++ bs ++ cs = args) :
  (execOp ρ o).run P w = .ok (.enter f args) w := by
 subst ha
 simp only [execOp, ho, resolve, hf, hx]
 simp [go_sem, Deferred.ofValue, invoke, hc]
theorem ex_madeTN {ρ : Operand → Value} {o : Oper} {w : World} (ho : o.op = .alloc 124) :
  (execOp ρ o).run Tryz.prog w = .ok (.value (.pointer (some ⟨w.heap.size, 0, none⟩))) (w.alloc (.cells (cel [0, 0, 0]).toArray 124)) := by
 rw [show cel [0, 0, 0] = [.int .u64 0, .int .u64 0, .int .u64 0, .int .u64 0, .int .u64 0, .int .u64 0, .int .u64 0, .int .u64 0, .int .u64 0, .int .u64 0, .int .u64 0, .int .u64 0, .int .u64 0, .int .u64 0, .int .u64 0, .int .u64 0, .int .u64 0, .int .u64 0] from cel_zero 3]
 simp only [execOp, ho]
 go_simp
theorem ex_madeTE {ρ : Operand → Value} {o : Oper} {w : World} (ho : o.op = .alloc 129) :
  (execOp ρ o).run Tryz.prog w = .ok (.value (.pointer (some ⟨w.heap.size, 0, none⟩))) (w.alloc (.cells (cel [0, 0, 0, 0, 0, 0]).toArray 129)) := by
 rw [show cel [0, 0, 0, 0, 0, 0] = [.int .u64 0, .int .u64 0, .int .u64 0, .int .u64 0, .int .u64 0, .int .u64 0, .int .u64 0, .int .u64 0, .int .u64 0, .int .u64 0, .int .u64 0, .int .u64 0, .int .u64 0, .int .u64 0, .int .u64 0, .int .u64 0, .int .u64 0, .int .u64 0, .int .u64 0, .int .u64 0, .int .u64 0, .int .u64 0, .int .u64 0, .int .u64 0, .int .u64 0, .int .u64 0, .int .u64 0, .int .u64 0, .int .u64 0, .int .u64 0, .int .u64 0, .int .u64 0, .int .u64 0, .int .u64 0, .int .u64 0, .int .u64 0] from cel_zero 6]
 simp only [execOp, ho]
 go_simp
theorem ex_madeP1 {ρ : Operand → Value} {o : Oper} {w : World} (ho : o.op = .alloc 27) :
  (execOp ρ o).run Tryz.prog w = .ok (.value (.pointer (some ⟨w.heap.size, 0, none⟩))) (w.alloc (.cells (cel [0, 0] ++ [Value.bool false]).toArray 27)) := by
 rw [show cel [0, 0] = [.int .u64 0, .int .u64 0, .int .u64 0, .int .u64 0, .int .u64 0, .int .u64 0, .int .u64 0, .int .u64 0, .int .u64 0, .int .u64 0, .int .u64 0, .int .u64 0] from cel_zero 2]
 simp only [List.cons_append, List.nil_append]
 simp only [execOp, ho]
 go_simp
theorem ex_madePN {ρ : Operand → Value} {o : Oper} {w : World} (ho : o.op = .alloc 85) :
  (execOp ρ o).run Tryz.prog w = .ok (.value (.pointer (some ⟨w.heap.size, 0, none⟩))) (w.alloc (.cells (cel [0, 0] ++ [Value.bool false]).toArray 85)) := by
 rw [show cel [0, 0] = [.int .u64 0, .int .u64 0, .int .u64 0, .int .u64 0, .int .u64 0, .int .u64 0, .int .u64 0, .int .u64 0, .int .u64 0, .int .u64 0, .int .u64 0, .int .u64 0] from cel_zero 2]
 simp only [List.cons_append, List.nil_append]
 simp only [execOp, ho]
 go_simp
theorem ex_madeP2 {ρ : Operand → Value} {o : Oper} {w : World} (ho : o.op = .alloc 35) :
  (execOp ρ o).run Tryz.prog w = .ok (.value (.pointer (some ⟨w.heap.size, 0, none⟩))) (w.alloc (.cells (cel [0, 0, 0, 0] ++ [Value.bool false]).toArray 35)) := by
 rw [show cel [0, 0, 0, 0] = [.int .u64 0, .int .u64 0, .int .u64 0, .int .u64 0, .int .u64 0, .int .u64 0, .int .u64 0, .int .u64 0, .int .u64 0, .int .u64 0, .int .u64 0, .int .u64 0, .int .u64 0, .int .u64 0, .int .u64 0, .int .u64 0, .int .u64 0, .int .u64 0, .int .u64 0, .int .u64 0, .int .u64 0, .int .u64 0, .int .u64 0, .int .u64 0] from cel_zero 4]
 simp only [List.cons_append, List.nil_append]
 simp only [execOp, ho]
 go_simp
theorem ex_madePE {ρ : Operand → Value} {o : Oper} {w : World} (ho : o.op = .alloc 96) :
  (execOp ρ o).run Tryz.prog w = .ok (.value (.pointer (some ⟨w.heap.size, 0, none⟩))) (w.alloc (.cells (cel [0, 0, 0, 0] ++ [Value.bool false]).toArray 96)) := by
 rw [show cel [0, 0, 0, 0] = [.int .u64 0, .int .u64 0, .int .u64 0, .int .u64 0, .int .u64 0, .int .u64 0, .int .u64 0, .int .u64 0, .int .u64 0, .int .u64 0, .int .u64 0, .int .u64 0, .int .u64 0, .int .u64 0, .int .u64 0, .int .u64 0, .int .u64 0, .int .u64 0, .int .u64 0, .int .u64 0, .int .u64 0, .int .u64 0, .int .u64 0, .int .u64 0] from cel_zero 4]
 simp only [List.cons_append, List.nil_append]
 simp only [execOp, ho]
 go_simp
theorem ex_madeGN {ρ : Operand → Value} {o : Oper} {w : World} (ho : o.op = .alloc 82) :
  (execOp ρ o).run Tryz.prog w = .ok (.value (.pointer (some ⟨w.heap.size, 0, none⟩))) (w.alloc (.cells ([Value.nilFunc, Value.nilFunc, Value.nilFunc, Value.nilFunc, Value.nilFunc] ++ (cel [0, 0] ++ [Value.nilFunc, Value.int .i64 0])).toArray 82)) := by
 rw [show cel [0, 0] = [.int .u64 0, .int .u64 0, .int .u64 0, .int .u64 0, .int .u64 0, .int .u64 0, .int .u64 0, .int .u64 0, .int .u64 0, .int .u64 0, .int .u64 0, .int .u64 0] from cel_zero 2]
 simp only [List.cons_append, List.nil_append]
 simp only [execOp, ho]
 go_simp
theorem ex_madeGE {ρ : Operand → Value} {o : Oper} {w : World} (ho : o.op = .alloc 93) :
  (execOp ρ o).run Tryz.prog w = .ok (.value (.pointer (some ⟨w.heap.size, 0, none⟩))) (w.alloc (.cells ([Value.nilFunc, Value.nilFunc, Value.nilFunc, Value.nilFunc, Value.nilFunc] ++ (cel [0, 0, 0, 0] ++ [Value.nilFunc, Value.int .i64 0])).toArray 93)) := by
 rw [show cel [0, 0, 0, 0] = [.int .u64 0, .int .u64 0, .int .u64 0, .int .u64 0, .int .u64 0, .int .u64 0, .int .u64 0, .int .u64 0, .int .u64 0, .int .u64 0, .int .u64 0, .int .u64 0, .int .u64 0, .int .u64 0, .int .u64 0, .int .u64 0, .int .u64 0, .int .u64 0, .int .u64 0, .int .u64 0, .int .u64 0, .int .u64 0, .int .u64 0, .int .u64 0] from cel_zero 4]
 simp only [List.cons_append, List.nil_append]
 simp only [execOp, ho]
 go_simp
theorem exec_eqT85 {ρ : Operand → Value} {o : Oper} {i j : Tmp} {v v' : Array Value} {t : Bool} {w : World} (he : ∀ w, (Op.equalIn 10000 85 (.agg v) (.agg v')).run Tryz.prog w = .ok t w) (ho : o.op = .binOp .eql 85 (.tmp i) (.tmp j) 85) (hx : ρ (.tmp i) = .agg v) (hy : ρ (.tmp j) = .agg v') :
  (execOp ρ o).run Tryz.prog w = .ok (.value (.bool t)) w := by
 simp only [execOp, ho, hx, hy]
 clear hx hy
 go_simp
theorem exec_eqT27 {ρ : Operand → Value} {o : Oper} {i j : Tmp} {v v' : Array Value} {t : Bool} {w : World} (he : ∀ w, (Op.equalIn 10000 27 (.agg v) (.agg v')).run Tryz.prog w = .ok t w) (ho : o.op = .binOp .eql 27 (.tmp i) (.tmp j) 27) (hx : ρ (.tmp i) = .agg v) (hy : ρ (.tmp j) = .agg v') :
  (execOp ρ o).run Tryz.prog w = .ok (.value (.bool t)) w := by
 simp only [execOp, ho, hx, hy]
 clear hx hy
 go_simp
theorem exec_eqT96 {ρ : Operand → Value} {o : Oper} {i j : Tmp} {v v' : Array Value} {t : Bool} {w : World} (he : ∀ w, (Op.equalIn 10000 96 (.agg v) (.agg v')).run Tryz.prog w = .ok t w) (ho : o.op = .binOp .eql 96 (.tmp i) (.tmp j) 96) (hx : ρ (.tmp i) = .agg v) (hy : ρ (.tmp j) = .agg v') :
  (execOp ρ o).run Tryz.prog w = .ok (.value (.bool t)) w := by
 simp only [execOp, ho, hx, hy]
 clear hx hy
 go_simp
theorem exec_eqT35 {ρ : Operand → Value} {o : Oper} {i j : Tmp} {v v' : Array Value} {t : Bool} {w : World} (he : ∀ w, (Op.equalIn 10000 35 (.agg v) (.agg v')).run Tryz.prog w = .ok t w) (ho : o.op = .binOp .eql 35 (.tmp i) (.tmp j) 35) (hx : ρ (.tmp i) = .agg v) (hy : ρ (.tmp j) = .agg v') :
  (execOp ρ o).run Tryz.prog w = .ok (.value (.bool t)) w := by
 simp only [execOp, ho, hx, hy]
 clear hx hy
 go_simp
theorem exec_eqT33 {ρ : Operand → Value} {o : Oper} {i j : Tmp} {v v' : Array Value} {t : Bool} {w : World} (he : ∀ w, (Op.equalIn 10000 33 (.agg v) (.agg v')).run Tryz.prog w = .ok t w) (ho : o.op = .binOp .eql 33 (.tmp i) (.tmp j) 33) (hx : ρ (.tmp i) = .agg v) (hy : ρ (.tmp j) = .agg v') :
  (execOp ρ o).run Tryz.prog w = .ok (.value (.bool t)) w := by
 simp only [execOp, ho, hx, hy]
 clear hx hy
 go_simp
theorem ex_buildPNt {ρ : Operand → Value} {o : Oper} {x2 : Operand} {w : World} (ho : o.op = .build 85 #[(2, x2)]) (h2 : ρ x2 = .bool true) : (execOp ρ o).run Tryz.prog w = .ok (.value (.agg (cel [0, 0] ++ [Value.bool true]).toArray)) w := by
 simp only [execOp, ho, cel, List.cons_append, List.nil_append]
 go_simp
 simp [wd_zero]
theorem ex_buildPNxy {ρ : Operand → Value} {o : Oper} {x0 x1 : Operand} {a b : Nat} {w : World} (ho : o.op = .build 85 #[(0, x0), (1, x1)]) (h0 : ρ x0 = N a) (h1 : ρ x1 = N b) : (execOp ρ o).run Tryz.prog w = .ok (.value (.agg (cel [a, b] ++ [Value.bool false]).toArray)) w := by
 simp only [execOp, ho, cel, List.cons_append, List.nil_append]
 go_simp
theorem ex_buildPEt {ρ : Operand → Value} {o : Oper} {x2 : Operand} {w : World} (ho : o.op = .build 96 #[(2, x2)]) (h2 : ρ x2 = .bool true) : (execOp ρ o).run Tryz.prog w = .ok (.value (.agg (cel [0, 0, 0, 0] ++ [Value.bool true]).toArray)) w := by
 simp only [execOp, ho, cel, List.cons_append, List.nil_append]
 go_simp
 simp [wd_zero]
theorem ex_buildPExy {ρ : Operand → Value} {o : Oper} {x0 x1 : Operand} {a b c d : Nat} {w : World} (ho : o.op = .build 96 #[(0, x0), (1, x1)]) (h0 : ρ x0 = V [a, b]) (h1 : ρ x1 = V [c, d]) : (execOp ρ o).run Tryz.prog w = .ok (.value (.agg (cel [a, b, c, d] ++ [Value.bool false]).toArray)) w := by
 simp only [V, cel, List.cons_append, List.nil_append] at h0
 simp only [V, cel, List.cons_append, List.nil_append] at h1
 simp only [execOp, ho, cel, List.cons_append, List.nil_append]
 go_simp
theorem ex_buildP1xy {ρ : Operand → Value} {o : Oper} {x0 x1 : Operand} {a b : Nat} {w : World} (ho : o.op = .build 27 #[(0, x0), (1, x1)]) (h0 : ρ x0 = N a) (h1 : ρ x1 = N b) : (execOp ρ o).run Tryz.prog w = .ok (.value (.agg (cel [a, b] ++ [Value.bool false]).toArray)) w := by
 simp only [execOp, ho, cel, List.cons_append, List.nil_append]
 go_simp
theorem ex_buildP2xy {ρ : Operand → Value} {o : Oper} {x0 x1 : Operand} {a b c d : Nat} {w : World} (ho : o.op = .build 35 #[(0, x0), (1, x1)]) (h0 : ρ x0 = V [a, b]) (h1 : ρ x1 = V [c, d]) : (execOp ρ o).run Tryz.prog w = .ok (.value (.agg (cel [a, b, c, d] ++ [Value.bool false]).toArray)) w := by
 simp only [V, cel, List.cons_append, List.nil_append] at h0
 simp only [V, cel, List.cons_append, List.nil_append] at h1
 simp only [execOp, ho, cel, List.cons_append, List.nil_append]
 go_simp
theorem ex_buildTN {ρ : Operand → Value} {o : Oper} {x0 x1 x2 : Operand} {a b c : Nat} {w : World} (ho : o.op = .build 124 #[(0, x0), (1, x1), (2, x2)]) (h0 : ρ x0 = N a) (h1 : ρ x1 = N b) (h2 : ρ x2 = N c) : (execOp ρ o).run Tryz.prog w = .ok (.value (.agg (cel [a, b, c]).toArray)) w := by
 simp only [execOp, ho, cel, List.cons_append, List.nil_append]
 go_simp
theorem ex_buildTNy {ρ : Operand → Value} {o : Oper} {x1 : Operand} {a : Nat} {w : World} (ho : o.op = .build 124 #[(1, x1)]) (h1 : ρ x1 = N a) : (execOp ρ o).run Tryz.prog w = .ok (.value (.agg (cel [0, a, 0]).toArray)) w := by
 simp only [execOp, ho, cel, List.cons_append, List.nil_append]
 go_simp
 simp [wd_zero]
theorem ex_buildTE {ρ : Operand → Value} {o : Oper} {x0 x1 x2 : Operand} {a b c d e f : Nat} {w : World} (ho : o.op = .build 129 #[(0, x0), (1, x1), (2, x2)]) (h0 : ρ x0 = V [a, b]) (h1 : ρ x1 = V [c, d]) (h2 : ρ x2 = V [e, f]) : (execOp ρ o).run Tryz.prog w = .ok (.value (.agg (cel [a, b, c, d, e, f]).toArray)) w := by
 simp only [V, cel, List.cons_append, List.nil_append] at h0
 simp only [V, cel, List.cons_append, List.nil_append] at h1
 simp only [V, cel, List.cons_append, List.nil_append] at h2
 simp only [execOp, ho, cel, List.cons_append, List.nil_append]
 go_simp
theorem ex_buildTEy {ρ : Operand → Value} {o : Oper} {x1 : Operand} {a b : Nat} {w : World} (ho : o.op = .build 129 #[(1, x1)]) (h1 : ρ x1 = V [a, b]) : (execOp ρ o).run Tryz.prog w = .ok (.value (.agg (cel [0, 0, a, b, 0, 0]).toArray)) w := by
 simp only [V, cel, List.cons_append, List.nil_append] at h1
 simp only [execOp, ho, cel, List.cons_append, List.nil_append]
 go_simp
 simp [wd_zero]
/-! Equality. -/
theorem run_eqGD (D a b : Nat) (ha : a < big) (hb : b < big) (w : World) : (Op.equalIn (D + 2) 24 (N a) (N b)).run Tryz.prog w = .ok (decide (a = b)) w := by
 have h := run_eq6' (D + 1) (fun a b w => run_equalIn_int w D 22 .u64 .u64 a b (by kernel_rfl)) (wd a 0) (wd a 1) (wd a 2) (wd a 3) (wd a 4) (wd a 5) (wd b 0) (wd b 1) (wd b 2) (wd b 3) (wd b 4) (wd b 5) w
 rw [num_eq a b ha hb] at h
 exact h
theorem run_eqG2' (d a0 a1 b0 b1 : Nat) (p0 p1 : Bool) (hi0 : ∀ w, (Op.equalIn d 24 (N a0) (N b0)).run Tryz.prog w = .ok p0 w) (hi1 : ∀ w, (Op.equalIn d 24 (N a1) (N b1)).run Tryz.prog w = .ok p1 w) (w : World) :
  (Op.equalIn (d + 1) 33 (V [a0, a1]) (V [b0, b1])).run Tryz.prog w = .ok (p0 && p1) w := by
 have h24 : Tryz.prog.underlying 33 = some (.array 2 24) := by kernel_rfl
 have hsz : ∀ w, (sizeOf 24).run Tryz.prog w = .ok 6 w := fun w => by kernel_rfl
 have hp : ∀ (a b : Nat) (w : World), (Go.part 24 (cel [a, b]).toArray 0).run Tryz.prog w = .ok (N a) w ∧ (Go.part 24 (cel [a, b]).toArray 6).run Tryz.prog w = .ok (N b) w := fun a b w => ⟨by kernel_rfl, by kernel_rfl⟩
 simp only [V, Op.equalIn, Sem.run_bind, run_underlying h24, Result.andThen_ok, hsz]
 simp [Std.Legacy.Range.forIn_eq_forIn_range', List.range', List.forIn_cons, hi0, hi1, hp]
 cases p0 <;> cases p1 <;> simp
theorem run_eqG2 (D a0 a1 b0 b1 : Nat) (ha0 : a0 < big) (ha1 : a1 < big) (hb0 : b0 < big) (hb1 : b1 < big) (w : World) : (Op.equalIn (D + 3) 33 (V [a0, a1]) (V [b0, b1])).run Tryz.prog w = .ok (decide (a0 = b0) && decide (a1 = b1)) w :=
 run_eqG2' (D + 2) a0 a1 b0 b1 _ _ (fun w => run_eqGD D a0 b0 ha0 hb0 w) (fun w => run_eqGD D a1 b1 ha1 hb1 w) w
theorem run_eqB (D : Nat) (a b : Bool) (w : World) : (Op.equalIn (D + 1) 4 (.bool a) (.bool b)).run Tryz.prog w = .ok (a == b) w := by
 simp only [Op.equalIn, Sem.run_bind, run_underlying (show Tryz.prog.underlying 4 = some .bool by kernel_rfl), Result.andThen_ok]
 rfl
theorem run_eqPN' (D a b a' b' : Nat) (z z' p0 p1 p2 : Bool) (hi0 : ∀ w, (Op.equalIn D 24 (N a) (N a')).run Tryz.prog w = .ok p0 w) (hi1 : ∀ w, (Op.equalIn D 24 (N b) (N b')).run Tryz.prog w = .ok p1 w) (hi2 : ∀ w, (Op.equalIn D 4 (.bool z) (.bool z')).run Tryz.prog w = .ok p2 w) (w : World) :
  (Op.equalIn (D + 1) 85 (.agg (cel [a, b] ++ [Value.bool z]).toArray) (.agg (cel [a', b'] ++ [Value.bool z']).toArray)).run Tryz.prog w = .ok (p0 && (p1 && p2)) w := by
 have hst : Tryz.prog.stoodInHeld 85 = false := by kernel_rfl
 have hp : ∀ (a b : Nat) (z : Bool) (w : World), (Go.part 24 (cel [a, b] ++ [Value.bool z]).toArray 0).run Tryz.prog w = .ok (N a) w ∧ (Go.part 24 (cel [a, b] ++ [Value.bool z]).toArray 6).run Tryz.prog w = .ok (N b) w ∧ (Go.part 4 (cel [a, b] ++ [Value.bool z]).toArray 12).run Tryz.prog w = .ok (.bool z) w := fun a b z w => ⟨by kernel_rfl, by kernel_rfl, by kernel_rfl⟩
 have q1 := hp a b z
 have q2 := hp a' b' z'
 clear hp
 generalize (cel [a, b] ++ [Value.bool z]).toArray = xs at *
 generalize (cel [a', b'] ++ [Value.bool z']).toArray = ys at *
 simp only [Op.equalIn, Sem.run_bind, run_underlying Tryz.underlying85, Result.andThen_ok]
 simp [hst, hi0, hi1, hi2, q1, q2]
 cases p0 <;> cases p1 <;> cases p2 <;> simp
theorem run_eqPN (a b a' b' : Nat) (z z' : Bool) (ha : a < big) (hb : b < big) (ha' : a' < big) (hb' : b' < big) (w : World) :
  (Op.equalIn 10000 85 (.agg (cel [a, b] ++ [Value.bool z]).toArray) (.agg (cel [a', b'] ++ [Value.bool z']).toArray)).run Tryz.prog w = .ok (decide (a = a') && (decide (b = b') && (z == z'))) w :=
 run_eqPN' 9999 a b a' b' z z' _ _ _ (fun w => run_eqGD 9997 a a' ha ha' w) (fun w => run_eqGD 9997 b b' hb hb' w) (fun w => run_eqB 9998 z z' w) w
theorem run_eqP1' (D a b a' b' : Nat) (z z' p0 p1 p2 : Bool) (hi0 : ∀ w, (Op.equalIn D 24 (N a) (N a')).run Tryz.prog w = .ok p0 w) (hi1 : ∀ w, (Op.equalIn D 24 (N b) (N b')).run Tryz.prog w = .ok p1 w) (hi2 : ∀ w, (Op.equalIn D 4 (.bool z) (.bool z')).run Tryz.prog w = .ok p2 w) (w : World) :
  (Op.equalIn (D + 1) 27 (.agg (cel [a, b] ++ [Value.bool z]).toArray) (.agg (cel [a', b'] ++ [Value.bool z']).toArray)).run Tryz.prog w = .ok (p0 && (p1 && p2)) w := by
 have hst : Tryz.prog.stoodInHeld 27 = false := by kernel_rfl
 have hp : ∀ (a b : Nat) (z : Bool) (w : World), (Go.part 24 (cel [a, b] ++ [Value.bool z]).toArray 0).run Tryz.prog w = .ok (N a) w ∧ (Go.part 24 (cel [a, b] ++ [Value.bool z]).toArray 6).run Tryz.prog w = .ok (N b) w ∧ (Go.part 4 (cel [a, b] ++ [Value.bool z]).toArray 12).run Tryz.prog w = .ok (.bool z) w := fun a b z w => ⟨by kernel_rfl, by kernel_rfl, by kernel_rfl⟩
 have q1 := hp a b z
 have q2 := hp a' b' z'
 clear hp
 generalize (cel [a, b] ++ [Value.bool z]).toArray = xs at *
 generalize (cel [a', b'] ++ [Value.bool z']).toArray = ys at *
 simp only [Op.equalIn, Sem.run_bind, run_underlying Tryz.underlying27, Result.andThen_ok]
 simp [hst, hi0, hi1, hi2, q1, q2]
 cases p0 <;> cases p1 <;> cases p2 <;> simp
theorem run_eqP1 (a b a' b' : Nat) (z z' : Bool) (ha : a < big) (hb : b < big) (ha' : a' < big) (hb' : b' < big) (w : World) :
  (Op.equalIn 10000 27 (.agg (cel [a, b] ++ [Value.bool z]).toArray) (.agg (cel [a', b'] ++ [Value.bool z']).toArray)).run Tryz.prog w = .ok (decide (a = a') && (decide (b = b') && (z == z'))) w :=
 run_eqP1' 9999 a b a' b' z z' _ _ _ (fun w => run_eqGD 9997 a a' ha ha' w) (fun w => run_eqGD 9997 b b' hb hb' w) (fun w => run_eqB 9998 z z' w) w
theorem run_eqPE' (D a b c d a' b' c' d' : Nat) (z z' p0 p1 p2 : Bool) (hi0 : ∀ w, (Op.equalIn D 33 (V [a, b]) (V [a', b'])).run Tryz.prog w = .ok p0 w) (hi1 : ∀ w, (Op.equalIn D 33 (V [c, d]) (V [c', d'])).run Tryz.prog w = .ok p1 w) (hi2 : ∀ w, (Op.equalIn D 4 (.bool z) (.bool z')).run Tryz.prog w = .ok p2 w) (w : World) :
  (Op.equalIn (D + 1) 96 (.agg (cel [a, b, c, d] ++ [Value.bool z]).toArray) (.agg (cel [a', b', c', d'] ++ [Value.bool z']).toArray)).run Tryz.prog w = .ok (p0 && (p1 && p2)) w := by
 have hst : Tryz.prog.stoodInHeld 96 = false := by kernel_rfl
 have hp : ∀ (a b c d : Nat) (z : Bool) (w : World), (Go.part 33 (cel [a, b, c, d] ++ [Value.bool z]).toArray 0).run Tryz.prog w = .ok (V [a, b]) w ∧ (Go.part 33 (cel [a, b, c, d] ++ [Value.bool z]).toArray 12).run Tryz.prog w = .ok (V [c, d]) w ∧ (Go.part 4 (cel [a, b, c, d] ++ [Value.bool z]).toArray 24).run Tryz.prog w = .ok (.bool z) w := fun a b c d z w => ⟨by kernel_rfl, by kernel_rfl, by kernel_rfl⟩
 have q1 := hp a b c d z
 have q2 := hp a' b' c' d' z'
 clear hp
 generalize (cel [a, b, c, d] ++ [Value.bool z]).toArray = xs at *
 generalize (cel [a', b', c', d'] ++ [Value.bool z']).toArray = ys at *
 simp only [Op.equalIn, Sem.run_bind, run_underlying Tryz.underlying96, Result.andThen_ok]
 simp [hst, hi0, hi1, hi2, q1, q2]
 cases p0 <;> cases p1 <;> cases p2 <;> simp
theorem run_eqPE (a b c d a' b' c' d' : Nat) (z z' : Bool) (ha : a < big) (hb : b < big) (hc : c < big) (hd : d < big) (ha' : a' < big) (hb' : b' < big) (hc' : c' < big) (hd' : d' < big) (w : World) :
  (Op.equalIn 10000 96 (.agg (cel [a, b, c, d] ++ [Value.bool z]).toArray) (.agg (cel [a', b', c', d'] ++ [Value.bool z']).toArray)).run Tryz.prog w = .ok ((decide (a = a') && decide (b = b')) && ((decide (c = c') && decide (d = d')) && (z == z'))) w :=
 run_eqPE' 9999 a b c d a' b' c' d' z z' _ _ _ (fun w => run_eqG2 9996 a b a' b' ha hb ha' hb' w) (fun w => run_eqG2 9996 c d c' d' hc hd hc' hd' w) (fun w => run_eqB 9998 z z' w) w
theorem run_eqP2' (D a b c d a' b' c' d' : Nat) (z z' p0 p1 p2 : Bool) (hi0 : ∀ w, (Op.equalIn D 33 (V [a, b]) (V [a', b'])).run Tryz.prog w = .ok p0 w) (hi1 : ∀ w, (Op.equalIn D 33 (V [c, d]) (V [c', d'])).run Tryz.prog w = .ok p1 w) (hi2 : ∀ w, (Op.equalIn D 4 (.bool z) (.bool z')).run Tryz.prog w = .ok p2 w) (w : World) :
  (Op.equalIn (D + 1) 35 (.agg (cel [a, b, c, d] ++ [Value.bool z]).toArray) (.agg (cel [a', b', c', d'] ++ [Value.bool z']).toArray)).run Tryz.prog w = .ok (p0 && (p1 && p2)) w := by
 have hst : Tryz.prog.stoodInHeld 35 = false := by kernel_rfl
 have hp : ∀ (a b c d : Nat) (z : Bool) (w : World), (Go.part 33 (cel [a, b, c, d] ++ [Value.bool z]).toArray 0).run Tryz.prog w = .ok (V [a, b]) w ∧ (Go.part 33 (cel [a, b, c, d] ++ [Value.bool z]).toArray 12).run Tryz.prog w = .ok (V [c, d]) w ∧ (Go.part 4 (cel [a, b, c, d] ++ [Value.bool z]).toArray 24).run Tryz.prog w = .ok (.bool z) w := fun a b c d z w => ⟨by kernel_rfl, by kernel_rfl, by kernel_rfl⟩
 have q1 := hp a b c d z
 have q2 := hp a' b' c' d' z'
 clear hp
 generalize (cel [a, b, c, d] ++ [Value.bool z]).toArray = xs at *
 generalize (cel [a', b', c', d'] ++ [Value.bool z']).toArray = ys at *
 simp only [Op.equalIn, Sem.run_bind, run_underlying Tryz.underlying35, Result.andThen_ok]
 simp [hst, hi0, hi1, hi2, q1, q2]
 cases p0 <;> cases p1 <;> cases p2 <;> simp
theorem run_eqP2 (a b c d a' b' c' d' : Nat) (z z' : Bool) (ha : a < big) (hb : b < big) (hc : c < big) (hd : d < big) (ha' : a' < big) (hb' : b' < big) (hc' : c' < big) (hd' : d' < big) (w : World) :
  (Op.equalIn 10000 35 (.agg (cel [a, b, c, d] ++ [Value.bool z]).toArray) (.agg (cel [a', b', c', d'] ++ [Value.bool z']).toArray)).run Tryz.prog w = .ok ((decide (a = a') && decide (b = b')) && ((decide (c = c') && decide (d = d')) && (z == z'))) w :=
 run_eqP2' 9999 a b c d a' b' c' d' z z' _ _ _ (fun w => run_eqG2 9996 a b a' b' ha hb ha' hb' w) (fun w => run_eqG2 9996 c d c' d' hc hd hc' hd' w) (fun w => run_eqB 9998 z z' w) w
end Rg
end Go.Proofs.YtmanelnacifgcaaGreatDoor
end
