/- Texts of the proof, joined. -/
import Derived.Test.YtahgdighnlekdaaGreatDoorP3
import Derived.WalkKit
set_option maxRecDepth 100000
section
namespace Go.Proofs.YtahgdighnlekdaaGreatDoor
open Go.RowKit
namespace Rg
theorem mod_low (P k : Nat) (hk : k ≤ 6) : P % big % 2 ^ (64 * k) = P % 2 ^ (64 * k) := by
 obtain ⟨n, hn, e⟩ := big_pow
 rw [e]
 exact Nat.mod_mod_of_dvd P (Nat.pow_dvd_pow 2 (by omega))
theorem brw_low (L P k : Nat) (hk : k ≤ 6) : brw L (P % big) k = brw L P k := by unfold brw; rw [mod_low P k hk]
/-- What is left, the lowest k words less P. -/
def tkf (L P k m : Nat) : Int := if m < k then wd (L + big - P % big) m else wd L m
theorem tkf_at {L P k b : Nat} (hk : k < 6) : (lec b (tkf L P k))[6 + k]? = some (.int .u64 (wd L k)) := by
 rw [lec_hi hk]
 unfold tkf
 rw [if_neg (by omega)]
theorem tkf_step {L P k b : Nat} {v : Int} (h : v = wd (L + big - P % big) k) : lec b (upd (tkf L P k) k v) = lec b (tkf L P (k + 1)) := lec_congr fun j _ => by
 unfold upd tkf
 by_cases h1 : j = k
 ·subst h1; rw [if_pos rfl, if_pos (by omega), h]
 ·rw [if_neg h1]
  by_cases h2 : j < k
  ·rw [if_pos h2, if_pos (by omega)]
  ·rw [if_neg h2, if_neg (by omega)]
theorem tkf_start (L P b : Nat) : lec b (wd L) = lec b (tkf L P 0) := lec_congr fun j _ => by
 unfold tkf
 rw [if_neg (by omega)]
theorem tkf_end (L P b : Nat) : lec b (tkf L P 6) = lec b (wd ((L + big - P % big) % big)) := lec_congr fun j hj => by
 unfold tkf
 rw [if_pos hj, wd_mod _ _ hj]
theorem big_pos2 : 0 < big := by rw [big_eq]; exact pow_pos' 6
theorem take_word (L P k : Nat) (hk : k < 6) : subLo (wd L k) (wd P k) (brw L P k) = wd (L + big - P % big) k := by
 rw [← sub_word L (P % big) k hk (Nat.mod_lt _ big_pos2), wd_mod _ _ hk, brw_low _ _ _ (by omega)]
theorem mulLo_comm (x y m c : Int) : mulLo x y m c = mulLo y x m c := by unfold mulLo; rw [Int.mul_comm]
theorem mulHi_comm (x y m c : Int) : mulHi x y m c = mulHi y x m c := by unfold mulHi; rw [Int.mul_comm]
set_option maxHeartbeats 1000000 in
theorem take_gen (g b L t P T : Nat) (hT : IntKind.u64.wrap (((cc 0 t b 6 : Nat) : Int) + brw L P 6) = ((T : Nat) : Int))
  (c0 : ((0 : Nat) : Int) = ((cc 0 t b 0 : Nat) : Int)) (d0 : (0 : Int) = brw L P 0)
  (cm : ∀ k w, Calls Tryz.prog 96 #[.int .u64 (wd b k), .int .u64 ((t : Nat) : Int), .int .u64 0, .int .u64 ((cc 0 t b k : Nat) : Int)] w (Rt w (.tuple #[.int .u64 (wd P k), .int .u64 ((cc 0 t b (k + 1) : Nat) : Int)])))
  (cs : ∀ k w, (callFunc 94 #[.int .u64 (wd L k), .int .u64 (wd P k), .int .u64 (brw L P k)]).run Tryz.prog w = .ok (.value (.tuple #[.int .u64 (subLo (wd L k) (wd P k) (brw L P k)), .int .u64 (brw L P (k + 1))])) w) (w : World) (hm : Mm w [(g, lec b (wd L))]) :
  Calls Tryz.prog 134 #[PT g 0, .int .u64 ((t : Nat) : Int)] w fun e w' => e = .returned (.int .u64 ((T : Nat) : Int)) ∧ Mm w' [(g, lec b (tkf L P 6))] ∧ Kp g w w' := by
 have H0 : Hid (_ ∧ _) := ⟨hm, Kp.refl g w⟩
 clear hm
 have CM : Hid _ := cm
 have CS : Hid _ := cs
 clear cm cs
 go_enter Tryz.func134, Tryz.ntmps134
 refine wp_seq ?_
 refine zD 1 [.q (.int .u64 0)] (sB H0) ?ho1 ?he1
 case ho1 => exact ar trivial
 intro J w1 l hM hl
 have H1 := zT H0 hM.below
 clear hM hl l J
 refine rN (wp_seq ?_)
 refine zD 3 [.q (.int .u64 0), .q (.int .u64 0), .q (.int .u64 0)] (sB H1) ?ho2 ?he2
 case ho2 => exact ar (ar (ar trivial))
 intro J w2 l hM hl
 have H2 := zT H1 hM.below
 clear hM hl l H1 J
 refine rN (wp_seq (wp_seq ?_))
 refine zD 1 [.q (.int .i64 0)] (sB H2) ?ho3 ?he3
 case ho3 => exact ar trivial
 intro J w3 l hM hl
 have H3 := zT H2 hM.below
 clear hM hl l H2 J
 refine rN (wp_block ?_)
 refine loop_ghost (α := Nat) (fun k a' w' => ∃ s0 : Nat → Value, a' = ⟨#[PT g 0, .int .u64 ((t : Nat) : Int), ud, ud, .int .u64 0, s0 5, .int .u64 ((cc 0 t b k : Nat) : Int), .int .u64 (brw L P k), s0 8, .int .i64 ((k : Nat) : Int), s0 10, s0 11, s0 12, s0 13, s0 14, s0 15, s0 16, s0 17, s0 18, s0 19, s0 20, s0 21, s0 22, s0 23, s0 24, s0 25, s0 26, s0 27, s0 28, s0 29, s0 30, s0 31, s0 32, s0 33, s0 34, s0 35, s0 36, s0 37, s0 38, s0 39, s0 40, s0 41, ud, ud, ud], []⟩ ∧ (Mm w' [(g, lec b (tkf L P k))] ∧ Kp g w w') ∧ k ≤ 6) (fun k => 6 - k) 0 ?st0 ?rd0
 case st0 => exact ⟨(slotfn [ud, ud, ud, ud, ud, .int .u64 0, ud, ud, ud, ud, ud, ud, ud, ud, ud, ud, ud, ud, ud, ud, ud, ud, ud, ud, ud, ud, ud, ud, ud, ud, ud, ud, ud, ud, ud, ud, ud, ud, ud, ud, ud, ud]), by rw [← c0, ← d0]; rfl, ⟨H3.out.1.at0 (tkf_start L P b), H3.out.2⟩, by omega⟩
 intro k a' w4 hI
 obtain ⟨s0, rfl, hMB, hk0⟩ := hI
 have H4 : Hid (_ ∧ _) := hMB
 clear hMB H3
 by_cases hlt : k < 6
 ·have hrd : True := trivial
  clear hrd
  refine wp_seq ?_
  refine zD 1 [.q (.bool true)] (sB H4) ?ho4 ?he4
  case ho4 => exact ak (by refine fun J => ⟨rfl, fun w' h => ?_⟩; clear h; go_simp <;> omega) trivial
  intro J w5 l hM hl
  have H5 := zT H4 hM.below
  clear hM hl l H4 J
  refine rN (wp_seq ?_)
  refine wp_cond_true rfl (wp_skip ?_)
  refine zA (wp_seq ?_)
  refine wp_block (wp_seq ?_)
  refine zD 2 [.q (.int .i64 ((k : Nat) : Int)), .q (.int .i64 ((k : Nat) : Int))] (sB H5) ?ho5 ?he5
  case ho5 => exact ar (ar trivial)
  intro J w6 l hM hl
  have H6 := zT H5 hM.below
  clear hM hl l H5 J
  refine rN (wp_seq ?_)
  refine zD 13 [.q (PT g 0), .q (.int .i64 ((k : Nat) : Int)), .q (PT g 0), .q (PT g 0), .q (PT g (0 + k)), .q (.int .u64 (wd b k)), .q (.int .u64 ((t : Nat) : Int)), .q (.int .u64 ((cc 0 t b k : Nat) : Int)), .call (.tuple #[.int .u64 (wd P k), .int .u64 ((cc 0 t b (k + 1) : Nat) : Int)]), .q (.tuple #[.int .u64 (wd P k), .int .u64 ((cc 0 t b (k + 1) : Nat) : Int)]), .q (.int .u64 (wd P k)), .q (.int .u64 ((cc 0 t b (k + 1) : Nat) : Int)), .q (.int .u64 (wd P k))] (sB H6) ?ho6 ?he6
  case ho6 => exact ar (ar (ag (ag (ak (fun J => ⟨rfl, fun w' _ => ex_indexAddr6 rfl rfl rfl hlt⟩) (aq (fun w' h => ex_load1 h 0 rfl rfl rfl (lec_lo hlt)) (ar (ar (ac (fun w' h => eC call96 (CM.out k w')) (ar (ag (ag (ar trivial))))))))))))
  intro J w7 l hM hl
  have H7 := zT H6 hM.below
  clear hM hl l H6 J
  refine zF (l := [13]) rfl ?_
  refine zG (d := 6) rfl rfl rfl rfl ?_
  simp only [Act.put, sa, sz, ss]
  refine zE (zA ?_)
  refine walk_put (by kernel_rfl) 17 [13] [.q (PT g 0), .q (.int .i64 ((k : Nat) : Int)), .q (PT g 0), .q (.int .i64 ((k : Nat) : Int)), .q (PT g 0), .q (PT g 6), .q (PT g (6 + k)), .q (.int .u64 (wd L k)), .q (.int .u64 (wd P k)), .q (.int .u64 (brw L P k)), .q (.tuple #[.int .u64 (subLo (wd L k) (wd P k) (brw L P k)), .int .u64 (brw L P (k + 1))]), .q (.tuple #[.int .u64 (subLo (wd L k) (wd P k) (brw L P k)), .int .u64 (brw L P (k + 1))]), .q (.int .u64 (subLo (wd L k) (wd P k) (brw L P k))), .q (.int .u64 (brw L P (k + 1))), .q (PT g 0), .q (PT g 6), .q (PT g (6 + k))] _ ?pre7 ?F7 _ ?hpre7 (fun J => ?hF7) (by kernel_rfl) rfl trivial (sB H7) ?ho7 ?hla7 ?he7
  case hpre7 => simp only [tk, tz]; rfl
  case hF7 => simp only [fill, Kind.val, Act.put, sa, sz, ss]; rfl
  case ho7 =>
   refine ar ?_
   refine ar ?_
   refine ar ?_
   refine ar ?_
   refine ag ?_
   refine ag ?_
   refine ak (fun J => ⟨rfl, fun w' _ => ex_indexAddr6 rfl rfl rfl hlt⟩) ?_
   refine aq (fun w' h => ex_load1 h 0 rfl rfl rfl (tkf_at hlt)) ?_
   refine ar ?_
   refine ar ?_
   refine aq (fun w' h => ex_extern rfl (CS.out k w') rfl (mpn rfl)) ?_
   refine ar ?_
   refine ag ?_
   refine ag ?_
   refine ag ?_
   refine ag ?_
   refine ak (fun J => ⟨rfl, fun w' _ => ex_indexAddr6 rfl rfl rfl hlt⟩) ?_
   exact trivial
  case hla7 => exact ⟨⟨_, _, rfl, rfl, fun J => ⟨rfl, fun w' => by first | rfl | go_simp⟩⟩, trivial⟩
  intro J w8 l hM hl
  have H8 := zT H7 hM.below
  clear hM hl l H7 J
  refine ⟨_, ex_storeI H8.out.1 0 rfl rfl As22 rfl rfl (lec_bd hlt), ?_⟩
  have H9 : Hid (Mm (w8.setCells g (6 + k) [.int .u64 (subLo (wd L k) (wd P k) (brw L P k))]) [(g, lec b (tkf L P (k + 1)))] ∧ Kp g w (w8.setCells g (6 + k) [.int .u64 (subLo (wd L k) (wd P k) (brw L P k))])) := ⟨by
   have h := H8.out.1.put 0 (off := (6 + k)) (vs := [.int .u64 (subLo (wd L k) (wd P k) (brw L P k))]) rfl (lec_bd hlt)
   rw [lec_put hlt, tkf_step (take_word L P k hlt)] at h
   exact h, H8.out.2.put (Or.inl rfl)⟩
  clear H8
  generalize hgw : World.setCells _ _ _ _ = w9 at H9 ⊢
  clear hgw
  refine zF (l := [18]) rfl ?_
  refine zG (d := 7) rfl rfl rfl rfl ?_
  simp only [Act.put, sa, sz, ss]
  refine zE (zK (zA ?_))
  refine zD 1 [.q (.int .i64 ((k + 1 : Nat) : Int))] (sB H9) ?ho8 ?he8
  case ho8 => exact ak (by refine fun J => ⟨rfl, fun w' h => ?_⟩; clear h; go_simp; rw [IntKind.wrap_i64]; omega) trivial
  intro J w10 l hM hl
  have H10 := zT H9 hM.below
  clear hM hl l H9 J
  refine zF (l := [1]) rfl ?_
  refine zG (d := 9) rfl rfl rfl rfl ?_
  simp only [Act.put, sa, sz, ss]
  refine zE (zA ?_)
  exact ⟨k + 1, ⟨(slotfn [ud, ud, ud, ud, ud, .int .u64 (wd P k), ud, ud, .int .i64 ((k : Nat) : Int), ud, .bool true, .int .i64 ((k : Nat) : Int), .tuple #[.int .u64 (wd P k), .int .u64 ((cc 0 t b (k + 1) : Nat) : Int)], PT g 0, .int .i64 ((k : Nat) : Int), PT g 0, PT g 0, PT g (0 + k), .int .u64 (wd b k), .int .u64 ((t : Nat) : Int), .int .u64 ((cc 0 t b k : Nat) : Int), .tuple #[.int .u64 (wd P k), .int .u64 ((cc 0 t b (k + 1) : Nat) : Int)], .int .u64 (wd P k), .int .u64 ((cc 0 t b (k + 1) : Nat) : Int), .tuple #[.int .u64 (subLo (wd L k) (wd P k) (brw L P k)), .int .u64 (brw L P (k + 1))], PT g 0, .int .i64 ((k : Nat) : Int), PT g 0, .int .i64 ((k : Nat) : Int), PT g 0, PT g 6, PT g (6 + k), .int .u64 (wd L k), .int .u64 (wd P k), .int .u64 (brw L P k), .tuple #[.int .u64 (subLo (wd L k) (wd P k) (brw L P k)), .int .u64 (brw L P (k + 1))], .int .u64 (subLo (wd L k) (wd P k) (brw L P k)), .int .u64 (brw L P (k + 1)), PT g 0, PT g 6, PT g (6 + k), .int .i64 ((k + 1 : Nat) : Int)]), rfl, ⟨H10.out.1, H10.out.2⟩, by omega⟩, by omega⟩
 have hk6 : k = 6 := by omega
 subst hk6
 refine wp_seq ?_
 refine zD 1 [.q (.bool false)] (sB H4) ?ho9 ?he9
 case ho9 => exact ak (by refine fun J => ⟨rfl, fun w' h => ?_⟩; clear h; go_simp <;> omega) trivial
 intro J w11 l hM hl
 have H11 := zT H4 hM.below
 clear hM hl l H4 J
 refine rN (wp_seq (wp_cond_false rfl ?_))
 refine wp_exit ?_
 repeat refine then_exit ?_
 refine block_exit ?_
 refine zA (wp_seq ?_)
 refine zD 4 [.q (.int .u64 ((cc 0 t b 6 : Nat) : Int)), .q (.int .u64 (brw L P 6)), .q (.int .u64 ((T : Nat) : Int)), .q (.int .u64 ((T : Nat) : Int))] (sB H11) ?ho10 ?he10
 case ho10 => exact ar (ar (ag (ar trivial)))
 intro J w12 l hM hl
 have H12 := zT H11 hM.below
 clear hM hl l H11 J
 refine rN (wp_ret ?_)
 repeat (first | refine zJ ?_ | refine zI ?_)
 refine bodyPost_ret (v := .int .u64 ((T : Nat) : Int)) (by simp [results, Tryz.results134, go_sem, *]) rfl ?_
 exact ⟨rfl, H12.out.1.one 0 rfl, H12.out.2⟩
theorem cc_any (t b k : Nat) : cc 0 t b k = t * (b % 2 ^ (64 * k)) / 2 ^ (64 * k) := by unfold cc; rw [Nat.zero_mod, Nat.zero_add]
theorem cc_six (t b : Nat) (hb : b < big) : cc 0 t b 6 = t * b / big := by
 obtain ⟨m, hm, e⟩ := big_pow
 rw [← hm, cc_any, ← e, Nat.mod_eq_of_lt hb]
theorem brw_six (L P : Nat) (hL : L < big) : brw L P 6 = (((if L < P % big then 1 else 0 : Nat)) : Int) := by
 obtain ⟨m, hm, e⟩ := big_pow
 rw [← hm]
 unfold brw
 rw [← e, Nat.mod_eq_of_lt hL]
 split <;> rfl
/-- What taking lacks above. -/
def tkT (L t b : Nat) : Nat := t * b / big + (if L < t * b % big then 1 else 0)
theorem takeL_any (g b L t : Nat) (hL : L < big) (hb : b < big) (ht : t < 18446744073709551616) (w : World) (hm : Mm w [(g, lec b (wd L))]) :
  Calls Tryz.prog 134 #[PT g 0, .int .u64 ((t : Nat) : Int)] w fun e w' => e = .returned (.int .u64 ((tkT L t b : Nat) : Int)) ∧ Mm w' [(g, lec b (wd ((L + big - t * b % big) % big)))] ∧ Kp g w w' := by
 have hcl : ∀ k, cc 0 t b k < 18446744073709551616 := fun k => cc_lt 0 t b k ht
 have h6 := cc_six t b hb
 have hb6 := brw_six L (t * b) hL
 have hT : IntKind.u64.wrap (((cc 0 t b 6 : Nat) : Int) + brw L (t * b) 6) = ((tkT L t b : Nat) : Int) := by
  have h1 : t * b / big < 18446744073709551615 := by
   rw [Nat.div_lt_iff_lt_mul big_pos2]
   rcases Nat.eq_zero_or_pos t with h | h
   ·rw [h, Nat.zero_mul]; exact Nat.mul_pos (by decide) big_pos2
   ·have : t * b < t * big := Nat.mul_lt_mul_of_pos_left hb h
    exact Nat.lt_of_lt_of_le this (Nat.mul_le_mul (by omega) (Nat.le_refl big))
  rw [IntKind.wrap_u64, h6, hb6]
  unfold tkT
  generalize t * b / big = q at h1
  split <;> omega
 have cm : ∀ k w, Calls Tryz.prog 96 #[.int .u64 (wd b k), .int .u64 ((t : Nat) : Int), .int .u64 0, .int .u64 ((cc 0 t b k : Nat) : Int)] w (Rt w (.tuple #[.int .u64 (wd (t * b) k), .int .u64 ((cc 0 t b (k + 1) : Nat) : Int)])) := fun k w => by
  have h := mulAddM_any (wd b k) ((t : Nat) : Int) 0 ((cc 0 t b k : Nat) : Int) (wd_bd _ _).1 (wd_bd _ _).2 (Int.natCast_nonneg _) (by omega) (by omega) (by omega) (Int.natCast_nonneg _) (by have := hcl k; omega) w
  have e1 := cc_lo 0 t b k
  have e2 := cc_hi 0 t b k
  rw [Nat.zero_add, wd_zero] at e1
  rw [wd_zero] at e2
  rw [mulLo_comm, mulHi_comm, e1, e2] at h
  exact h.mono fun e w2 ⟨h1, h2⟩ => ⟨h1, h2 ▸ Below.refl _ _⟩
 have cs : ∀ k w, (callFunc 94 #[.int .u64 (wd L k), .int .u64 (wd (t * b) k), .int .u64 (brw L (t * b) k)]).run Tryz.prog w = .ok (.value (.tuple #[.int .u64 (subLo (wd L k) (wd (t * b) k) (brw L (t * b) k)), .int .u64 (brw L (t * b) (k + 1))])) w := fun k w => by
  have h := sub64' (wd L k) (wd (t * b) k) (brw L (t * b) k) (wd_bd _ _).1 (wd_bd _ _).1 (wd_bd _ _).2 (brw_bd _ _ _).1 (brw_bd _ _ _).2 w
  rw [sub_cry] at h
  exact h
 have h := take_gen g b L t (t * b) (tkT L t b) hT (by rw [cc_zero]) (by unfold brw; simp [Nat.mod_one]) cm cs w hm
 rw [tkf_end] at h
 exact h
theorem Kp.join {g : Nat} {a b c : World} (h : Kp g a b) (k : Kp g b c) : Kp g a c :=
 ⟨k.os.trans h.os, k.tape.trans h.tape, k.output.trans h.output, Nat.le_trans h.size k.size, fun i hi hg => (k.block i (Nat.lt_of_lt_of_le hi h.size) hg).trans (h.block i hi hg)⟩
set_option maxHeartbeats 1000000 in
theorem step_gen (g b L L1 a0 t T D : Nat) (i : Int) (f : Nat → Nat) (A : Nat → Int) (cr : Nat → Bool)
  (h00 : A 0 = 0) (hN : ∀ x, x + 1 ≤ D → ¬ A (x + 1) = 0) (hD : IntKind.u64.wrap (((a0 : Nat) : Int) - ((T : Nat) : Int)) = A D)
  (hT : ∀ x, cr x = true → IntKind.u64.wrap (A (x + 1) + 1) = A x) (hF : ∀ x, cr x = false → A (x + 1) = A x)
  (cs : ∀ w, Mm w [(g, lec b (wd L))] → Calls Tryz.prog 133 #[PT g 0, .int .i64 i] w fun e w' => e = .returned (.int .u64 ((a0 : Nat) : Int)) ∧ Mm w' [(g, lec b (wd L1))] ∧ Kp g w w')
  (cg : ∀ w, Calls Tryz.prog 135 #[.int .u64 ((a0 : Nat) : Int), .int .u64 (wd L1 5), .int .u64 (wd b 5)] w (Rt w (.int .u64 ((t : Nat) : Int))))
  (ct : ∀ w, Mm w [(g, lec b (wd L1))] → Calls Tryz.prog 134 #[PT g 0, .int .u64 ((t : Nat) : Int)] w fun e w' => e = .returned (.int .u64 ((T : Nat) : Int)) ∧ Mm w' [(g, lec b (wd (f D)))] ∧ Kp g w w')
  (ca : ∀ x w, Calls Tryz.prog 35 #[N (f (x + 1)), N b] w (Rt w (.tuple #[N (f x), .bool (cr x)]))) (w : World) (hm : Mm w [(g, lec b (wd L))]) :
  Calls Tryz.prog 120 #[PT g 0, .int .i64 i] w fun e w' => e = .returned (.tuple #[]) ∧ Mm w' [(g, lec b (wd (f 0)))] ∧ Kp g w w' := by
 have H0 : Hid (_ ∧ _) := ⟨hm, Kp.refl g w⟩
 clear hm
 have CS : Hid _ := cs
 have CG : Hid _ := cg
 have CT : Hid _ := ct
 have CA : Hid _ := ca
 have HN : Hid _ := hN
 have H00 : Hid _ := h00
 have HT : Hid _ := hT
 have HF : Hid _ := hF
 clear cs cg ct ca hN h00 hT hF
 go_enter Tryz.func120, Tryz.ntmps120
 refine wp_seq ?_
 refine zD 2 [.q (PT g 0), .q (.int .i64 i)] (sB H0) ?ho1 ?he1
 case ho1 => exact ar (ar trivial)
 intro J w1 l hM hl
 have H1 := zT H0 hM.below
 clear hM hl l J
 refine zF (l := [2, 3]) rfl ?_
 refine rest_enter (d := 10) (R := fun vv w' => vv = .int .u64 ((a0 : Nat) : Int) ∧ Mm w' [(g, lec b (wd L1))] ∧ Kp g w1 w') rfl rfl rfl (exec_call (args := #[PT g 0, .int .i64 i]) rfl call133 rfl (mpn rfl)) (Calls.mono (CS.out w1 (H1.out.1.one 0 rfl)) (fun e w2 hh => ⟨_, hh.1, rfl, hh.2⟩)) ?_
 rintro _ w2 ⟨rfl, hn, hp⟩
 have H2 : Hid (Mm w2 [(g, lec b (wd L1))] ∧ Kp g w w2) := ⟨H1.out.1.change 0 rfl hp hn, H1.out.2.join hp⟩
 clear hn hp H1
 simp only [Act.put, sa, sz, ss]
 refine zG (d := 4) rfl rfl rfl rfl ?_
 simp only [Act.put, sa, sz, ss]
 refine zE (zA (wp_seq ?_))
 refine zD 1 [.q (.int .i64 5)] (sB H2) ?ho2 ?he2
 case ho2 => exact ar trivial
 intro J w3 l hM hl
 have H3 := zT H2 hM.below
 clear hM hl l H2 J
 refine rN (wp_seq ?_)
 refine walk_enter (by kernel_rfl) 16 [0] [.q (.int .u64 ((a0 : Nat) : Int)), .q (PT g 0), .q (.int .u64 ((a0 : Nat) : Int)), .q (PT g 0), .q (.int .i64 5), .q (PT g 0), .q (PT g 6), .q (PT g 11), .q (.int .u64 (wd L1 5)), .q (PT g 0), .q (.int .i64 5), .q (PT g 0), .q (PT g 0), .q (PT g 5), .q (.int .u64 (wd b 5)), .call (.int .u64 ((t : Nat) : Int))] _ ?pre3 ?F3 ?G3 _ 27 (.int .u64 ((T : Nat) : Int)) ?hpre3 (fun J => ?hF3) (fun J => ?hG3) (by kernel_rfl) rfl trivial (sB H3) ?ho3 ?hla3 ?he3
 case hpre3 => simp only [tk, tz]; rfl
 case hF3 => simp only [fill, Kind.val, Act.put, sa, sz, ss]; rfl
 case hG3 => simp only [fill, Kind.val, Act.put, sa, sz, ss]; rfl
 case ho3 =>
  refine ar ?_
  refine ar ?_
  refine ar ?_
  refine ar ?_
  refine ar ?_
  refine ag ?_
  refine ag ?_
  refine ag ?_
  refine aq (fun w' h => ex_load1 h 0 rfl rfl rfl rfl) ?_
  refine ar ?_
  refine ar ?_
  refine ag ?_
  refine ag ?_
  refine ag ?_
  refine aq (fun w' h => ex_load1 h 0 rfl rfl rfl rfl) ?_
  refine ak (fun J => ⟨rfl, fun w' h => eC call135 (CG.out w')⟩) ?_
  exact trivial
 case hla3 => exact ⟨⟨_, _, rfl, rfl, fun J => ⟨rfl, fun w' => by first | rfl | go_simp⟩⟩, trivial⟩
 intro J w4 l hM hl
 have H4 := zT H3 hM.below
 clear hM hl l H3 J
 refine ⟨134, #[PT g 0, .int .u64 ((t : Nat) : Int)], (fun w' => Mm w' [(g, lec b (wd (f D)))] ∧ Kp g w4 w'), exec_call (args := #[PT g 0, .int .u64 ((t : Nat) : Int)]) rfl call134 rfl (mpn rfl), CT.out w4 (H4.out.1.one 0 rfl), ?_⟩
 rintro w5 ⟨hn, hp⟩
 have H5 : Hid (Mm w5 [(g, lec b (wd (f D)))] ∧ Kp g w w5) := ⟨H4.out.1.change 0 rfl hp hn, H4.out.2.join hp⟩
 clear hn hp H4
 refine zF (l := [17, 18]) rfl ?_
 refine zG (d := 28) (v := .int .u64 (A D)) (w' := w5) rfl rfl rfl (by go_simp) ?_
 simp only [Act.put, sa, sz, ss]
 refine zG (d := 4) rfl rfl rfl rfl ?_
 simp only [Act.put, sa, sz, ss]
 refine zE (zA (wp_block ?_))
 refine loop_ghost (α := Nat) (fun d a' w' => ∃ s0 : Nat → Value, a' = ⟨#[PT g 0, .int .i64 i, undef, undef, .int .u64 (A d), .int .i64 5, s0 6, s0 7, PT g 0, .int .i64 i, .int .u64 ((a0 : Nat) : Int), .int .u64 ((a0 : Nat) : Int), PT g 0, .int .u64 ((a0 : Nat) : Int), PT g 0, .int .i64 5, PT g 0, PT g 6, PT g 11, .int .u64 (wd L1 5), PT g 0, .int .i64 5, PT g 0, PT g 0, PT g 5, .int .u64 (wd b 5), .int .u64 ((t : Nat) : Int), .int .u64 ((T : Nat) : Int), .int .u64 (A D), s0 29, s0 30, s0 31, s0 32, s0 33, s0 34, s0 35, s0 36, s0 37, s0 38, s0 39, s0 40, s0 41, s0 42, s0 43, s0 44, s0 45, s0 46, s0 47, s0 48, s0 49], []⟩ ∧ (Mm w' [(g, lec b (wd (f d)))] ∧ Kp g w w') ∧ d ≤ D) (fun d => d) D ?st0 ?rd0
 case st0 => exact ⟨(slotfn [ud, ud, ud, ud, ud, ud, ud, ud, ud, ud, ud, ud, ud, ud, ud, ud, ud, ud, ud, ud, ud, ud, ud, ud, ud, ud, ud, ud, ud, ud, ud, ud, ud, ud, ud, ud, ud, ud, ud, ud, ud, ud, ud, ud, ud, ud, ud, ud, ud, ud]), rfl, ⟨H5.out.1, H5.out.2⟩, by omega⟩
 intro d a' w6 hI
 obtain ⟨s0, rfl, hMB, hk0⟩ := hI
 have H6 : Hid (_ ∧ _) := hMB
 clear hMB H5
 by_cases hlt : 0 < d
 ·have hrd : True := trivial
  clear hrd
  obtain ⟨x, hx⟩ : ∃ x, d = x + 1 := ⟨d - 1, by omega⟩
  subst hx
  have hne := HN.out x (by omega)
  rcases Bool.eq_false_or_eq_true (cr x) with hcr | hcr
  ·have hrd : True := trivial
   clear hrd
   have cA := CA.out x
   rw [hcr] at cA
   have CA1 : Hid _ := cA
   have hAt := HT.out x hcr
   clear cA
   refine wp_seq (wp_seq ?_)
   refine zD 2 [.q (.int .u64 (A (x + 1))), .q (.bool true)] (sB H6) ?ho4 ?he4
   case ho4 => exact ar (ak (by refine fun J => ⟨rfl, fun w' h => ?_⟩; clear h; go_simp <;> omega) trivial)
   intro J w7 l hM hl
   have H7 := zT H6 hM.below
   clear hM hl l H6 J
   refine rN (wp_cond_true rfl ?_)
   refine wp_skip (zA ?_)
   refine wp_block (wp_seq ?_)
   refine walk_anyA 15 [.q (PT g 0), .q (PT g 0), .q (PT g 6), .q (N (f (x + 1))), .q (PT g 0), .q (PT g 0), .q (PT g 0), .q (N b), .call (.tuple #[N (f x), .bool true]), .q (.tuple #[N (f x), .bool true]), .q (N (f x)), .q (.bool true), .made zero6 24, .laid 12 zero6 (zC (f x)), .q (.bool true)] (sB H7) ?ho5 ?he5 (hL := ?hL5)
   case hL5 => exact ⟨⟨_, rfl⟩, trivial⟩
   case ho5 => exact ar (ag (ag (bN 0 (ar (ag (ag (bN 0 (ac (fun w' h => eC call35 (CA1.out w')) (ar (ag (ag (am (zH rfl) (ak (fun J => ⟨rfl, rfl, rfl, fun w' h => zL h rfl rfl rfl⟩) (ar trivial))))))))))))))
   intro J w8 l hM hl
   have H8 : Hid (Mm w8 ([(J 12, zC (f x))] ++ _) ∧ _) := wK H7 hM hl [12]
   have o5_12 := vK H7 hM hl 12
   clear hM hl l H7
   generalize J 12 = J5_12 at H8 o5_12 ⊢
   clear J
   refine rN (wp_seq ?_)
   refine zD 4 [.q (PT g 0), .q (N (f x)), .q (PT g 0), .q (PT g 6)] (sB H8) ?ho6 ?he6
   case ho6 => exact ar (bN 0 (ag (ag trivial)))
   intro J w9 l hM hl
   have H9 := zT H8 hM.below
   clear hM hl l H8 J
   refine zF (l := [4]) rfl ?_
   refine sH rfl (fun h => zM h 1 rfl rfl rfl rfl (Nat.le_of_ble_eq_true rfl)) 1 [_, (_, lec b (wd (f x)))] H9 (Or.inl rfl) fun w10 H10 => ?_
   clear H9
   refine zE (zA (wp_seq ?_))
   refine zD 1 [.q (.bool true)] (sB H10) ?ho7 ?he7
   case ho7 => exact ar trivial
   intro J w11 l hM hl
   have H11 := zT H10 hM.below
   clear hM hl l H10 J
   refine rN (wp_cond_true rfl ?_)
   refine zD 2 [.q (.int .u64 (A (x + 1))), .q (.int .u64 (A x))] (sB H11) ?ho8 ?he8
   case ho8 => exact ar (ak (by refine fun J => ⟨rfl, fun w' h => ?_⟩; clear h; go_simp; try exact hAt) trivial)
   intro J w12 l hM hl
   have H12 := zT H11 hM.below
   clear hM hl l H11 J
   refine zF (l := [2]) rfl ?_
   refine zG (d := 4) rfl rfl rfl rfl ?_
   simp only [Act.put, sa, sz, ss]
   refine zE (zK (zA ?_))
   exact ⟨x, ⟨(slotfn [ud, ud, ud, ud, ud, ud, PT J5_12 0, .bool true, ud, ud, ud, ud, ud, ud, ud, ud, ud, ud, ud, ud, ud, ud, ud, ud, ud, ud, ud, ud, ud, .int .u64 (A (x + 1)), .bool true, .tuple #[N (f x), .bool true], PT g 0, PT g 0, PT g 6, N (f (x + 1)), PT g 0, PT g 0, PT g 0, N b, .tuple #[N (f x), .bool true], N (f x), .bool true, PT g 0, N (f x), PT g 0, PT g 6, .bool true, .int .u64 (A (x + 1)), .int .u64 (A x)]), rfl, ⟨H12.out.1.tail, H12.out.2⟩, by omega⟩, by omega⟩
  ·have hrd : True := trivial
   clear hrd
   have cA := CA.out x
   rw [hcr] at cA
   have CA1 : Hid _ := cA
   have hAf := HF.out x hcr
   clear cA
   rw [hAf]
   rw [hAf] at hne
   refine wp_seq (wp_seq ?_)
   refine zD 2 [.q (.int .u64 (A x)), .q (.bool true)] (sB H6) ?ho9 ?he9
   case ho9 => exact ar (ak (by refine fun J => ⟨rfl, fun w' h => ?_⟩; clear h; go_simp <;> omega) trivial)
   intro J w13 l hM hl
   have H13 := zT H6 hM.below
   clear hM hl l H6 J
   refine rN (wp_cond_true rfl ?_)
   refine wp_skip (zA ?_)
   refine wp_block (wp_seq ?_)
   refine walk_anyA 15 [.q (PT g 0), .q (PT g 0), .q (PT g 6), .q (N (f (x + 1))), .q (PT g 0), .q (PT g 0), .q (PT g 0), .q (N b), .call (.tuple #[N (f x), .bool false]), .q (.tuple #[N (f x), .bool false]), .q (N (f x)), .q (.bool false), .made zero6 24, .laid 12 zero6 (zC (f x)), .q (.bool false)] (sB H13) ?ho10 ?he10 (hL := ?hL10)
   case hL10 => exact ⟨⟨_, rfl⟩, trivial⟩
   case ho10 => exact ar (ag (ag (bN 0 (ar (ag (ag (bN 0 (ac (fun w' h => eC call35 (CA1.out w')) (ar (ag (ag (am (zH rfl) (ak (fun J => ⟨rfl, rfl, rfl, fun w' h => zL h rfl rfl rfl⟩) (ar trivial))))))))))))))
   intro J w14 l hM hl
   have H14 : Hid (Mm w14 ([(J 12, zC (f x))] ++ _) ∧ _) := wK H13 hM hl [12]
   have o10_12 := vK H13 hM hl 12
   clear hM hl l H13
   generalize J 12 = J10_12 at H14 o10_12 ⊢
   clear J
   refine rN (wp_seq ?_)
   refine zD 4 [.q (PT g 0), .q (N (f x)), .q (PT g 0), .q (PT g 6)] (sB H14) ?ho11 ?he11
   case ho11 => exact ar (bN 0 (ag (ag trivial)))
   intro J w15 l hM hl
   have H15 := zT H14 hM.below
   clear hM hl l H14 J
   refine zF (l := [4]) rfl ?_
   refine sH rfl (fun h => zM h 1 rfl rfl rfl rfl (Nat.le_of_ble_eq_true rfl)) 1 [_, (_, lec b (wd (f x)))] H15 (Or.inl rfl) fun w16 H16 => ?_
   clear H15
   refine zE (zA (wp_seq ?_))
   refine zD 1 [.q (.bool false)] (sB H16) ?ho12 ?he12
   case ho12 => exact ar trivial
   intro J w17 l hM hl
   have H17 := zT H16 hM.below
   clear hM hl l H16 J
   refine rN (wp_cond_false rfl ?_)
   refine wp_skip (zK (zA ?_))
   exact ⟨x, ⟨(slotfn [ud, ud, ud, ud, ud, ud, PT J10_12 0, .bool false, ud, ud, ud, ud, ud, ud, ud, ud, ud, ud, ud, ud, ud, ud, ud, ud, ud, ud, ud, ud, ud, .int .u64 (A x), .bool true, .tuple #[N (f x), .bool false], PT g 0, PT g 0, PT g 6, N (f (x + 1)), PT g 0, PT g 0, PT g 0, N b, .tuple #[N (f x), .bool false], N (f x), .bool false, PT g 0, N (f x), PT g 0, PT g 6, .bool false, s0 48, s0 49]), rfl, ⟨H17.out.1.tail, H17.out.2⟩, by omega⟩, by omega⟩
 have hd0 : d = 0 := by omega
 subst hd0
 have hA0 := H00.out
 refine wp_seq (wp_seq ?_)
 refine zD 2 [.q (.int .u64 (A 0)), .q (.bool false)] (sB H6) ?ho13 ?he13
 case ho13 => exact ar (ak (by refine fun J => ⟨rfl, fun w' h => ?_⟩; clear h; go_simp <;> omega) trivial)
 intro J w18 l hM hl
 have H18 := zT H6 hM.below
 clear hM hl l H6 J
 refine rN (wp_cond_false rfl ?_)
 refine wp_exit ?_
 repeat refine then_exit ?_
 refine block_exit ?_
 refine bodyPost_end (v := .tuple #[]) (by simp [results, Tryz.results120, go_sem]) rfl ?_
 exact ⟨rfl, H18.out.1.one 0 rfl, H18.out.2⟩
set_option maxHeartbeats 1000000 in
theorem double_gen (g b L1 K j : Nat) (f : Nat → Nat) (hK : K < 1000) (hj : j ≤ 64) (hKj : 0 < K → 0 < j)
  (cf : ∀ k w, Mm w [(g, lec b (wd (f k)))] → Calls Tryz.prog 120 #[PT g 0, .int .i64 64] w fun e w' => e = .returned (.tuple #[]) ∧ Mm w' [(g, lec b (wd (f (k + 1))))] ∧ Kp g w w')
  (cl : ∀ w, Mm w [(g, lec b (wd (f K)))] → Calls Tryz.prog 120 #[PT g 0, .int .i64 ((64 * (K - K) + j : Nat) : Int)] w fun e w' => e = .returned (.tuple #[]) ∧ Mm w' [(g, lec b (wd L1))] ∧ Kp g w w') (w : World) (hm : Mm w [(g, lec b (wd (f 0)))]) :
  Calls Tryz.prog 93 #[PT g 0, .int .i64 ((64 * (K - 0) + j : Nat) : Int)] w fun e w' => e = .returned (.tuple #[]) ∧ Mm w' [(g, lec b (wd L1))] ∧ Kp g w w' := by
 have H0 : Hid (_ ∧ _) := ⟨hm, Kp.refl g w⟩
 clear hm
 have CF : Hid _ := cf
 have CL : Hid _ := cl
 clear cf cl
 go_enter Tryz.func93, Tryz.ntmps93
 refine wp_seq (wp_block ?_)
 refine loop_ghost (α := Nat) (fun k a' w' => ∃ s0 : Nat → Value, a' = ⟨#[PT g 0, .int .i64 ((64 * (K - k) + j : Nat) : Int), ud, ud, s0 4, s0 5, s0 6, s0 7, s0 8, s0 9, ud, ud, ud], []⟩ ∧ (Mm w' [(g, lec b (wd (f k)))] ∧ Kp g w w') ∧ k ≤ K) (fun k => K - k) 0 ?st0 ?rd0
 case st0 => exact ⟨(slotfn [ud, ud, ud, ud, ud, ud, ud, ud, ud, ud]), rfl, ⟨H0.out.1, H0.out.2⟩, by omega⟩
 intro k a' w1 hI
 obtain ⟨s0, rfl, hMB, hk0⟩ := hI
 have H1 : Hid (_ ∧ _) := hMB
 clear hMB
 by_cases hlt : k < K
 ·have hrd : True := trivial
  clear hrd
  refine wp_seq (wp_seq ?_)
  refine zD 2 [.q (.int .i64 ((64 * (K - k) + j : Nat) : Int)), .q (.bool true)] (sB H1) ?ho1 ?he1
  case ho1 => exact ar (ak (by refine fun J => ⟨rfl, fun w' h => ?_⟩; clear h; go_simp <;> omega) trivial)
  intro J w2 l hM hl
  have H2 := zT H1 hM.below
  clear hM hl l H1 J
  refine rN (wp_cond_true rfl ?_)
  refine wp_skip (zA ?_)
  refine wp_seq (wp_block ?_)
  refine zD 1 [.q (PT g 0)] (sB H2) ?ho2 ?he2
  case ho2 => exact ar trivial
  intro J w3 l hM hl
  have H3 := zT H2 hM.below
  clear hM hl l H2 J
  refine zF (l := [1]) rfl ?_
  refine rest_enter (d := 9) (R := fun vv w' => vv = .tuple #[] ∧ Mm w' [(g, lec b (wd (f (k + 1))))] ∧ Kp g w3 w') rfl rfl rfl (exec_call (args := #[PT g 0, .int .i64 64]) rfl call120 rfl (mpn rfl)) (Calls.mono (CF.out k w3 (H3.out.1.one 0 rfl)) (fun e w2 hh => ⟨_, hh.1, rfl, hh.2⟩)) ?_
  rintro _ w4 ⟨rfl, hn, hp⟩
  have H4 : Hid (Mm w4 [(g, lec b (wd (f (k + 1))))] ∧ Kp g w w4) := ⟨H3.out.1.change 0 rfl hp hn, H3.out.2.join hp⟩
  clear hn hp H3
  simp only [Act.put, sa, sz, ss]
  refine zE (zK (zA ?_))
  refine zD 2 [.q (.int .i64 ((64 * (K - k) + j : Nat) : Int)), .q (.int .i64 ((64 * (K - (k + 1)) + j : Nat) : Int))] (sB H4) ?ho3 ?he3
  case ho3 => exact ar (ak (by refine fun J => ⟨rfl, fun w' h => ?_⟩; clear h; go_simp; rw [IntKind.wrap_i64]; omega) trivial)
  intro J w5 l hM hl
  have H5 := zT H4 hM.below
  clear hM hl l H4 J
  refine zF (l := [2]) rfl ?_
  refine zG (d := 1) rfl rfl rfl rfl ?_
  simp only [Act.put, sa, sz, ss]
  refine zE (zA ?_)
  exact ⟨k + 1, ⟨(slotfn [ud, ud, ud, ud, .int .i64 ((64 * (K - k) + j : Nat) : Int), .bool true, .int .i64 ((64 * (K - k) + j : Nat) : Int), .int .i64 ((64 * (K - (k + 1)) + j : Nat) : Int), PT g 0, .tuple #[]]), rfl, ⟨H5.out.1, H5.out.2⟩, by omega⟩, by omega⟩
 have hkK : k = K := by omega
 subst hkK
 refine wp_seq (wp_seq ?_)
 refine zD 2 [.q (.int .i64 ((64 * (k - k) + j : Nat) : Int)), .q (.bool false)] (sB H1) ?ho4 ?he4
 case ho4 => exact ar (ak (by refine fun J => ⟨rfl, fun w' h => ?_⟩; clear h; go_simp <;> omega) trivial)
 intro J w6 l hM hl
 have H6 := zT H1 hM.below
 clear hM hl l H1 J
 refine rN (wp_cond_false rfl ?_)
 refine wp_exit ?_
 repeat refine then_exit ?_
 refine block_exit ?_
 refine zA ?_
 refine zD 2 [.q (PT g 0), .q (.int .i64 ((64 * (k - k) + j : Nat) : Int))] (sB H6) ?ho5 ?he5
 case ho5 => exact ar (ar trivial)
 intro J w7 l hM hl
 have H7 := zT H6 hM.below
 clear hM hl l H6 J
 refine zF (l := [2]) rfl ?_
 refine rest_enter (d := 12) (R := fun vv w' => vv = .tuple #[] ∧ Mm w' [(g, lec b (wd L1))] ∧ Kp g w7 w') rfl rfl rfl (exec_call (args := #[PT g 0, .int .i64 ((64 * (k - k) + j : Nat) : Int)]) rfl call120 rfl (mpn rfl)) (Calls.mono (CL.out w7 (H7.out.1.one 0 rfl)) (fun e w2 hh => ⟨_, hh.1, rfl, hh.2⟩)) ?_
 rintro _ w8 ⟨rfl, hn, hp⟩
 have H8 : Hid (Mm w8 [(g, lec b (wd L1))] ∧ Kp g w w8) := ⟨H7.out.1.change 0 rfl hp hn, H7.out.2.join hp⟩
 clear hn hp H7
 simp only [Act.put, sa, sz, ss]
 refine zE ?_
 refine bodyPost_end (v := .tuple #[]) (by simp [results, Tryz.results93, go_sem]) rfl ?_
 exact ⟨rfl, H8.out.1.one 0 rfl, H8.out.2⟩
theorem unq {u B k m : Int} (hB : 0 < B) (e : u = B * k + m) (h0 : 0 ≤ m) (h1 : m < B) : u / B = k ∧ u % B = m :=
 (Int.ediv_emod_unique hB).2 ⟨by omega, h0, h1⟩
/-- What is left less d times the divisor. -/
def zst (r b d : Nat) : Int := (r : Int) - (d : Int) * (b : Int)
def zl (r b d : Nat) : Nat := (zst r b d % (big : Int)).toNat
def za (r b d : Nat) : Int := zst r b d / (big : Int) % 18446744073709551616
theorem bigI : (0 : Int) < (big : Int) := by have := big_pos2; omega
theorem zl_cast (r b d : Nat) : ((zl r b d : Nat) : Int) = zst r b d % (big : Int) := Int.toNat_of_nonneg (Int.emod_nonneg _ (by have := bigI; omega))
theorem zl_lt (r b d : Nat) : zl r b d < big := by
 have h := zl_cast r b d
 have h2 := Int.emod_lt_of_pos (zst r b d) bigI
 omega
theorem zst_succ (r b d : Nat) : zst r b d = zst r b (d + 1) + b := by
 unfold zst
 rw [Int.natCast_add, Int.add_mul]
 omega
theorem z_step (r b d : Nat) (hb : b < big) : (if big ≤ zl r b (d + 1) + b then zst r b (d + 1) / (big : Int) + 1 else zst r b (d + 1) / (big : Int)) = zst r b d / (big : Int) ∧ (zl r b (d + 1) + b) % big = zl r b d := by
 have h1 := zl_cast r b (d + 1)
 have h2 := zl_cast r b d
 have h3 := zl_lt r b (d + 1)
 have hm := Int.mul_ediv_add_emod (zst r b (d + 1)) (big : Int)
 rw [← h1] at hm
 have e := zst_succ r b d
 by_cases hc : big ≤ zl r b (d + 1) + b
 ·rw [if_pos hc]
  obtain ⟨u1, u2⟩ := unq (u := zst r b d) (k := zst r b (d + 1) / (big : Int) + 1) (m := (zl r b (d + 1) : Int) + b - big) bigI (by rw [e, Int.mul_add, Int.mul_one]; omega) (by omega) (by omega)
  refine ⟨u1.symm, ?_⟩
  rw [u2] at h2
  rw [Nat.mod_eq_sub_mod hc, Nat.mod_eq_of_lt (by omega)]
  omega
 ·rw [if_neg hc]
  obtain ⟨u1, u2⟩ := unq (u := zst r b d) (k := zst r b (d + 1) / (big : Int)) (m := (zl r b (d + 1) : Int) + b) bigI (by rw [e]; omega) (by omega) (by omega)
  refine ⟨u1.symm, ?_⟩
  rw [u2] at h2
  rw [Nat.mod_eq_of_lt (by omega)]
  omega
theorem za_zero (r b : Nat) (hr : r < big) : za r b 0 = 0 := by
 unfold za zst
 rw [Int.natCast_zero, Int.zero_mul, Int.sub_zero, Int.ediv_eq_zero_of_lt (by omega) (by omega)]; rfl
theorem zl_zero (r b : Nat) (hr : r < big) : zl r b 0 = r := by
 have h := zl_cast r b 0
 unfold zst at h
 rw [Int.natCast_zero, Int.zero_mul, Int.sub_zero, Int.emod_eq_of_lt (by omega) (by omega)] at h
 omega
theorem za_ne (r b d : Nat) (hr : r < b) (hb : b < big) (hd : d < 18446744073709551616) (h0 : 0 < d) : ¬ za r b d = 0 := by
 unfold za
 have h1 : zst r b d < 0 := by
  unfold zst
  have : (b : Int) ≤ (d : Int) * (b : Int) := by
   have := Nat.mul_le_mul (show 1 ≤ d from h0) (Nat.le_refl b)
   rw [← Int.natCast_mul]; omega
  omega
 have h2 : -(18446744073709551615 * (big : Int)) ≤ zst r b d := by
  unfold zst
  have h3 : d * b ≤ 18446744073709551615 * big := Nat.mul_le_mul (by omega) (by omega)
  rw [← Int.natCast_mul]; omega
 have h3 : zst r b d / (big : Int) < 0 := Int.ediv_neg_of_neg_of_pos h1 bigI
 have h4 : -18446744073709551615 ≤ zst r b d / (big : Int) := by
  rw [Int.le_ediv_iff_mul_le bigI]; omega
 omega
theorem guess_ge (X b : Nat) (hb : b < big) (hX : X < 18446744073709551616 * b) : X / b ≤ gs (X / big) (wn (X % big) 5) (wn b 5) := by
 have hb0 : 0 < b := by
  rcases Nat.eq_zero_or_pos b with h | h
  ·rw [h, Nat.mul_zero] at hX; omega
  ·exact h
 unfold gs
 by_cases c : wn b 5 ≤ X / big
 ·rw [if_pos c]
  have : X / b < 18446744073709551616 := by rw [Nat.div_lt_iff_lt_mul hb0]; exact hX
  omega
 ·rw [if_neg c]
  obtain ⟨j, hj⟩ : ∃ j, j = 5 := ⟨5, rfl⟩
  have hbj := big_j j hj
  rw [← hj] at c ⊢
  have e1 : wn b j = b / 2 ^ (64 * j) := by
   have := wd_last b j (by rw [← hbj]; exact hb)
   rw [wd_wn] at this; omega
  have e2 : X / big * 18446744073709551616 + wn (X % big) j = X / 2 ^ (64 * j) := by
   have h1 : wn (X % big) j = X % big / 2 ^ (64 * j) := by
    have := wd_last (X % big) j (by rw [← hbj]; exact Nat.mod_lt _ big_pos2)
    rw [wd_wn] at this; omega
   rw [h1]
   have h2 := Nat.div_add_mod X big
   generalize X % big = m at h2 ⊢
   generalize X / big = k at h2 ⊢
   rw [← h2, hbj, pow_step, Nat.mul_assoc, Nat.mul_add_div (pow_pos' j), Nat.mul_comm k]
  rw [e2, e1]
  have hq : 0 < b / 2 ^ (64 * j) := by rw [← e1]; omega
  rw [Nat.le_div_iff_mul_le hq, Nat.le_div_iff_mul_le (pow_pos' j)]
  have h3 : b / 2 ^ (64 * j) * 2 ^ (64 * j) ≤ b := Nat.div_mul_le_self _ _
  have h4 : X / b * b ≤ X := Nat.div_mul_le_self _ _
  rw [Nat.mul_assoc]
  exact Nat.le_trans (Nat.mul_le_mul (Nat.le_refl _) h3) h4
theorem take_z (X b t : Nat) (ht : X / b ≤ t) : zst (X % b) b (t - X / b) / (big : Int) = ((X / big : Nat) : Int) - ((tkT (X % big) t b : Nat) : Int) ∧ zl (X % b) b (t - X / b) = (X % big + big - t * b % big) % big := by
 have h1 : zst (X % b) b (t - X / b) = (X : Int) - (t : Int) * (b : Int) := by
  unfold zst
  have e := Nat.div_add_mod X b
  have e2 : ((t - X / b : Nat) : Int) = (t : Int) - ((X / b : Nat) : Int) := by omega
  rw [e2, Int.sub_mul]
  have e3 : ((X / b : Nat) : Int) * (b : Int) = ((b * (X / b) : Nat) : Int) := by rw [Int.natCast_mul, Int.mul_comm]
  rw [e3]; omega
 have e4 := Nat.div_add_mod X big
 have e5 := Nat.div_add_mod (t * b) big
 have l1 := Nat.mod_lt X big_pos2
 have l2 := Nat.mod_lt (t * b) big_pos2
 have hzl := zl_cast (X % b) b (t - X / b)
 rw [← Int.natCast_mul] at h1
 unfold tkT
 generalize X % big = m at *
 generalize t * b % big = u at *
 generalize hP : t * b = P at *
 by_cases hc : m < u
 ·rw [if_pos hc]
  obtain ⟨u1, u2⟩ := unq (u := zst (X % b) b (t - X / b)) (k := ((X / big : Nat) : Int) - ((P / big + 1 : Nat) : Int)) (m := (m : Int) + big - u) bigI (by
   rw [h1, Int.mul_sub, ← Int.natCast_mul, ← Int.natCast_mul, Nat.mul_add, Nat.mul_one]; omega) (by omega) (by omega)
  refine ⟨u1, ?_⟩
  rw [u2] at hzl
  rw [Nat.mod_eq_of_lt (show m + big - u < big by omega)]; omega
 ·rw [if_neg hc]
  obtain ⟨u1, u2⟩ := unq (u := zst (X % b) b (t - X / b)) (k := ((X / big : Nat) : Int) - ((P / big + 0 : Nat) : Int)) (m := (m : Int) - u) bigI (by
   rw [h1, Int.mul_sub, ← Int.natCast_mul, ← Int.natCast_mul, Nat.add_zero]; omega) (by omega) (by omega)
  refine ⟨u1, ?_⟩
  rw [u2] at hzl
  rw [Nat.mod_eq_sub_mod (show big ≤ m + big - u by omega), Nat.mod_eq_of_lt (show m + big - u - big < big by omega)]; omega
theorem stepL_any (g b L i : Nat) (hi : i ≤ 64) (hb : b < big) (hL : L < b) (w : World) (hm : Mm w [(g, lec b (wd L))]) :
  Calls Tryz.prog 120 #[PT g 0, .int .i64 ((i : Nat) : Int)] w fun e w' => e = .returned (.tuple #[]) ∧ Mm w' [(g, lec b (wd (L * 2 ^ i % b)))] ∧ Kp g w w' := by
 have hLb : L < big := by omega
 have hb0 : 0 < b := by omega
 have hX : L * 2 ^ i < 18446744073709551616 * b := by
  have h1 : 2 ^ i ≤ 18446744073709551616 := by
   have := Nat.pow_le_pow_right (show 0 < 2 by decide) hi
   exact this
  have h2 : L * 2 ^ i ≤ L * 18446744073709551616 := Nat.mul_le_mul (Nat.le_refl _) h1
  omega
 have cs := fun w hm => shiftL_any g b L i hi hLb w hm
 generalize L * 2 ^ i = X at cs hX ⊢
 have hge := guess_ge X b hb hX
 have hlt := gs_bd (X / big) (wn (X % big) 5) (wn b 5) (wn_lt _ _)
 have cg := fun w => guessM_any (X / big) (wn (X % big) 5) (wn b 5) (wn_lt _ _) (wn_lt _ _) w
 generalize gs (X / big) (wn (X % big) 5) (wn b 5) = t at hge hlt cg
 have ct := fun w hm => takeL_any g b (X % big) t (Nat.mod_lt _ big_pos2) hb hlt w hm
 obtain ⟨z1, z2⟩ := take_z X b t hge
 have hr := Nat.mod_lt X hb0
 rw [← z2] at ct
 have h := step_gen g b L (X % big) (X / big) t (tkT (X % big) t b) (t - X / b) ((i : Nat) : Int) (zl (X % b) b) (za (X % b) b) (fun x => decide (big ≤ zl (X % b) b (x + 1) + b))
  (za_zero _ _ (by omega)) (fun x hx => za_ne _ _ _ hr hb (by have := Nat.sub_le t (X / b); omega) (by omega)) (by rw [IntKind.wrap_u64, ← z1]; rfl)
  (fun x hx => by
   have hz := (z_step (X % b) b x hb).1
   rw [if_pos (of_decide_eq_true hx)] at hz
   unfold za
   rw [IntKind.wrap_u64, ← hz]; omega)
  (fun x hx => by
   have hz := (z_step (X % b) b x hb).1
   rw [if_neg (of_decide_eq_false hx)] at hz
   unfold za
   rw [hz])
  cs cg ct (fun x w => by
   have h := add_any (zl (X % b) b (x + 1)) b (zl_lt _ _ _) hb w
   rw [(z_step (X % b) b x hb).2] at h
   exact h) w hm
 rw [zl_zero _ _ (by omega)] at h
 exact h
theorem doubleL_any (g b L n : Nat) (hn : n ≤ 384) (hb : b < big) (hL : L < b) (w : World) (hm : Mm w [(g, lec b (wd L))]) :
  Calls Tryz.prog 93 #[PT g 0, .int .i64 ((n : Nat) : Int)] w fun e w' => e = .returned (.tuple #[]) ∧ Mm w' [(g, lec b (wd (L * 2 ^ n % b)))] ∧ Kp g w w' := by
 obtain ⟨K, j, hK, hj, hKj, e⟩ : ∃ K j, K < 1000 ∧ j ≤ 64 ∧ (0 < K → 0 < j) ∧ n = 64 * (K - 0) + j := by
  by_cases h0 : n = 0
  ·exact ⟨0, 0, by omega, by omega, by omega, by omega⟩
  ·exact ⟨(n - 1) / 64, n - 64 * ((n - 1) / 64), by omega, by omega, by omega, by omega⟩
 have hb0 : 0 < b := by omega
 have ef : ∀ k m, L * 2 ^ (64 * k) % b * 2 ^ m % b = L * 2 ^ (64 * k + m) % b := fun k m => by
  rw [Nat.mul_mod, Nat.mod_mod, ← Nat.mul_mod, Nat.mul_assoc, ← Nat.pow_add]
 have cf : ∀ k w, Mm w [(g, lec b (wd (L * 2 ^ (64 * k) % b)))] → Calls Tryz.prog 120 #[PT g 0, .int .i64 64] w fun e w' => e = .returned (.tuple #[]) ∧ Mm w' [(g, lec b (wd (L * 2 ^ (64 * (k + 1)) % b)))] ∧ Kp g w w' := fun k w hm => by
  have h := stepL_any g b (L * 2 ^ (64 * k) % b) 64 (Nat.le_refl _) hb (Nat.mod_lt _ hb0) w hm
  rw [ef k 64, show 64 * k + 64 = 64 * (k + 1) by omega] at h
  exact h
 have cl : ∀ w, Mm w [(g, lec b (wd (L * 2 ^ (64 * K) % b)))] → Calls Tryz.prog 120 #[PT g 0, .int .i64 ((64 * (K - K) + j : Nat) : Int)] w fun e w' => e = .returned (.tuple #[]) ∧ Mm w' [(g, lec b (wd (L * 2 ^ n % b)))] ∧ Kp g w w' := fun w hm => by
  have h := stepL_any g b (L * 2 ^ (64 * K) % b) j hj hb (Nat.mod_lt _ hb0) w hm
  rw [ef K j, show 64 * K + j = n by omega] at h
  rw [show 64 * (K - K) + j = j by omega]
  exact h
 have h0 : L * 2 ^ (64 * 0) % b = L := by rw [Nat.mul_zero, Nat.pow_zero, Nat.mul_one, Nat.mod_eq_of_lt hL]
 have h := double_gen g b (L * 2 ^ n % b) K j (fun k => L * 2 ^ (64 * k) % b) hK hj hKj cf cl w (by rw [h0]; exact hm)
 rw [← e] at h
 exact h
end Rg
end Go.Proofs.YtahgdighnlekdaaGreatDoor
end
section
namespace Go.Proofs.YtahgdighnlekdaaGreatDoor
open Go.RowKit
namespace Rg
section
variable {P : Program} {ops : Array Oper} {ks : List Kind} {a₀ : Act} {w₀ : World} {Q : Exit → Act → World → Prop}
/-- An operation that the store need not wait for: it tells its value behind it. -/
def LateAt (P : Program) (ops : Array Oper) (ks : List Kind) (a : Act) (w : World) : List Nat → Prop
 | [] => True
 | i :: r => (∃ o v, ops[i]? = some o ∧ ks[i]? = some (.q v) ∧ Region.wanted o (yielded ops a.tmps) = true ∧ (execOp a.eval o).run P w = .ok (.value v) w) ∧ LateAt P ops ks a w r
theorem LateAt.at {a : Act} {w : World} : ∀ {late : List Nat}, LateAt P ops ks a w late → ∀ {i : Nat}, i ∈ late → ∃ o v, ops[i]? = some o ∧ ks[i]? = some (.q v) ∧ Region.wanted o (yielded ops a.tmps) = true ∧ (execOp a.eval o).run P w = .ok (.value v) w
 | [], _, _, h => by cases h
 | j :: r, hl, i, h => by
  rcases List.mem_cons.1 h with e | h
  ·subst e; exact hl.1
  ·exact hl.2.at h
def isQuiet : Option Kind → Bool
 | some ((Sum.inl _)) => true
 | _ => false
theorem isQuiet_spec {k : Option Kind} (h : isQuiet k = true) : ∃ v, k = some (.q v) := by
 cases k with
 | none => cases h
 | some k => cases k using Kind.each <;> first | exact ⟨_, rfl⟩ | cases h
theorem mem_late2 {J : Nat → Nat} {w : World} : ∀ {late : List Nat} {l : Array Bool}, (late.all fun i => isQuiet ks[i]?) = true → Mem ks w₀ l J w → ∃ l', Mem ks w₀ l' J w ∧ l'.size = l.size ∧ (∀ i, l.getD i false = true → l'.getD i false = true) ∧ ∀ i ∈ late, i < l.size → l'.getD i false = true
 | [], l, _, h => ⟨l, h, rfl, fun _ h => h, fun _ h => by cases h⟩
 | j :: r, l, hl, h => by
  simp only [List.all_cons, Bool.and_eq_true] at hl
  obtain ⟨v, hk⟩ := isQuiet_spec hl.1
  obtain ⟨l', h1, h2, h3, h4⟩ := mem_late2 (late := r) hl.2 (h.still (Below.refl _ _) hk rfl (fun _ _ _ h => by cases h))
  refine ⟨l', h1, by rw [h2]; simp, fun i hi => h3 i (getD_true hi), fun i hi hlt => ?_⟩
  rcases List.mem_cons.1 hi with e | hi
  ·subst e
   exact h3 i (by simp [hlt])
  ·exact h4 i hi (by simpa using hlt)
theorem after_put2 {full : Array Oper} {n p : Nat} (hO : Orderly ops ks n) (hn : n = a₀.tmps.size) (hp : ops.size = p) (hpf : p + 1 ≤ full.size) (hfull : ∀ i, i < p → full[i]? = ops[i]?) (hgd : ∀ {i : Nat} {o : Oper} {g : Nat} {b : Bool}, ops[i]? = some o → o.guard = some (g, b) → g < p)
  (hup : ∀ {i : Nat} {o : Oper}, full[i]? = some o → ∀ e ∈ o.after, Region.binds .any e = true → e.on < i)
  (hwt : ∀ {i : Nat} {o : Oper}, full[i]? = some o → p + 1 ≤ i → ∀ j, j < i → waitsT full 4 o j = true)
  {late : List Nat} {J : Nat → Nat} {w : World} (hlate : LateAt P ops ks (fill J 0 ops.toList ks a₀) w late) (hQ : wpOps P full Q (List.range' (p + 1) (full.size - (p + 1))) (fill J 0 ops.toList ks a₀) w) :
  ∀ (fuel : Nat) (l : Array Bool) (a : Act), l.size = full.size → l.toList.count false ≤ fuel → Closed full l → (∀ i, i ≤ p → l.getD i true = false → i ∈ late) → (∀ i, p + 1 ≤ i → i < full.size → l.getD i true = false) → Agree ops ks a₀ l J a → wpAny P .any full Q fuel l a w := by
 intro fuel
 induction fuel with
 | zero =>
  intro l a hsz hc hcl hu ht hA
  have hall : ∀ i, i < full.size → l.getD i false = true := fun i hi => by
   cases hb : l.getD i true with
   | false => have := count_set hb; omega
   | true =>
    have hi' : i < l.size := by omega
    simpa [hi'] using hb
  rw [hA.whole (fun i hi => hall i (by omega))]
  have h0 := tail_count full.size (full.size - (p + 1)) l hsz (by omega) (fun i hi1 hi2 => ht i (by omega) hi2)
  exact rest_anyT (p + 1) hup hwt (full.size - (p + 1)) 0 (p + 1) l _ w (by omega) (Nat.le_refl _) hsz (by omega) hcl (fun i hi => hall i (by omega)) ht hQ
 | succ fuel ih =>
  intro l a hsz hc hcl hu ht hA
  by_cases hall : ∀ i, i < p + 1 → l.getD i false = true
  ·rw [hA.whole (fun i hi => hall i (by omega))]
   have h0 := tail_count full.size (full.size - (p + 1)) l hsz (by omega) (fun i hi1 hi2 => ht i (by omega) hi2)
   exact rest_anyT (p + 1) hup hwt (full.size - (p + 1)) (fuel + 1) (p + 1) l _ w (by omega) (Nat.le_refl _) hsz (by omega) hcl hall ht hQ
  ·have hex : ∃ x, x < p + 1 ∧ l.getD x false = false := by
    apply Classical.byContradiction
    intro hno
    apply hall
    intro i hi
    cases hb : l.getD i false with
    | true => rfl
    | false => exact absurd ⟨i, hi, hb⟩ hno
   obtain ⟨x, hx, hxf⟩ := hex
   refine ⟨fun hr => ?_, fun i hi => ?_⟩
   ·have := ready_all hup hsz hr x (by omega)
    rw [hxf] at this
    cases this
   ·obtain ⟨hun, o, ho, hedge⟩ := mem_ready.1 hi
    have hilt : i < full.size := (Array.getElem?_eq_some_iff.1 ho).1
    have hip1 : i < p + 1 := by
     rcases Nat.lt_or_ge i (p + 1) with h' | h'
     ·exact h'
     ·have := waitsT_spec hcl 4 o (hwt ho h' x (by omega)) hedge
      rw [hxf] at this
      cases this
    obtain ⟨o', v, ho', hk, hxq⟩ := hlate.at (hu i (by omega) hun)
    have hip : i < p := by rw [← hp]; exact (Array.getElem?_eq_some_iff.1 ho').1
    have hof := ho
    rw [hfull i hip, ho'] at ho
    injection ho with ho
    subst ho
    obtain ⟨he, hw0⟩ := hA.sees hO ho' hedge
    have hy : ∀ ts, Region.wanted o' (yielded full ts) = Region.wanted o' (yielded ops ts) := fun ts => by
     unfold Region.wanted
     cases hg : o'.guard with
     | none => rfl
     | some gw =>
      obtain ⟨g, want⟩ := gw
      have : yielded full ts g = yielded ops ts g := by unfold yielded; rw [hfull g (hgd ho' hg)]
      simp only [this]
    have hc' := count_set hun
    refine wpOp_step hof (fun K' hK => ?_)
    rw [hy, hw0, if_pos hxq.1]
    unfold Oper.wp
    rw [he, hxq.2]
    refine hK _ _ (ih _ _ (by simp [hsz]) (by omega) (hcl.step hof hedge) (fun j hj hj2 => ?_) (fun j hj hj2 => ?_) (hA.step hO hn ho' hk (fun _ _ _ _ => rfl)))
    ·by_cases e : i = j
     ·subst e
      have hi' : i < l.size := by omega
      simp [hi'] at hj2
     ·rw [getD_set_ne true e] at hj2
      exact hu j hj hj2
    ·rw [getD_set_ne true (by omega)]
     exact ht j hj hj2
theorem first_put2 {full : Array Oper} {n p : Nat} {op : Oper} (hO : Orderly ops ks n) (hn : n = a₀.tmps.size) (hL : LaidOk ks ks) {S : World → Prop} (hS : ∀ w, Below w₀.heap.size w₀ w → S w)
  (hp : ops.size = p) (hpf : p + 1 ≤ full.size) (hfull : ∀ i, i < p → full[i]? = ops[i]?) (hgd : ∀ {i : Nat} {o : Oper} {g : Nat} {b : Bool}, ops[i]? = some o → o.guard = some (g, b) → g < p)
  (hup : ∀ {i : Nat} {o : Oper}, full[i]? = some o → ∀ e ∈ o.after, Region.binds .any e = true → e.on < i)
  (hop : full[p]? = some op) (hdst : op.dst = none) (hgu : op.guard = none) (hsel : ∀ cs b, op.op ≠ .select cs b)
  {late : List Nat} (hwp : ∀ j, j < p → waitsT full 4 op j = true ∨ j ∈ late) (hlook : ∀ d ∈ op.looksAt full, ∀ j oj, ops[j]? = some oj → oj.dst = some d → waitsT full 4 op j = true)
  (hwt : ∀ {i : Nat} {o : Oper}, full[i]? = some o → p + 1 ≤ i → ∀ j, j < i → waitsT full 4 o j = true)
  (hlate : (late.all fun i => isQuiet ks[i]?) = true)
  (hops : AllOk P ops S (fun J => fill J 0 ops.toList ks a₀) ops.toList ks)
  (hend : ∀ J w l, Mem ks w₀ l J w → (∀ i, i < p → l.getD i false = true) → ∃ w', (execOp (fill J 0 ops.toList ks a₀).eval op).run P w = .ok .skip w' ∧ LateAt P ops ks (fill J 0 ops.toList ks a₀) w' late ∧ wpOps P full Q (List.range' (p + 1) (full.size - (p + 1))) (fill J 0 ops.toList ks a₀) w') :
  ∀ (fuel : Nat) (l : Array Bool) (J : Nat → Nat) (a : Act) (w : World), l.size = full.size → l.toList.count false ≤ fuel → Closed full l → (∀ i, p ≤ i → i < full.size → l.getD i true = false) → Agree ops ks a₀ l J a → Mem ks w₀ l J w → wpAny P .any full Q fuel l a w := by
 intro fuel
 induction fuel with
 | zero =>
  intro l J a w hsz hc hcl ht hA hM
  have := count_set (ht p (Nat.le_refl _) (by omega))
  omega
 | succ fuel ih =>
  intro l J a w hsz hc hcl ht hA hM
  have hpu := ht p (Nat.le_refl _) (by omega)
  refine ⟨fun hr => ?_, fun i hi => ?_⟩
  ·have := ready_all hup hsz hr p (by omega)
   rw [(getD_same hpu).1] at this
   cases this
  ·obtain ⟨hun, o, ho, hedge⟩ := mem_ready.1 hi
   have hilt : i < full.size := (Array.getElem?_eq_some_iff.1 ho).1
   have hc' := count_set hun
   have hip1 : i < p + 1 := by
    rcases Nat.lt_or_ge i (p + 1) with h' | h'
    ·exact h'
    ·have := waitsT_spec hcl 4 o (hwt ho h' p (by omega)) hedge
     rw [(getD_same hpu).1] at this
     cases this
   by_cases hip : i = p
   ·subst hip
    have ho2 := ho
    rw [hop] at ho
    injection ho with ho
    subst ho
    have hbefore : ∀ j, j < i → j ∉ late → l.getD j false = true := fun j hj hnl => by
     rcases hwp j hj with h | h
     ·exact waitsT_spec hcl 4 _ h hedge
     ·exact absurd h hnl
    obtain ⟨l', hM', hs', hl1, hl2⟩ := mem_late2 hlate hM
    have hfin : ∀ j, j < i → l'.getD j false = true := fun j hj => by
     by_cases h : j ∈ late
     ·exact hl2 j h (by omega)
     ·exact hl1 j (hbefore j hj h)
    obtain ⟨w', hx, hla, hQ⟩ := hend J w l' hM' hfin
    have he := see_all (full := full) hA hsel (fun d hd j oj hj hdj => waitsT_spec hcl 4 _ (hlook d hd j oj hj hdj) hedge)
    refine wpOp_step hop (fun K' hK => ?_)
    have hwn : Region.wanted op (yielded full a.tmps) = true := by unfold Region.wanted; rw [hgu]
    rw [if_pos hwn]
    unfold Oper.wp
    rw [he, hx]
    have hA' : Agree ops ks a₀ (l.setIfInBounds i true) J (a.put op.dst undef) := by
     rw [hdst]
     refine ⟨hA.defers, hA.size, fun d hd => hA.slots d (fun j oj hj hdj => ?_)⟩
     have h1 := hd j oj hj hdj
     have hj' : j < i := by rw [← hp]; exact (Array.getElem?_eq_some_iff.1 hj).1
     rwa [getD_set_ne false (by omega)] at h1
    refine hK _ _ (after_put2 hO hn hp hpf hfull hgd hup hwt hla hQ fuel _ _ (by simp [hsz]) (by omega) (hcl.step ho2 hedge) (fun j hj hj2 => ?_) (fun j hj hj2 => ?_) hA')
    ·by_cases e : i = j
     ·subst e
      have hi' : i < l.size := by omega
      simp [hi'] at hj2
     ·rw [getD_set_ne true e] at hj2
      apply Classical.byContradiction
      intro hnl
      have := hbefore j (by omega) hnl
      rw [(getD_same hj2).1] at this
      cases this
    ·rw [getD_set_ne true (by omega)]
     exact ht j (by omega) hj2
   ·have hlt : i < p := by omega
    have ho' : ops[i]? = some o := by rw [← hfull i hlt]; exact ho
    refine kind_step hO hn hL hS hfull hgd hops hA hM hlt ho' hun hedge (fun J' a' w' hA' hM' => ?_)
    exact ih _ J' a' w' (by simp [hsz]) (by omega) (hcl.step ho hedge) (fun j hj hj2 => by rw [getD_set_ne true (by omega)]; exact ht j hj hj2) hA' hM'
/-- **The law of such a region.** -/
theorem walk_put2 {full : Array Oper} {a : Act} {w : World} {id : Nat} (hm : P.follows .mixedOrders = true) (p : Nat) (late : List Nat) (ks : List Kind) (S : World → Prop) (pre : List Oper) (F : (Nat → Nat) → Act) (op : Oper) (hpre : full.toList.take p = pre)
  (hF : ∀ J, fill J 0 pre ks a = F J) (hor : (orderly pre.toArray ks a.tmps.size && guarded pre.toArray p && putly full p late) = true) (hop : full[p]? = some op) (hL : LaidOk ks ks) (hS : ∀ w', Below w.heap.size w w' → S w')
  (hops : AllOk P pre.toArray S F pre ks) (hlate : (late.all fun i => isQuiet ks[i]?) = true)
  (hend : ∀ J w' l, Mem ks w l J w' → (∀ i, i < p → l.getD i false = true) → ∃ w'', (execOp (F J).eval op).run P w' = .ok .skip w'' ∧ LateAt P pre.toArray ks (F J) w'' late ∧ wpOps P full Q (List.range' (p + 1) (full.size - (p + 1))) (F J) w'') :
  (Code.region id full true).wp P Q a w := by
 subst hpre
 obtain rfl : (fun J => fill J 0 (full.toList.take p) ks a) = F := funext hF
 simp only [Bool.and_eq_true] at hor
 obtain ⟨⟨h1, h2⟩, h3⟩ := hor
 unfold putly at h3
 rw [hop] at h3
 simp only [Bool.and_eq_true, decide_eq_true_eq, Option.isNone_iff_eq_none] at h3
 obtain ⟨⟨⟨⟨h5, h6⟩, h7⟩, ⟨⟨h8, h9⟩, h10⟩, h11⟩, h12⟩ := h3
 have hsz : (full.toList.take p).toArray.size = p := by simp; omega
 have hfu : ∀ i, i < p → full[i]? = (full.toList.take p).toArray[i]? := fun i hi => by rw [← take_arr]; exact first_full hi
 refine wp_region_any hm (first_put2 (ops := (full.toList.take p).toArray) (Orderly.of h1) rfl hL hS hsz h6 hfu (fun ho hg => guarded_spec h2 ho hg) (fun ho e he hb => ?_) hop h8 h9 (fun cs b => Region.noSelect_spec h7 p op cs b hop) (late := late) (fun j hj => ?_) (fun d hd j oj hj hdj => ?_) (fun ho hi j hj => ?_) hlate hops hend full.size _ (fun _ => 0) a w.drew (by simp) (by simp) (Closed.none _ _) (fun i _ hi => none_listed' hi) (start_agree _ _) (start_mem _ _ (Below.refl _ _).drew))
 ·have := Array.all_eq_true_iff_forall_mem.1 (zS h5 ho) e he
  simpa [hb] using this
 ·have := List.all_eq_true.1 h10 j (List.mem_range.2 hj)
  simpa using this
 ·have hj' : j < p := by rw [← hsz]; exact (Array.getElem?_eq_some_iff.1 hj).1
  have := zS (List.all_eq_true.1 h11 d hd) (by rw [hfu j hj']; exact hj)
  simp only [hdj, bne_self_eq_false, Bool.false_or, Bool.or_eq_true, decide_eq_true_eq] at this
  rcases this with h | h
  ·exact h
  ·omega
 ·have := zS h12 ho
  simp only [Bool.or_eq_true, decide_eq_true_eq] at this
  rcases this with h | h
  ·omega
  ·exact List.all_eq_true.1 h j (List.mem_range.2 hj)
end
end Rg
end Go.Proofs.YtahgdighnlekdaaGreatDoor
end
section
namespace Go.Proofs.YtahgdighnlekdaaGreatDoor
open Go.RowKit
namespace Rg
abbrev zero12 : List Value := [.int .u64 0, .int .u64 0, .int .u64 0, .int .u64 0, .int .u64 0, .int .u64 0, .int .u64 0, .int .u64 0, .int .u64 0, .int .u64 0, .int .u64 0, .int .u64 0]
abbrev lev (b L : Nat) : Value := .agg (lec b (wd L)).toArray
theorem ex_madeL {ρ : Operand → Value} {o : Oper} {w : World} (ho : o.op = .alloc 148) :
  (execOp ρ o).run Tryz.prog w = .ok (.value (.pointer (some ⟨w.heap.size, 0, none⟩))) (w.alloc (.cells zero12.toArray 148)) := by
 simp only [execOp, ho]
 go_simp
theorem ex_buildL {ρ : Operand → Value} {o : Oper} {x : Operand} {b z : Nat} {w : World} (hz : z = 0) (ho : o.op = .build 148 #[(0, x)]) (hx : ρ x = N b) : (execOp ρ o).run Tryz.prog w = .ok (.value (lev b z)) w := by
 subst hz
 simp only [execOp, ho]
 go_simp
 simp [wd_zero]
theorem ex_laidL {ρ : Operand → Value} {o : Oper} {x y : Operand} {g b L : Nat} {w : World} (hb : Blk w g zero12) (ho : o.op = .store 148 x y) (hx : ρ x = .pointer (some ⟨g, 0, none⟩)) (hy : ρ y = lev b L) :
  (execOp ρ o).run Tryz.prog w = .ok .skip (w.setCells g 0 (lec b (wd L))) := ex_laidT hb rfl rfl Tryz.sizeOf148 ho hx hy
set_option maxHeartbeats 2000000 in
theorem powersOf_gen (n l s B z L0 L1 L2 o q : Nat) (cB : Bool) (hz : z = 0) (hl : l ≤ 384) (hs : s = 384 - l)
  (cl : ∀ w, Calls Tryz.prog 55 #[N n] w (Rt w (.int .i64 ((l : Nat) : Int))))
  (cb : ∀ w, Calls Tryz.prog 62 #[N n, .int .i64 ((s : Nat) : Int)] w (Rt w (N B)))
  (cs : ∀ w, Calls Tryz.prog 58 #[N 0, N B] w (Rt w (.tuple #[N L0, .bool cB])))
  (d1 : ∀ g w, Mm w [(g, lec B (wd L0))] → Calls Tryz.prog 93 #[PT g 0, .int .i64 ((s : Nat) : Int)] w fun e w' => e = .returned (.tuple #[]) ∧ Mm w' [(g, lec B (wd L1))] ∧ Kp g w w')
  (co : ∀ w, Calls Tryz.prog 62 #[N L1, .int .i64 (-((s : Nat) : Int))] w (Rt w (N o)))
  (d2 : ∀ g w, Mm w [(g, lec B (wd L1))] → Calls Tryz.prog 93 #[PT g 0, .int .i64 384] w fun e w' => e = .returned (.tuple #[]) ∧ Mm w' [(g, lec B (wd L2))] ∧ Kp g w w')
  (cq : ∀ w, Calls Tryz.prog 62 #[N L2, .int .i64 (-((s : Nat) : Int))] w (Rt w (N q))) (w : World) :
  Calls Tryz.prog 57 #[N n] w (Rt w (.tuple #[N o, N q])) := by
 have H0 : Hid (_ ∧ _) := ⟨Mm.nil w, Below.refl w.heap.size w⟩
 have CL : Hid _ := cl
 have CB : Hid _ := cb
 have CS : Hid _ := cs
 have CD1 : Hid _ := d1
 have CO : Hid _ := co
 have CD2 : Hid _ := d2
 have CQ : Hid _ := cq
 have HZ : Hid _ := hz
 clear cl cb cs d1 co d2 cq hz
 go_enter Tryz.func57, Tryz.ntmps57
 refine wp_seq ?_
 refine zD 3 [.made (zC n) 24, .made zero6 24, .made zero6 24] (sB H0) ?ho1 ?he1
 case ho1 => exact am (ex_box6 rfl rfl) (am (zH rfl) (am (zH rfl) trivial))
 intro J w1 l hM hl
 have H1 : Hid (Mm w1 [(J 0, zC n), (J 1, zero6), (J 2, zero6)] ∧ _) := wB H0 hM hl [0, 1, 2]
 have o1_0 := vB H0 hM hl 0
 have o1_1 := vB H0 hM hl 1
 have o1_2 := vB H0 hM hl 2
 clear hM hl l
 generalize J 0 = J1_0 at H1 o1_0 ⊢
 generalize J 1 = J1_1 at H1 o1_1 ⊢
 generalize J 2 = J1_2 at H1 o1_2 ⊢
 clear J
 refine rN (wp_seq ?_)
 refine zB 4 [.q (N n), .call (.int .i64 ((l : Nat) : Int)), .q (.int .i64 ((s : Nat) : Int)), .q (.int .i64 ((s : Nat) : Int))] H1 ?ho2 ?he2
 case ho2 => exact bN 0 (ac (fun w' h => eC call55 (CL.out w')) (ak (by refine fun J => ⟨rfl, fun w' h => ?_⟩; clear h; go_simp; rw [IntKind.wrap_i64]; omega) (ar trivial)))
 intro _ w2 H2
 clear H1
 refine rN (wp_seq ?_)
 refine zD 6 [.q (N n), .q (.int .i64 ((s : Nat) : Int)), .call (N B), .q (lev B z), .made zero12 148, .laid 4 zero12 (lec B (wd z))] (sB H2) ?ho3 ?he3 (hL := ?hL3)
 case hL3 => exact ⟨⟨_, rfl⟩, trivial⟩
 case ho3 => exact bN 0 (ar (ac (fun w' h => eC call62 (CB.out w')) (ak (fun J => ⟨rfl, fun w' _ => ex_buildL HZ.out rfl rfl⟩) (am (ex_madeL rfl) (ak (fun J => ⟨rfl, rfl, rfl, fun w' h => ex_laidL h rfl rfl rfl⟩) trivial)))))
 intro J w3 l hM hl
 have H3 : Hid (Mm w3 ([(J 4, lec B (wd z))] ++ _) ∧ _) := wB H2 hM hl [4]
 have o3_4 := vB H2 hM hl 4
 clear hM hl l H2
 generalize J 4 = J3_4 at H3 o3_4 ⊢
 clear J
 refine rN (wp_seq ?_)
 refine zB 8 [.q (N 0), .q (PT J3_4 0), .q (N B), .call (.tuple #[N L0, .bool cB]), .q (.tuple #[N L0, .bool cB]), .q (N L0), .q (.bool cB), .q (PT J3_4 6)] H3 ?ho4 ?he4
 case ho4 => exact ak (by refine fun J => ⟨rfl, fun w' h => ?_⟩; clear h; exact ex_zero6 rfl) (ag (bN 0 (ac (fun w' h => eC call58 (CS.out w')) (ar (ag (ag (ag trivial)))))))
 intro _ w4 H4
 clear H3
 refine zF (l := [8]) rfl ?_
 refine sG rfl (fun h => zM h 0 rfl rfl rfl rfl (Nat.le_of_ble_eq_true rfl)) 0 [(_, lec B (wd L0)), _, _, _] H4 o3_4 fun w5 H5 => ?_
 clear H4
 refine zE (zA (wp_seq ?_))
 refine zB 1 [.q (.int .i64 ((s : Nat) : Int))] H5 ?ho5 ?he5
 case ho5 => exact ar trivial
 intro _ w6 H6
 clear H5
 refine zF (l := [1]) rfl ?_
 refine rest_enter (d := 22) (R := fun vv w' => vv = .tuple #[] ∧ Mm w' [(J3_4, lec B (wd L1))] ∧ Kp J3_4 w6 w') rfl rfl rfl (exec_call (args := #[PT J3_4 0, .int .i64 ((s : Nat) : Int)]) rfl call93 rfl (mpn rfl)) (Calls.mono (CD1.out J3_4 w6 (H6.out.1.one 0 rfl)) (fun e w2 hh => ⟨_, hh.1, rfl, hh.2⟩)) ?_
 rintro _ w7 ⟨rfl, hn, hp⟩
 have H7 : Hid (Mm w7 [(J3_4, lec B (wd L1)), (J1_0, zC n), (J1_1, zero6), (J1_2, zero6)] ∧ Below w.heap.size w w7) := ⟨H6.out.1.change 0 rfl hp hn, Below.kp H6.out.2 hp o3_4.out H6.out.2.size⟩
 clear hn hp H6
 simp only [Act.put, sa, sz, ss]
 refine zE (zA (wp_seq ?_))
 refine zB 5 [.q (PT J3_4 6), .q (N L1), .q (.int .i64 ((s : Nat) : Int)), .q (.int .i64 (-((s : Nat) : Int))), .call (N o)] H7 ?ho6 ?he6
 case ho6 => exact ag (bN 0 (ar (ak (by refine fun J => ⟨rfl, fun w' h => ?_⟩; clear h; go_simp; rw [IntKind.wrap_i64]; omega) (ac (fun w' h => eC call62 (CO.out w')) trivial))))
 intro _ w8 H8
 clear H7
 refine zF (l := [5]) rfl ?_
 refine sG rfl (fun h => zM h 2 rfl rfl rfl rfl (Nat.le_of_ble_eq_true rfl)) 2 [_, _, (_, zC o), _] H8 o1_1 fun w9 H9 => ?_
 clear H8
 refine zE (zA (wp_seq ?_))
 refine zB 0 [] H9 ?ho7 ?he7
 case ho7 => exact trivial
 intro _ w10 H10
 clear H9
 refine zF (l := [0]) rfl ?_
 refine rest_enter (d := 28) (R := fun vv w' => vv = .tuple #[] ∧ Mm w' [(J3_4, lec B (wd L2))] ∧ Kp J3_4 w10 w') rfl rfl rfl (exec_call (args := #[PT J3_4 0, .int .i64 384]) rfl call93 rfl (mpn rfl)) (Calls.mono (CD2.out J3_4 w10 (H10.out.1.one 0 rfl)) (fun e w2 hh => ⟨_, hh.1, rfl, hh.2⟩)) ?_
 rintro _ w11 ⟨rfl, hn, hp⟩
 have H11 : Hid (Mm w11 [(J3_4, lec B (wd L2)), (J1_0, zC n), (J1_1, zC o), (J1_2, zero6)] ∧ Below w.heap.size w w11) := ⟨H10.out.1.change 0 rfl hp hn, Below.kp H10.out.2 hp o3_4.out H10.out.2.size⟩
 clear hn hp H10
 simp only [Act.put, sa, sz, ss]
 refine zE (zA (wp_seq ?_))
 refine zB 5 [.q (PT J3_4 6), .q (N L2), .q (.int .i64 ((s : Nat) : Int)), .q (.int .i64 (-((s : Nat) : Int))), .call (N q)] H11 ?ho8 ?he8
 case ho8 => exact ag (bN 0 (ar (ak (by refine fun J => ⟨rfl, fun w' h => ?_⟩; clear h; go_simp; rw [IntKind.wrap_i64]; omega) (ac (fun w' h => eC call62 (CQ.out w')) trivial))))
 intro _ w12 H12
 clear H11
 refine zF (l := [5]) rfl ?_
 refine sG rfl (fun h => zM h 3 rfl rfl rfl rfl (Nat.le_of_ble_eq_true rfl)) 3 [_, _, _, (_, zC q)] H12 o1_2 fun w13 H13 => ?_
 clear H12
 refine zE (zA (wp_seq ?_))
 refine walk_put2 (by kernel_rfl) 2 [1] [.q (N o), .q (N q)] _ ?pre9 ?F9 _ ?hpre9 (fun J => ?hF9) (by kernel_rfl) rfl trivial (sB H13) ?ho9 ?hla9 ?he9
 case hpre9 => simp only [tk, tz]; rfl
 case hF9 => simp only [fill, Kind.val, Act.put, sa, sz, ss]; rfl
 case ho9 =>
  refine bN 2 ?_
  refine bN 3 ?_
  exact trivial
 case hla9 => exact rfl
 intro J w14 l hM hl
 have H14 := keepB H13 hM.below
 clear hM hl l H13 J
 have H15 : Hid (Mm (w14.setCells J1_1 0 (zC o)) [(J3_4, lec B (wd L2)), (J1_0, zC n), (J1_1, zC o), (J1_2, zC q)] ∧ Below w.heap.size w (w14.setCells J1_1 0 (zC o))) := ⟨H14.out.1.put 2 (off := 0) (vs := zC o) rfl (Nat.le_of_ble_eq_true rfl), below_setCells _ o1_1.out _ _ _ H14.out.2⟩
 refine ⟨_, zM H14.out.1 2 rfl rfl rfl rfl (Nat.le_of_ble_eq_true rfl), ⟨⟨_, _, rfl, rfl, rfl, zU H15.out.1 3 rfl rfl rfl rfl⟩, trivial⟩, ?_⟩
 clear H14
 generalize hgw : World.setCells _ _ _ _ = w15 at H15 ⊢
 clear hgw
 refine zF (l := [3]) rfl ?_
 refine sG rfl (fun h => zM h 3 rfl rfl rfl rfl (Nat.le_of_ble_eq_true rfl)) 3 [_, _, _, (_, zC q)] H15 o1_2 fun w16 H16 => ?_
 clear H15
 refine zE (zA (wp_ret ?_))
 repeat (first | refine zJ ?_ | refine zI ?_)
 have c0 := H16.out.1.get 2 rfl 0 rfl
 have c1 := H16.out.1.get 2 rfl 1 rfl
 have c2 := H16.out.1.get 2 rfl 2 rfl
 have c3 := H16.out.1.get 2 rfl 3 rfl
 have c4 := H16.out.1.get 2 rfl 4 rfl
 have c5 := H16.out.1.get 2 rfl 5 rfl
 have c1_0 := H16.out.1.get 3 rfl 0 rfl
 have c1_1 := H16.out.1.get 3 rfl 1 rfl
 have c1_2 := H16.out.1.get 3 rfl 2 rfl
 have c1_3 := H16.out.1.get 3 rfl 3 rfl
 have c1_4 := H16.out.1.get 3 rfl 4 rfl
 have c1_5 := H16.out.1.get 3 rfl 5 rfl
 refine bodyPost_ret (v := .tuple #[N o, N q]) (by simp [results, Tryz.results57, go_sem, *]) rfl ?_
 exact ⟨rfl, H16.out.2⟩
theorem lead_facts {n : Nat} (ok : Ok n) : ∃ l s, l = bl n ∧ l ≤ 384 ∧ s = 384 - l ∧ s < 384 ∧ n * 2 ^ s < big ∧ big < n * 2 ^ s + n * 2 ^ s := by
 have h0 : n ≠ 0 := by have := ok.three; omega
 have h1 := bl_lt n
 have h2 := bl_le n h0
 have h3 := bl_pos n h0
 have h4 := len_ok ok
 have hl : bl n ≤ 382 := by omega
 refine ⟨bl n, 384 - bl n, rfl, by omega, rfl, by omega, ?_, ?_⟩
 ·obtain ⟨m, hm, e⟩ := big_pow
  have hs : 64 * m = bl n + (384 - bl n) := by omega
  rw [e, hs, Nat.pow_add]
  exact Nat.mul_lt_mul_of_pos_right h1 (Nat.two_pow_pos _)
 ·obtain ⟨m, hm, e⟩ := big_pow
  have hs : 64 * m = (bl n - 1) + 1 + (384 - bl n) := by omega
  have hne : 2 ^ (bl n - 1) ≠ n := by
   intro h
   rcases Nat.lt_or_ge (bl n - 1) 1 with g | g
   ·have : bl n - 1 = 0 := by omega
    rw [this, Nat.pow_zero] at h
    have := ok.three; omega
   ·obtain ⟨k, hk⟩ : ∃ k, bl n - 1 = k + 1 := ⟨bl n - 1 - 1, by omega⟩
    rw [hk, Nat.pow_succ] at h
    have := ok.odd; omega
  have hlt : 2 ^ (bl n - 1) < n := by omega
  have h5 := Nat.mul_lt_mul_of_pos_right hlt (Nat.two_pow_pos (384 - bl n))
  rw [e, hs, Nat.pow_add, Nat.pow_succ, Nat.mul_right_comm]
  omega
theorem powersOf_any {n : Nat} (ok : Ok n) (w : World) : Calls Tryz.prog 57 #[N n] w (Rt w (.tuple #[N (big % n), N (big * big % n)])) := by
 obtain ⟨l, s, hl, hl2, hs, hs2, hB, hB2⟩ := lead_facts ok
 have cb := fun w => shift_up n s hs2 w
 rw [Nat.mod_eq_of_lt hB] at cb
 have hBp : 0 < n * 2 ^ s := by omega
 have cl := fun w => len_any n ok.big w
 rw [← hl] at cl
 obtain ⟨B, hBe⟩ : ∃ B, B = n * 2 ^ s := ⟨_, rfl⟩
 rw [← hBe] at cb hB hB2 hBp
 have cs := fun w => sub_any 0 B big_pos2 hB w
 rw [Nat.zero_add, Nat.mod_eq_of_lt (show big - B < big by omega)] at cs
 have hL0 : big - B < B := by omega
 have hmod : big % B = big - B := by
  rw [Nat.mod_eq_sub_mod (by omega), Nat.mod_eq_of_lt hL0]
 have d1 := fun g w hm => doubleL_any g B (big - B) s (by omega) hB hL0 w hm
 have e1 : (big - B) * 2 ^ s % B = big % n * 2 ^ s := by
  rw [← hmod, Nat.mul_mod, Nat.mod_mod, ← Nat.mul_mod, hBe, Nat.mul_mod_mul_right]
 rw [e1] at d1
 have hp := Nat.two_pow_pos s
 have hL1 : big % n * 2 ^ s < B := by
  rw [hBe]; exact Nat.mul_lt_mul_of_pos_right (Nat.mod_lt _ ok.pos) hp
 obtain ⟨k, hk⟩ : ∃ k : Nat, k = 384 := ⟨_, rfl⟩
 have d2 := fun g w hm => doubleL_any g B (big % n * 2 ^ s) k (by omega) hB hL1 w hm
 have e2 : big % n * 2 ^ s * 2 ^ k % B = big * big % n * 2 ^ s := by
  rw [pow_is k (by omega), Nat.mul_right_comm, hBe, Nat.mul_mod_mul_right, Nat.mul_mod, Nat.mod_mod, ← Nat.mul_mod]
 rw [e2] at d2
 have hL2 : big * big % n * 2 ^ s < B := by
  rw [hBe]; exact Nat.mul_lt_mul_of_pos_right (Nat.mod_lt _ ok.pos) hp
 have ek : ((k : Nat) : Int) = 384 := by omega
 rw [ek] at d2
 have co := fun w => shift_neg' (big % n * 2 ^ s) s (by omega) hs2 w
 have cq := fun w => shift_neg' (big * big % n * 2 ^ s) s (by omega) hs2 w
 rw [Nat.mul_div_cancel _ hp] at co cq
 exact powersOf_gen n l s B 0 (big - B) _ _ _ _ _ rfl hl2 hs cl cb cs d1 co d2 cq w
theorem new_4 (n o s : Nat) (L : Int) (hr : (wd n 0).tmod 2 = 1)
  (e1 : ∀ w, (Op.equalIn 10000 24 (N n) (N 1)).run Tryz.prog w = .ok false w) (hL : ¬ (382 : Int) < L)
  (c29 : ∀ w, Calls Tryz.prog 6 #[.int .u64 1] w (Rt w (N 1)))
  (c33 : ∀ w, Calls Tryz.prog 55 #[N n] w (Rt w (.int .i64 L)))
  (c34 : ∀ w, Calls Tryz.prog 56 #[.int .u64 (wd n 0)] w (Rt w (.int .u64 (wrapZ (wd n 0)))))
  (c35 : ∀ w, Calls Tryz.prog 57 #[N n] w (Rt w (.tuple #[N o, N s]))) (w : World) :
  Calls Tryz.prog 32 #[N n] w fun e w' => Below w.heap.size w w' ∧ ∃ g, e = .returned (.tuple #[PT g 0, .int .i64 0]) ∧ w.heap.size ≤ g ∧ g < w'.heap.size ∧ Blk w' g (zW n o s) := by
 have H0 : Hid (_ ∧ _) := ⟨Mm.nil w, Below.refl w.heap.size w⟩
 have C29 : Hid _ := c29
 have C33 : Hid _ := c33
 have C34 : Hid _ := c34
 have C35 : Hid _ := c35
 clear c29 c33 c34 c35
 go_enter Tryz.func32, Tryz.ntmps32
 refine wp_seq ?_
 refine zD 3 [.made (zC n) 24, .q (.pointer none), .q (.int .i64 0)] (sB H0) ?ho1 ?he1
 case ho1 => exact am (ex_box6 rfl rfl) (ar (ar trivial))
 intro J w1 l hM hl
 have H1 : Hid (Mm w1 [(J 0, zC n)] ∧ _) := wB H0 hM hl [0]
 have o1_0 := vB H0 hM hl 0
 clear hM hl l
 generalize J 0 = J1_0 at H1 o1_0 ⊢
 clear J
 refine rN (wp_seq (wp_seq ?_))
 refine zP 14 [.q (PT J1_0 0), .q (.int .u64 (wd n 0)), .q (.int .u64 1), .q (.bool false), .q (.bool false), .q (N n), .call (N 1), .q (.bool false), .q (.bool false), .q (.bool false), .q (N n), .call (.int .i64 L), .q (.bool false), .q (.bool false)] H1 ?ho2 ?he2
 case ho2 => exact ag (aq (fun w' h => ex_load1 h 0 rfl rfl rfl rfl) (ag (ag (ar (bN 0 (ac (fun w' h => eC call6 (C29.out w')) (ak (fun J => ⟨rfl, fun w' _ => exec_eq6 e1 rfl rfl rfl⟩) (ag (ar (bN 0 (ac (fun w' h => eC call55 (C33.out w')) (ag (ag trivial)))))))))))))
 intro _ w2 H2
 clear H1
 refine rN (wp_cond_false rfl ?_)
 refine wp_skip (zA (wp_seq ?_))
 refine walk_anyA 6 [.q (N n), .q (PT J1_0 0), .q (.int .u64 (wd n 0)), .call (.int .u64 (wrapZ (wd n 0))), .q (modv n 0 0), .made (zW n 0 0) 82] (sB H2) ?ho3 ?he3
 case ho3 => exact bN 0 (ag (aq (fun w' h => ex_load1 h 0 rfl rfl rfl rfl) (ac (fun w' h => eC call56 (C34.out w')) (ak (fun J => ⟨rfl, fun w' _ => ex_build39 rfl rfl rfl⟩) (am (ex_box39 rfl rfl) trivial)))))
 intro J w3 l hM hl
 have H3 : Hid (Mm w3 ([(J 5, zW n 0 0)] ++ _) ∧ _) := wB H2 hM hl [5]
 have o3_5 := vB H2 hM hl 5
 clear hM hl l H2
 generalize J 5 = J3_5 at H3 o3_5 ⊢
 clear J
 refine zF (l := [6]) rfl ?_
 refine zG (d := 4) rfl rfl rfl rfl ?_
 simp only [Act.put, sa, sz, ss]
 refine zE (zA (wp_seq ?_))
 refine zB 9 [.q (PT J3_5 0), .q (PT J3_5 0), .q (N n), .call (.tuple #[N o, N s]), .q (.tuple #[N o, N s]), .q (N o), .q (N s), .q (PT J3_5 0), .q (PT J3_5 7)] H3 ?ho4 ?he4
 case ho4 => exact ar (ar (bN 1 (ac (fun w' h => eC call57 (C35.out w')) (ar (ag (ag (ag (ag trivial))))))))
 intro _ w4 H4
 clear H3
 refine zF (l := [9, 10, 11, 12]) rfl ?_
 refine sG rfl (fun h => zM h 0 rfl rfl rfl rfl (Nat.le_of_ble_eq_true rfl)) 0 [(_, zW n o 0), _] H4 o3_5 fun w5 H5 => ?_
 clear H4
 refine zG (d := 34) (v := PT J3_5 0) (w' := w5) rfl rfl rfl (by go_simp) ?_
 simp only [Act.put, sa, sz, ss]
 refine zG (d := 35) (v := PT J3_5 13) (w' := w5) rfl rfl rfl (by go_simp) ?_
 simp only [Act.put, sa, sz, ss]
 refine sG rfl (fun h => zM h 0 rfl rfl rfl rfl (Nat.le_of_ble_eq_true rfl)) 0 [(_, zW n o s), _] H5 o3_5 fun w6 H6 => ?_
 clear H5
 refine zE (zA (wp_seq ?_))
 refine zB 3 [.q (PT J3_5 0), .q (PT J3_5 0), .q (.int .i64 0)] H6 ?ho5 ?he5
 case ho5 => exact ar (ar (ar trivial))
 intro _ w7 H7
 clear H6
 refine rN (wp_ret ?_)
 repeat (first | refine zJ ?_ | refine zI ?_)
 refine bodyPost_ret (v := .tuple #[PT J3_5 0, .int .i64 0]) (by simp [results, Tryz.results32, go_sem, *]) rfl ?_
 exact ⟨H7.out.2, J3_5, rfl, o3_5.out, H7.out.1.lt (List.mem_of_getElem? (i := 0) rfl), (H7.out.1.blk _ (List.mem_of_getElem? (i := 0) rfl)).2⟩
theorem new_ok {n : Nat} (ok : Ok n) (w : World) : Calls Tryz.prog 32 #[N n] w fun e w' => Below w.heap.size w w' ∧ ∃ g, e = .returned (.tuple #[PT g 0, .int .i64 0]) ∧ w.heap.size ≤ g ∧ g < w'.heap.size ∧ Blk w' g (zQ n) := by
 have hw := word_mod n
 rw [ok.odd] at hw
 have e1 := fun w => run_eqN n 1 ok.big (small_big 1 (by decide)) w
 rw [decide_eq_false (by have := ok.three; omega)] at e1
 exact new_4 n (big % n) (big * big % n) _ hw e1 (len_ok ok) (fun w => of_any 1 (by decide) w) (fun w => len_any n ok.big w) (fun w => (wrapOf_any (wd n 0) w).mono fun e w' ⟨h1, h2⟩ => ⟨h1, h2 ▸ Below.refl _ _⟩) (fun w => powersOf_any ok w) w
/-! Numbers side by side. -/
def cel : List Nat → List Value
  | [] => []
  | a :: l => zC a ++ cel l
abbrev V (l : List Nat) : Value := .agg (cel l).toArray
theorem cel_len : ∀ l : List Nat, (cel l).length = 6 * l.length
  | [] => rfl
  | a :: l => by
    show (zC a ++ cel l).length = _
    rw [List.length_append, cel_len l]
    show 6 + 6 * l.length = 6 * (l.length + 1)
    omega
theorem cel_app : ∀ l m : List Nat, cel (l ++ m) = cel l ++ cel m
  | [], _ => rfl
  | a :: l, m => by
    show zC a ++ cel (l ++ m) = zC a ++ cel l ++ cel m
    rw [cel_app l m, List.append_assoc]
theorem cel_drop : ∀ (i : Nat) (l : List Nat), (cel l).drop (6 * i) = cel (l.drop i)
  | 0, _ => by rw [Nat.mul_zero, List.drop_zero, List.drop_zero]
  | i + 1, [] => by simp [cel]
  | i + 1, a :: l => by
    show (zC a ++ cel l).drop (6 * (i + 1)) = cel (l.drop i)
    rw [← cel_drop i l, show 6 * (i + 1) = (zC a).length + 6 * i by show _ = 6 + 6 * i; omega, List.drop_length_add_append]
theorem cel_take : ∀ (i : Nat) (l : List Nat), (cel l).take (6 * i) = cel (l.take i)
  | 0, _ => by rw [Nat.mul_zero, List.take_zero, List.take_zero]; rfl
  | i + 1, [] => by simp [cel]
  | i + 1, a :: l => by
    show (zC a ++ cel l).take (6 * (i + 1)) = zC a ++ cel (l.take i)
    rw [← cel_take i l, show 6 * (i + 1) = (zC a).length + 6 * i by show _ = 6 + 6 * i; omega, List.take_length_add_append]
theorem cel_one (l : List Nat) : (cel l).all Value.oneCell' = true := by
  induction l with
  | nil => rfl
  | cons a l ih =>
    show (zC a ++ cel l).all Value.oneCell' = true
    rw [List.all_append, ih, Bool.and_true]
    rfl
theorem cel_patch (l m : List Nat) (i : Nat) : patch (cel l) (6 * i) (cel m) = cel (l.take i ++ m ++ l.drop (i + m.length)) := by
  unfold patch
  rw [cel_app, cel_app, cel_take, cel_len, ← Nat.mul_add, cel_drop]
theorem cel_zero (k : Nat) : cel (List.replicate k 0) = List.replicate (6 * k) (.int .u64 0) := by
  induction k with
  | zero => rfl
  | succ k ih =>
    rw [List.replicate_succ]
    show zC 0 ++ cel (List.replicate k 0) = _
    rw [ih, cells_zero, show 6 * (k + 1) = 6 + 6 * k by omega, ← List.replicate_append_replicate]
    rfl
theorem ex_loadA {ρ : Operand → Value} {o : Oper} {x : Operand} {g i k : Nat} {t : TypeId} {ns ms : List Nat} {w : World} {l : List (Nat × List Value)} (h : Mm w l) (q : Nat) (hk : l[q]? = some (g, cel ns)) (ho : o.op = .load t x) (hx : ρ x = PT g (6 * i)) (ha : ∀ w, (isAgg t).run Tryz.prog w = .ok true w) (hs : ∀ w, (sizeOf t).run Tryz.prog w = .ok (6 * k) w) (hc : (ns.drop i).take k = ms) (hl : ms.length = k) :
    (execOp ρ o).run Tryz.prog w = .ok (.value (V ms)) w := by
  have hm := List.mem_of_getElem? hk
  have hcell := run_loadCells_list (P := Tryz.prog) (w := w) ⟨g, 6 * i, none⟩ (cel ms) (fun j v hv => by
    have e : (cel ns)[6 * i + j]? = some v := by
      rw [← List.getElem?_drop, cel_drop]
      rw [← hc, ← cel_take, List.getElem?_take] at hv
      split at hv
      · exact hv
      · cases hv
    have e2 := h.cell hm e
    rw [show (⟨g, 6 * i, none⟩ : Addr).add j = ⟨g, 6 * i + j, none⟩ from by unfold Addr.add; split <;> simp_all]
    exact e2)
  rw [cel_len, hl] at hcell
  have hf : (loadCellsFrom ⟨g, 6 * i, none⟩ 0 (6 * k) #[]).run Tryz.prog w = .ok (cel ms).toArray w := hcell
  clear hcell hc hk hm h
  simp only [execOp, ho, hx]
  go_simp
theorem lA {ρ : Operand → Value} {o : Oper} {x : Operand} {g : Nat} {t : TypeId} {ns ms : List Nat} {w : World} {l : List (Nat × List Value)} (i k : Nat) (h : Mm w l) (q : Nat) (ha : ∀ w, (isAgg t).run Tryz.prog w = .ok true w) (hs : ∀ w, (sizeOf t).run Tryz.prog w = .ok (6 * k) w) (hk : l[q]? = some (g, cel ns) := by exact rfl) (ho : o.op = .load t x := by exact rfl) (hx : ρ x = PT g (6 * i) := by exact rfl) (hc : (ns.drop i).take k = ms := by exact rfl) (hl : ms.length = k := by exact rfl) : (execOp ρ o).run Tryz.prog w = .ok (.value (V ms)) w := ex_loadA h q hk ho hx ha hs hc hl
theorem bA {ops : Array Oper} {L : List (Nat × List Value)} {F : (Nat → Nat) → Act} {o : Oper} {os : List Oper} {ks : List Kind} {x : Operand} {g : Nat} {t : TypeId} {ns ms : List Nat} (i n k : Nat) (ha : ∀ w, (isAgg t).run Tryz.prog w = .ok true w) (hz : ∀ w, (sizeOf t).run Tryz.prog w = .ok (6 * n) w) (hs : AllOk Tryz.prog ops (fun w' => Mm w' L) F os ks) (hw : ∀ J, Region.wanted o (yielded ops (F J).tmps) = true := by exact fun _ => rfl) (hk : L[k]? = some (g, cel ns) := by exact rfl) (ho : o.op = .load t x := by exact rfl) (hx : ∀ J, (F J).eval x = PT g (6 * i) := by exact fun _ => rfl) (hc : (ns.drop i).take n = ms := by exact rfl) (hl : ms.length = n := by exact rfl) : AllOk Tryz.prog ops (fun w' => Mm w' L) F (o :: os) (.q (V ms) :: ks) := ⟨fun J => ⟨hw J, fun _ h => ex_loadA h k hk ho (hx J) ha hz hc hl⟩, hs⟩
theorem ex_boxA {ρ : Operand → Value} {o : Oper} {x : Operand} {t : TypeId} {ns : List Nat} {w : World} (ho : o.op = .box t x) (hx : ρ x = V ns) :
    (execOp ρ o).run Tryz.prog w = .ok (.value (.pointer (some ⟨w.heap.size, 0, none⟩))) (w.alloc (.cells (cel ns).toArray t)) := by
  simp only [execOp, ho, hx]
  go_simp
theorem ex_storeA {ρ : Operand → Value} {o : Oper} {x y : Operand} {g i : Nat} {t : TypeId} {ns ms : List Nat} {w : World} {l : List (Nat × List Value)} (h : Mm w l) (q : Nat) (hk : l[q]? = some (g, cel ns)) (ho : o.op = .store t x y) (hx : ρ x = PT g (6 * i)) (hy : ρ y = V ms) (hs : ∀ w, (sizeOf t).run Tryz.prog w = .ok (6 * ms.length) w) (hb : i + ms.length ≤ ns.length) :
    (execOp ρ o).run Tryz.prog w = .ok .skip (w.setCells g (6 * i) (cel ms)) := by
  have hm := List.mem_of_getElem? hk
  have hq : ∀ j, j < (cel ms).length → ∃ u, (cel ns)[6 * i + j]? = some u := fun j hj => by
    rw [cel_len] at hj
    exact ⟨_, List.getElem?_eq_getElem (by rw [cel_len]; omega)⟩
  have hst := run_storeCells_cells (P := Tryz.prog) g (6 * i) (cel ms) 0 w (fun j hj => by
    obtain ⟨u, hu⟩ := hq j hj
    rw [show 6 * i + 0 + j = 6 * i + j by omega, h.cell hm hu]; rfl) (fun j hj => by
    obtain ⟨u, hu⟩ := hq j hj
    rw [show 6 * i + 0 + j = 6 * i + j by omega]; exact h.free hm hu) (List.all_eq_true.1 (cel_one ms))
  have hl := cel_len ms
  clear h hm hq hb hk
  simp only [execOp, ho, hx, hy]
  go_simp
theorem sA {Q : Exit → Act → World → Prop} {full : Array Oper} {a : Act} {w w0 : World} {j B g : Nat} {r : List Nat} {o : Oper} {l : List (Nat × List Value)} {x y : Operand} {t : TypeId} {ns : List Nat} (k i : Nat) (ms : List Nat) (l' : List (Nat × List Value)) (H : Hid (Mm w l ∧ Below B w0 w)) (hg : Hid (B ≤ g)) (hs : ∀ w, (sizeOf t).run Tryz.prog w = .ok (6 * ms.length) w) (h : ∀ w', Hid (Mm w' l' ∧ Below B w0 w') → wpOps Tryz.prog full Q r a w') (ho : full[j]? = some o := by exact rfl) (hd : o.dst = none := by exact rfl) (hw : Region.wanted o (yielded full a.tmps) = true := by exact rfl) (hk : l[k]? = some (g, cel ns) := by exact rfl) (hp : o.op = .store t x y := by exact rfl) (hx : a.eval x = PT g (6 * i) := by exact rfl) (hy : a.eval y = V ms := by exact rfl) (hb : i + ms.length ≤ ns.length := by exact Nat.le_of_ble_eq_true rfl) (hl : l.set k (g, cel (ns.take i ++ ms ++ ns.drop (i + ms.length))) = l' := by exact rfl) : wpOps Tryz.prog full Q (j :: r) a w :=
 rest_store ho hd hw (ex_storeA H.out.1 k hk hp hx hy hs (by omega)) (h _ ⟨(hl ▸ by have h := H.out.1.put k (off := 6 * i) (vs := cel ms) hk (by simp only [cel_len]; omega); rw [cel_patch] at h; exact h), below_setCells _ hg.out _ _ _ H.out.2⟩)
theorem sK {Q : Exit → Act → World → Prop} {full : Array Oper} {a : Act} {w w0 : World} {j q g : Nat} {r : List Nat} {o : Oper} {l : List (Nat × List Value)} {x y : Operand} {t : TypeId} {ns : List Nat} (k i : Nat) (ms : List Nat) (l' : List (Nat × List Value)) (H : Hid (Mm w l ∧ Kp q w0 w)) (hg : Hid (w0.heap.size ≤ g)) (hs : ∀ w, (sizeOf t).run Tryz.prog w = .ok (6 * ms.length) w) (h : ∀ w', Hid (Mm w' l' ∧ Kp q w0 w') → wpOps Tryz.prog full Q r a w') (ho : full[j]? = some o := by exact rfl) (hd : o.dst = none := by exact rfl) (hw : Region.wanted o (yielded full a.tmps) = true := by exact rfl) (hk : l[k]? = some (g, cel ns) := by exact rfl) (hp : o.op = .store t x y := by exact rfl) (hx : a.eval x = PT g (6 * i) := by exact rfl) (hy : a.eval y = V ms := by exact rfl) (hb : i + ms.length ≤ ns.length := by exact Nat.le_of_ble_eq_true rfl) (hl : l.set k (g, cel (ns.take i ++ ms ++ ns.drop (i + ms.length))) = l' := by exact rfl) : wpOps Tryz.prog full Q (j :: r) a w :=
 rest_store ho hd hw (ex_storeA H.out.1 k hk hp hx hy hs (by omega)) (h _ ⟨(hl ▸ by have h := H.out.1.put k (off := 6 * i) (vs := cel ms) hk (by simp only [cel_len]; omega); rw [cel_patch] at h; exact h), H.out.2.put (Or.inr hg.out)⟩)
theorem sF {Q : Exit → Act → World → Prop} {full : Array Oper} {a : Act} {w w0 : World} {j B g : Nat} {r : List Nat} {o : Oper} {l : List (Nat × List Value)} {x y : Operand} {t : TypeId} {ns : List Nat} (k : Nat) (ms : List Nat) (l' : List (Nat × List Value)) (H : Hid (Mm w l ∧ Below B w0 w)) (hg : Hid (B ≤ g)) (hs : ∀ w, (sizeOf t).run Tryz.prog w = .ok (6 * ms.length) w) (h : ∀ w', Hid (Mm w' l' ∧ Below B w0 w') → wpOps Tryz.prog full Q r a w') (ho : full[j]? = some o := by exact rfl) (hd : o.dst = none := by exact rfl) (hw : Region.wanted o (yielded full a.tmps) = true := by exact rfl) (hk : l[k]? = some (g, cel ns) := by exact rfl) (hp : o.op = .store t x y := by exact rfl) (hx : a.eval x = PT g (6 * 0) := by exact rfl) (hy : a.eval y = V ms := by exact rfl) (hb : ms.length = ns.length := by exact rfl) (hl : l.set k (g, cel ms) = l' := by exact rfl) : wpOps Tryz.prog full Q (j :: r) a w :=
 rest_store ho hd hw (ex_storeA H.out.1 k hk hp hx hy hs (by omega)) (h _ ⟨(hl ▸ by have h := H.out.1.put k (off := 6 * 0) (vs := cel ms) hk (by simp only [cel_len]; omega); rw [cel_patch] at h; simpa [hb] using h), below_setCells _ hg.out _ _ _ H.out.2⟩)
theorem sL {Q : Exit → Act → World → Prop} {full : Array Oper} {a : Act} {w w0 : World} {j q g : Nat} {r : List Nat} {o : Oper} {l : List (Nat × List Value)} {x y : Operand} {t : TypeId} {ns : List Nat} (k : Nat) (ms : List Nat) (l' : List (Nat × List Value)) (H : Hid (Mm w l ∧ Kp q w0 w)) (hg : Hid (w0.heap.size ≤ g)) (hs : ∀ w, (sizeOf t).run Tryz.prog w = .ok (6 * ms.length) w) (h : ∀ w', Hid (Mm w' l' ∧ Kp q w0 w') → wpOps Tryz.prog full Q r a w') (ho : full[j]? = some o := by exact rfl) (hd : o.dst = none := by exact rfl) (hw : Region.wanted o (yielded full a.tmps) = true := by exact rfl) (hk : l[k]? = some (g, cel ns) := by exact rfl) (hp : o.op = .store t x y := by exact rfl) (hx : a.eval x = PT g (6 * 0) := by exact rfl) (hy : a.eval y = V ms := by exact rfl) (hb : ms.length = ns.length := by exact rfl) (hl : l.set k (g, cel ms) = l' := by exact rfl) : wpOps Tryz.prog full Q (j :: r) a w :=
 rest_store ho hd hw (ex_storeA H.out.1 k hk hp hx hy hs (by omega)) (h _ ⟨(hl ▸ by have h := H.out.1.put k (off := 6 * 0) (vs := cel ms) hk (by simp only [cel_len]; omega); rw [cel_patch] at h; simpa [hb] using h), H.out.2.put (Or.inr hg.out)⟩)
theorem ex_laidA {ρ : Operand → Value} {o : Oper} {x y : Operand} {g : Nat} {t : TypeId} {zs ms : List Nat} {w : World} (hb : Blk w g (cel zs)) (hz : zs.length = ms.length) (hs : ∀ w, (sizeOf t).run Tryz.prog w = .ok (6 * ms.length) w) (ho : o.op = .store t x y) (hx : ρ x = .pointer (some ⟨g, 0, none⟩)) (hy : ρ y = V ms) :
    (execOp ρ o).run Tryz.prog w = .ok .skip (w.setCells g 0 (cel ms)) :=
  ex_laidT hb (by rw [cel_len, cel_len, hz]) (cel_one ms) (by rw [cel_len]; exact hs) ho hx hy
theorem ex_loadN {ρ : Operand → Value} {o : Oper} {x : Operand} {g i v : Nat} {ns : List Nat} {w : World} {l : List (Nat × List Value)} (h : Mm w l) (q : Nat) (hk : l[q]? = some (g, cel ns)) (ho : o.op = .load 24 x) (hx : ρ x = PT g (6 * i)) (hc : ns[i]? = some v) :
    (execOp ρ o).run Tryz.prog w = .ok (.value (N v)) w := by
  refine zU h q hk ho hx ?_
  rw [cel_drop, show 6 = 6 * 1 from rfl, cel_take]
  obtain ⟨hlt, e⟩ := List.getElem?_eq_some_iff.1 hc
  rw [List.drop_eq_getElem_cons hlt, e]
  rfl
theorem cel_load {n g : Nat} {ns : List Nat} {w : World} {l : List (Nat × List Value)} (h : Mm w l) (q : Nat) (hk : l[q]? = some (g, cel ns)) (hn : 6 * ns.length = n) : (loadCellsFrom ⟨g, 0, none⟩ 0 n #[]).run Tryz.prog w = .ok (cel ns).toArray w := by
  have hm := List.mem_of_getElem? hk
  have hcell := run_loadCells_list (P := Tryz.prog) (w := w) ⟨g, 0, none⟩ (cel ns) (fun j v hv => by
    have e2 := h.cell hm hv
    rw [show (⟨g, 0, none⟩ : Addr).add j = ⟨g, j, none⟩ from by unfold Addr.add; split <;> simp_all]
    exact e2)
  rw [cel_len, hn] at hcell
  exact hcell
theorem cel_var {g k : Nat} {t : TypeId} {ns : List Nat} {w : World} {l : List (Nat × List Value)} (h : Mm w l) (q : Nat) (hk : l[q]? = some (g, cel ns)) (ha : ∀ w, (isAgg t).run Tryz.prog w = .ok true w) (hs : ∀ w, (sizeOf t).run Tryz.prog w = .ok (6 * k) w) (hn : ns.length = k) : (loadVar t ⟨g, 0, none⟩).run Tryz.prog w = .ok (V ns) w := by
  have hf := cel_load (n := 6 * k) h q hk (by rw [hn])
  clear h hk
  simp only [loadVar]
  go_simp
end Rg
end Go.Proofs.YtahgdighnlekdaaGreatDoor
end
section
namespace Go.Proofs.YtahgdighnlekdaaGreatDoor
namespace NT
/-- A prime. -/
def Prm (p : Nat) : Prop := 1 < p ∧ ∀ d, d ∣ p → d = 1 ∨ d = p
theorem Prm.cop {p : Nat} (h : Prm p) {a : Nat} (ha : ¬ p ∣ a) : Nat.Coprime p a := by
 rcases h.2 (Nat.gcd p a) (Nat.gcd_dvd_left p a) with h1 | h1
 ·exact h1
 ·exact absurd (h1 ▸ Nat.gcd_dvd_right p a) ha
theorem Prm.mul {p a b : Nat} (h : Prm p) (hd : p ∣ a * b) : p ∣ a ∨ p ∣ b := by
 by_cases ha : p ∣ a
 ·exact Or.inl ha
 ·exact Or.inr ((h.cop ha).dvd_of_dvd_mul_left hd)
theorem Prm.pos {p : Nat} (h : Prm p) : 0 < p := by have := h.1; omega
/-- Each number above 1 has a prime that divides it. -/
theorem prm_dvd (n : Nat) (h : 1 < n) : ∃ q, Prm q ∧ q ∣ n := by
 induction n using Nat.strongRecOn with
 | ind n ih =>
  by_cases hp : ∃ d, d ∣ n ∧ d ≠ 1 ∧ d ≠ n
  ·obtain ⟨d, hd, h1, h2⟩ := hp
   have hle := Nat.le_of_dvd (by omega) hd
   have h0 : d ≠ 0 := by
    intro e; rw [e] at hd; have := Nat.eq_zero_of_zero_dvd hd; omega
   obtain ⟨q, hq, hqd⟩ := ih d (by omega) (by omega)
   exact ⟨q, hq, Nat.dvd_trans hqd hd⟩
  ·refine ⟨n, ⟨h, ?_⟩, Nat.dvd_refl n⟩
   intro d hd
   by_cases h1 : d = 1
   ·exact Or.inl h1
   ·by_cases h2 : d = n
    ·exact Or.inr h2
    ·exact absurd ⟨d, hd, h1, h2⟩ hp
/-! Binomials. -/
def ch : Nat → Nat → Nat
 | _, 0 => 1
 | 0, _ + 1 => 0
 | n + 1, k + 1 => ch n k + ch n (k + 1)
theorem ch_zero (n : Nat) : ch n 0 = 1 := by cases n <;> rfl
theorem ch_big (n : Nat) : ∀ k, n < k → ch n k = 0 := by
 induction n with
 | zero => intro k hk; cases k with
  | zero => omega
  | succ k => rfl
 | succ n ih => intro k hk; cases k with
  | zero => omega
  | succ k => show ch n k + ch n (k + 1) = 0; rw [ih k (by omega), ih (k + 1) (by omega)]
theorem ch_self (n : Nat) : ch n n = 1 := by
 induction n with
 | zero => rfl
 | succ n ih => show ch n n + ch n (n + 1) = 1; rw [ih, ch_big n (n + 1) (by omega)]
theorem ch_absorb (n : Nat) : ∀ k, (k + 1) * ch (n + 1) (k + 1) = (n + 1) * ch n k := by
 induction n with
 | zero =>
  intro k
  cases k with
  | zero => rfl
  | succ k =>
   rw [ch_big 1 (k + 1 + 1) (by omega), ch_big 0 (k + 1) (by omega)]; omega
 | succ n ih =>
  intro k
  cases k with
  | zero =>
   have h := ih 0
   show (0 + 1) * (ch (n + 1) 0 + ch (n + 1) (0 + 1)) = _
   rw [Nat.mul_add, h, ch_zero, ch_zero]; omega
  | succ k =>
   have h1 := ih k
   have h2 := ih (k + 1)
   show (k + 1 + 1) * (ch (n + 1) (k + 1) + ch (n + 1) (k + 1 + 1)) = (n + 1 + 1) * (ch (n + 1) (k + 1))
   rw [Nat.mul_add, h2]
   have e : ch (n + 1) (k + 1) = ch n k + ch n (k + 1) := rfl
   rw [Nat.add_mul (k + 1) 1, h1, Nat.add_mul (n + 1) 1 (ch (n + 1) (k + 1))]
   have e' : (n + 1) * ch (n + 1) (k + 1) = (n + 1) * ch n k + (n + 1) * ch n (k + 1) := by rw [e, Nat.mul_add]
   omega
theorem ch_dvd {p : Nat} (hp : Prm p) (k : Nat) (h0 : 0 < k) (hk : k < p) : p ∣ ch p k := by
 obtain ⟨k, rfl⟩ : ∃ j, k = j + 1 := ⟨k - 1, by omega⟩
 obtain ⟨n, rfl⟩ : ∃ j, p = j + 1 := ⟨p - 1, by omega⟩
 have h : n + 1 ∣ (k + 1) * ch (n + 1) (k + 1) := ⟨ch n k, ch_absorb n k⟩
 rcases hp.mul h with h1 | h1
 ·have := Nat.le_of_dvd (by omega) h1; omega
 ·exact h1
def sm (f : Nat → Nat) : Nat → Nat
 | 0 => 0
 | n + 1 => sm f n + f n
theorem sm_first (f : Nat → Nat) (n : Nat) : sm f (n + 1) = f 0 + sm (fun k => f (k + 1)) n := by
 induction n with
 | zero => simp [sm]
 | succ n ih => rw [sm, ih]; simp only [sm]; omega
theorem sm_add (f g : Nat → Nat) (n : Nat) : sm (fun k => f k + g k) n = sm f n + sm g n := by
 induction n with
 | zero => rfl
 | succ n ih => simp only [sm]; rw [ih]; omega
theorem sm_mul (f : Nat → Nat) (c n : Nat) : sm (fun k => c * f k) n = c * sm f n := by
 induction n with
 | zero => rfl
 | succ n ih => simp only [sm]; rw [ih, Nat.mul_add]
theorem sm_congr (f g : Nat → Nat) (n : Nat) (h : ∀ k, k < n → f k = g k) : sm f n = sm g n := by
 induction n with
 | zero => rfl
 | succ n ih => simp only [sm]; rw [ih (fun k hk => h k (by omega)), h n (by omega)]
theorem sm_dvd (f : Nat → Nat) (p n : Nat) (h : ∀ k, k < n → p ∣ f k) : p ∣ sm f n := by
 induction n with
 | zero => exact Nat.dvd_zero p
 | succ n ih => exact Nat.dvd_add (ih (fun k hk => h k (by omega))) (h n (by omega))
theorem binom (a n : Nat) : (a + 1) ^ n = sm (fun k => ch n k * a ^ k) (n + 1) := by
 induction n with
 | zero => simp [sm, ch]
 | succ n ih =>
  rw [Nat.pow_succ, ih, Nat.mul_add, Nat.mul_one]
  rw [sm_first (fun k => ch (n + 1) k * a ^ k) (n + 1)]
  have e : ∀ k, ch (n + 1) (k + 1) * a ^ (k + 1) = a * (ch n k * a ^ k) + ch n (k + 1) * a ^ (k + 1) := by
   intro k
   show (ch n k + ch n (k + 1)) * a ^ (k + 1) = _
   rw [Nat.add_mul, Nat.pow_succ]
   congr 1
   rw [Nat.mul_comm (a ^ k) a, Nat.mul_left_comm]
  have e1 : sm (fun k => ch (n + 1) (k + 1) * a ^ (k + 1)) (n + 1)
    = a * sm (fun k => ch n k * a ^ k) (n + 1) + sm (fun k => ch n (k + 1) * a ^ (k + 1)) (n + 1) := by
   rw [← sm_mul, ← sm_add]
   exact sm_congr _ _ _ (fun k _ => e k)
  rw [e1]
  have e2 : sm (fun k => ch n k * a ^ k) (n + 1) = 1 + sm (fun k => ch n (k + 1) * a ^ (k + 1)) (n + 1) := by
   rw [sm_first (fun k => ch n k * a ^ k) n]
   have : sm (fun k => ch n (k + 1) * a ^ (k + 1)) (n + 1) = sm (fun k => ch n (k + 1) * a ^ (k + 1)) n + ch n (n + 1) * a ^ (n + 1) := rfl
   rw [this, ch_big n (n + 1) (by omega), ch_zero]
   simp
  rw [ch_zero, Nat.pow_zero, Nat.mul_comm _ a]
  omega
theorem dream {p : Nat} (hp : Prm p) (a : Nat) : (a + 1) ^ p % p = (a ^ p + 1) % p := by
 obtain ⟨n, rfl⟩ : ∃ j, p = j + 1 := ⟨p - 1, by have := hp.1; omega⟩
 rw [binom, sm, sm_first]
 obtain ⟨c, hc⟩ := sm_dvd (fun k => ch (n + 1) (k + 1) * a ^ (k + 1)) (n + 1) n
  (fun k hk => Nat.dvd_trans (ch_dvd hp (k + 1) (by omega) (by omega)) (Nat.dvd_mul_right _ _))
 rw [hc, ch_self, ch_zero, Nat.pow_zero]
 have : 1 * 1 + (n + 1) * c + 1 * a ^ (n + 1) = (a ^ (n + 1) + 1) + (n + 1) * c := by omega
 rw [this, Nat.add_mul_mod_self_left]
theorem fermat {p : Nat} (hp : Prm p) (a : Nat) : a ^ p % p = a % p := by
 induction a with
 | zero => rw [Nat.zero_pow hp.pos]
 | succ a ih => rw [dream hp, Nat.add_mod, ih, ← Nat.add_mod]
theorem fermat1 {p : Nat} (hp : Prm p) (a : Nat) (ha : ¬ p ∣ a) : a ^ (p - 1) % p = 1 := by
 have h := fermat hp a
 obtain ⟨n, rfl⟩ : ∃ j, p = j + 1 := ⟨p - 1, by have := hp.1; omega⟩
 rw [Nat.add_sub_cancel]
 rw [Nat.pow_succ] at h
 have hn : 0 < n := by have := hp.1; omega
 have h1 : 1 ≤ a ^ n := Nat.one_le_iff_ne_zero.mpr (fun e => by
  rcases Nat.pow_eq_zero.mp e with ⟨e1, -⟩
  rw [e1] at ha; exact ha (Nat.dvd_zero _))
 have h2 : n + 1 ∣ (a ^ n - 1) * a := by
  rw [Nat.sub_mul, Nat.one_mul]
  exact Nat.dvd_of_mod_eq_zero (Nat.sub_mod_eq_zero_of_mod_eq h)
 rcases hp.mul h2 with h3 | h3
 ·obtain ⟨c, hc⟩ := h3
  have : a ^ n = 1 + (n + 1) * c := by omega
  rw [this, Nat.add_mul_mod_self_left, Nat.mod_eq_of_lt hp.1]
 ·exact absurd h3 ha
/-! Orders. -/
theorem least (P : Nat → Prop) (n : Nat) (h : P n) : ∃ m, P m ∧ ∀ k, k < m → ¬ P k := by
 induction n using Nat.strongRecOn with
 | ind n ih =>
  by_cases hk : ∃ k, k < n ∧ P k
  ·obtain ⟨k, h1, h2⟩ := hk
   exact ih k h1 h2
  ·exact ⟨n, h, fun k h1 h2 => hk ⟨k, h1, h2⟩⟩
theorem order {d : Nat} (hd : Prm d) (a : Nat) (ha : ¬ d ∣ a) :
  ∃ e, e ∣ d - 1 ∧ a ^ e % d = 1 ∧ ∀ m, a ^ m % d = 1 → e ∣ m := by
 obtain ⟨e, ⟨h0, h1⟩, h2⟩ := least (fun e => 0 < e ∧ a ^ e % d = 1) (d - 1) ⟨by have := hd.1; omega, fermat1 hd a ha⟩
 have h3 : ∀ m, a ^ m % d = 1 → e ∣ m := by
  intro m hm
  by_cases hr : m % e = 0
  ·exact Nat.dvd_of_mod_eq_zero hr
  ·exfalso
   refine h2 (m % e) (Nat.mod_lt _ h0) ⟨by omega, ?_⟩
   have e1 : a ^ m = (a ^ e) ^ (m / e) * a ^ (m % e) := by
    rw [← Nat.pow_mul, ← Nat.pow_add, Nat.div_add_mod]
   rw [e1, Nat.mul_mod, Nat.pow_mod, h1, Nat.one_pow, Nat.mod_eq_of_lt hd.1, Nat.one_mul, Nat.mod_mod] at hm
   exact hm
 exact ⟨e, h3 _ (fermat1 hd a ha), h1, h3⟩
/-- Pocklington: each prime that divides N leaves 1 by F. -/
theorem pock {N M F a d : Nat} (qs : List Nat) (hM : N = M + 1) (hF : F ∣ M) (hd : Prm d) (hdN : d ∣ N) (h1 : a ^ M % N = 1)
  (hc : ∀ t, (∀ q, q ∈ qs → Nat.Coprime q t) → Nat.Coprime F t)
  (hq : ∀ q, q ∈ qs → Prm q ∧ q ∣ M ∧ Nat.Coprime (a ^ (M / q) % N + M) N) : F ∣ d - 1 := by
 have hmod : ∀ x, x % N % d = x % d := fun x => Nat.mod_mod_of_dvd x hdN
 have h1d : a ^ M % d = 1 := by rw [← hmod, h1, Nat.mod_eq_of_lt hd.1]
 have hM0 : M ≠ 0 := by
  intro e; rw [e] at hM; rw [hM] at hdN; have := Nat.dvd_one.mp hdN; have := hd.1; omega
 have ha : ¬ d ∣ a := by
  intro h
  have h2 : d ∣ a ^ M := Nat.dvd_trans h (by
   obtain ⟨k, hk⟩ : ∃ k, M = k + 1 := ⟨M - 1, by omega⟩
   rw [hk, Nat.pow_succ]; exact Nat.dvd_mul_left _ _)
  have := Nat.mod_eq_zero_of_dvd h2
  omega
 obtain ⟨e, h2, h3, h4⟩ := order hd a ha
 obtain ⟨t, ht⟩ := h4 M h1d
 have hcop : Nat.Coprime F t := by
  refine hc t (fun q hqm => ?_)
  obtain ⟨g1, g2, g3⟩ := hq q hqm
  refine g1.cop (fun hqt => ?_)
  obtain ⟨s, hs⟩ := hqt
  have g4 : M / q = e * s := by
   rw [ht, hs, Nat.mul_left_comm, Nat.mul_div_cancel_left _ g1.pos]
  have g5 : a ^ (M / q) % d = 1 := by
   rw [g4, Nat.pow_mul, Nat.pow_mod, h3, Nat.one_pow, Nat.mod_eq_of_lt hd.1]
  have g6 : d ∣ a ^ (M / q) % N + M := by
   refine Nat.dvd_of_mod_eq_zero ?_
   rw [Nat.add_mod, hmod, g5, ← Nat.mod_eq_of_lt hd.1, ← Nat.add_mod, Nat.add_comm 1 M, ← hM]
   exact Nat.mod_eq_zero_of_dvd hdN
  have g7 := Nat.dvd_gcd g6 hdN
  rw [g3] at g7
  have := Nat.dvd_one.mp g7; have := hd.1; omega
 have h5 : F ∣ e := hcop.dvd_of_dvd_mul_right (ht ▸ hF)
 exact Nat.dvd_trans h5 h2
/-- A number whose prime divisors all leave 1 by F, F F above it, is prime. -/
theorem prm_of {N F : Nat} (hN : 1 < N) (hF : N < F * F) (h : ∀ d, Prm d → d ∣ N → F ∣ d - 1) : Prm N := by
 obtain ⟨d, hd, hdN⟩ := prm_dvd N hN
 by_cases e : d = N
 ·exact e ▸ hd
 ·exfalso
  obtain ⟨c, hc⟩ := hdN
  have hc1 : 1 < c := by
   rcases c with _ | _ | c
   ·omega
   ·omega
   ·omega
  obtain ⟨d', hd', hdc⟩ := prm_dvd c hc1
  have g1 : F ≤ d - 1 := Nat.le_of_dvd (by have := hd.1; omega) (h d hd ⟨c, hc⟩)
  have g2 : F ≤ d' - 1 := Nat.le_of_dvd (by have := hd'.1; omega) (h d' hd' (Nat.dvd_trans hdc ⟨d, by rw [hc, Nat.mul_comm]⟩))
  have g3 := Nat.le_of_dvd (by omega) hdc
  have g4 : F * F ≤ d * c := Nat.mul_le_mul (by omega) (by omega)
  omega
/-- All divisors leave 1 by F. -/
theorem all_one {N F : Nat} (h : ∀ d, Prm d → d ∣ N → F ∣ d - 1) : ∀ c, 0 < c → c ∣ N → F ∣ c - 1 := by
 intro c
 induction c using Nat.strongRecOn with
 | ind c ih =>
  intro h0 hc
  by_cases h1 : c = 1
  ·rw [h1]; exact Nat.dvd_zero F
  ·obtain ⟨d, hd, hdc⟩ := prm_dvd c (by omega)
   obtain ⟨b, hb⟩ := hdc
   have hb0 : 0 < b := by
    rcases b with _ | b
    ·omega
    ·omega
   have g1 := h d hd (Nat.dvd_trans ⟨b, hb⟩ hc)
   have hlt : b < c := by
    have := hd.1
    have : 2 * b ≤ d * b := Nat.mul_le_mul (by omega) (Nat.le_refl b)
    omega
   have g2 := ih b hlt hb0 (Nat.dvd_trans ⟨d, by rw [hb, Nat.mul_comm]⟩ hc)
   obtain ⟨x, hx⟩ := g1
   obtain ⟨y, hy⟩ := g2
   have ed : d = F * x + 1 := by have := hd.1; omega
   have eb : b = F * y + 1 := by omega
   refine ⟨F * x * y + x + y, ?_⟩
   have : (F * x + 1) * (F * y + 1) = F * (F * x * y + x + y) + 1 := by grind
   rw [hb, ed, eb, this, Nat.add_sub_cancel]
/-- Of a number below F F F: with c1, c2 its digits by F, and c1 c1 - 4 c2 no square, it is prime. -/
theorem prm_cube {N F c1 c2 s : Nat} (hN : 1 < N) (hF : 1 < F) (e : N = 1 + F * c1 + F * F * c2) (h1 : c1 < F) (h2 : c2 + 1 < F)
  (hs : s * s + 4 * c2 < c1 * c1) (hs2 : c1 * c1 < (s + 1) * (s + 1) + 4 * c2)
  (h : ∀ d, Prm d → d ∣ N → F ∣ d - 1) : Prm N := by
 have hall := all_one h
 refine ⟨hN, fun d hd => ?_⟩
 obtain ⟨c, hc⟩ := hd
 have hd0 : 0 < d := by
  rcases d with _ | d
  ·rw [Nat.zero_mul] at hc; omega
  ·omega
 have hc0 : 0 < c := by
  rcases c with _ | c
  ·rw [Nat.mul_zero] at hc; omega
  ·omega
 obtain ⟨x, hx⟩ := hall d hd0 ⟨c, hc⟩
 obtain ⟨y, hy⟩ := hall c hc0 ⟨d, by rw [hc, Nat.mul_comm]⟩
 have ed : d = F * x + 1 := by omega
 have ec : c = F * y + 1 := by omega
 by_cases hx0 : x = 0
 ·left; rw [ed, hx0]; omega
 by_cases hy0 : y = 0
 ·right; rw [hc, ec, hy0]; simp
 exfalso
 have e1 : 1 + F * c1 + F * F * c2 = 1 + F * (x + y) + F * F * (x * y) := by
  rw [← e, hc, ed, ec]
  grind
 have e2 : c1 + F * c2 = (x + y) + F * (x * y) := by
  have : F * (c1 + F * c2) = F * ((x + y) + F * (x * y)) := by
   grind
  exact Nat.eq_of_mul_eq_mul_left (by omega) this
 -- x y is at most c2 + something: bring both below F
 have hxy : x * y ≤ c2 := by
  rcases Nat.lt_or_ge c2 (x * y) with h5 | h5
  ·exfalso
   have : F * (c2 + 1) ≤ F * (x * y) := Nat.mul_le_mul (Nat.le_refl F) h5
   have : F * (c2 + 1) = F * c2 + F := by rw [Nat.mul_add, Nat.mul_one]
   omega
  ·exact h5
 have hsum : x + y ≤ x * y + 1 := by
  obtain ⟨x', rfl⟩ : ∃ k, x = k + 1 := ⟨x - 1, by omega⟩
  obtain ⟨y', rfl⟩ : ∃ k, y = k + 1 := ⟨y - 1, by omega⟩
  have : (x' + 1) * (y' + 1) = x' * y' + x' + y' + 1 := by grind
  omega
 have hxye : x * y = c2 := by
  rcases Nat.lt_or_ge (x * y) c2 with h5 | h5
  ·exfalso
   have : F * (x * y + 1) ≤ F * c2 := Nat.mul_le_mul (Nat.le_refl F) h5
   have : F * (x * y + 1) = F * (x * y) + F := by rw [Nat.mul_add, Nat.mul_one]
   omega
  ·omega
 have hs1 : x + y = c1 := by rw [hxye] at e2; omega
 -- (x - y)^2 = c1 c1 - 4 c2
 rcases Nat.le_total x y with hle | hle
 ·obtain ⟨k, hk⟩ : ∃ k, y = x + k := ⟨y - x, by omega⟩
  have hsq : c1 * c1 = k * k + 4 * c2 := by rw [← hs1, ← hxye, hk]; grind
  have a1 : s * s < k * k := by omega
  have a2 : k * k < (s + 1) * (s + 1) := by omega
  have b1 : s < k := Nat.mul_self_lt_mul_self_iff.mp a1
  have b2 : k < s + 1 := Nat.mul_self_lt_mul_self_iff.mp a2
  omega
 ·obtain ⟨k, hk⟩ : ∃ k, x = y + k := ⟨x - y, by omega⟩
  have hsq : c1 * c1 = k * k + 4 * c2 := by rw [← hs1, ← hxye, hk]; grind
  have a1 : s * s < k * k := by omega
  have a2 : k * k < (s + 1) * (s + 1) := by omega
  have b1 : s < k := Nat.mul_self_lt_mul_self_iff.mp a1
  have b2 : k < s + 1 := Nat.mul_self_lt_mul_self_iff.mp a2
  omega
/-! Powers by squaring, for the kernel. -/
def pm (N : Nat) : Nat → Nat → Nat → Nat → Nat
 | 0, _, _, acc => acc
 | f + 1, b, e, acc => pm N f (b * b % N) (e / 2) (if e % 2 = 1 then acc * b % N else acc)
theorem pm_spec (N : Nat) (f : Nat) : ∀ b e acc, e < 2 ^ f → pm N f b e acc % N = acc * b ^ e % N := by
 induction f with
 | zero =>
  intro b e acc h
  have : e = 0 := by simpa using h
  rw [this, Nat.pow_zero, Nat.mul_one]; rfl
 | succ f ih =>
  intro b e acc h
  show pm N f (b * b % N) (e / 2) (if e % 2 = 1 then acc * b % N else acc) % N = _
  rw [ih _ _ _ (by rw [Nat.pow_succ] at h; omega)]
  have h1 : (b * b % N) ^ (e / 2) % N = b ^ (2 * (e / 2)) % N := by
   rw [← Nat.pow_mod, Nat.pow_mul, Nat.pow_two]
  rw [Nat.mul_mod, h1, ← Nat.mul_mod]
  by_cases he : e % 2 = 1
  ·rw [if_pos he, Nat.mul_mod, Nat.mod_mod, ← Nat.mul_mod, Nat.mul_assoc, ← Nat.pow_add_one']
   have : 2 * (e / 2) + 1 = e := by omega
   rw [this]
  ·rw [if_neg he]
   have : 2 * (e / 2) = e := by omega
   rw [this]
theorem pm_spec2 (N g h b e acc : Nat) (hh : e < 2 ^ g * 2 ^ h) : pm N (g + h) b e acc % N = acc * b ^ e % N :=
 pm_spec N (g + h) b e acc (by rw [Nat.pow_add]; exact hh)
theorem pm_eq {N a e c : Nat} (h : e < 2 ^ 256 * 2 ^ 256 ∧ pm N 512 a e 1 % N = c) : a ^ e % N = c := by
 have := pm_spec2 N 256 256 a e 1 h.1
 rw [Nat.one_mul] at this
 rw [← this]; exact h.2
theorem cop_pm {N a e M : Nat} (h : e < 2 ^ 256 * 2 ^ 256 ∧ Nat.gcd (pm N 512 a e 1 % N + M) N = 1) : Nat.Coprime (a ^ e % N + M) N := by
 have := pm_eq (N := N) (a := a) (e := e) ⟨h.1, rfl⟩
 rw [this]; exact h.2
/-! Trial division. -/
def tr (n : Nat) : Nat → Nat → Bool
 | 0, _ => true
 | f + 1, d => if n % d = 0 then false else tr n f (d + 1)
theorem tr_spec (n : Nat) (f : Nat) : ∀ d, tr n f d = true → ∀ c, d ≤ c → c < d + f → ¬ c ∣ n := by
 induction f with
 | zero => intro d _ c h1 h2; omega
 | succ f ih =>
  intro d h c h1 h2 hc
  unfold tr at h
  by_cases h0 : n % d = 0
  ·rw [if_pos h0] at h; exact absurd h (by decide)
  ·rw [if_neg h0] at h
   by_cases e : c = d
   ·rw [e] at hc; exact h0 (Nat.mod_eq_zero_of_dvd hc)
   ·exact ih (d + 1) h c (by omega) (by omega) hc
theorem prm_trial (n f : Nat) (h1 : 1 < n) (h2 : n < (f + 2) * (f + 2)) (h : n < 4 ∨ tr n f 2 = true) : Prm n := by
 refine ⟨h1, fun d hd => ?_⟩
 obtain ⟨c, hc⟩ := hd
 rcases h with h | h
 ·have hd2 : d = 1 ∨ d = n := by
   have hle := Nat.le_of_dvd (by omega) (⟨c, hc⟩ : d ∣ n)
   have h0 : d ≠ 0 := by
    intro e; rw [e, Nat.zero_mul] at hc; omega
   rcases d with _ | _ | _ | d
   ·exact absurd rfl h0
   ·left; rfl
   ·right
    have : n = 2 ∨ n = 3 := by omega
    rcases this with e | e
    ·omega
    ·omega
   ·right; omega
  exact hd2
 ·have key : ∀ x y, n = x * y → x ≤ y → x = 1 ∨ x = 0 := by
   intro x y e hle
   rcases Nat.lt_or_ge x 2 with g | g
   ·omega
   ·exfalso
    refine tr_spec n f 2 h x g ?_ ⟨y, e⟩
    rcases Nat.lt_or_ge x (2 + f) with g2 | g2
    ·exact g2
    ·exfalso
     have : (f + 2) * (f + 2) ≤ x * y := Nat.mul_le_mul (by omega) (by omega)
     omega
  rcases Nat.le_total d c with hle | hle
  ·rcases key d c hc hle with e | e
   ·exact Or.inl e
   ·rw [e, Nat.zero_mul] at hc; omega
  ·rcases key c d (by rw [hc, Nat.mul_comm]) hle with e | e
   ·right; rw [hc, e, Nat.mul_one]
   ·rw [e, Nat.mul_zero] at hc; omega
theorem pockp {N M F a d : Nat} (qs : List Nat) (hM : N = M + 1) (hF : F ∣ M) (hd : Prm d) (hdN : d ∣ N) (h1 : M < 2 ^ 256 * 2 ^ 256 ∧ pm N 512 a M 1 % N = 1)
  (hc : ∀ t, (∀ q, q ∈ qs → Nat.Coprime q t) → Nat.Coprime F t)
  (hq : ∀ q, q ∈ qs → Prm q ∧ q ∣ M ∧ M / q < 2 ^ 256 * 2 ^ 256 ∧ Nat.gcd (pm N 512 a (M / q) 1 % N + M) N = 1) : F ∣ d - 1 :=
 pock qs hM hF hd hdN (pm_eq h1) hc (fun q h => ⟨(hq q h).1, (hq q h).2.1, cop_pm (hq q h).2.2⟩)
theorem prm_7577 : Prm 7577 := prm_trial 7577 88 (by decide) (by decide) (by decide +kernel)
theorem prm_582767 : Prm 582767 := prm_trial 582767 764 (by decide) (by decide) (by decide +kernel)
theorem fac_9272813673901 : ∀ d, Prm d → d ∣ 9272813673901 → 4415625559 ∣ d - 1 := by
 intro d hd hdN
 refine pockp (N := 9272813673901) (M := 9272813673900) (F := 4415625559) (a := 2) [7577, 582767] (by decide) (by decide +kernel) hd hdN (by decide +kernel) ?_ ?_
 ·intro t h
  have e : 4415625559 = (7577 * 582767) := by decide
  rw [e]
  exact Nat.Coprime.mul_left ((h 7577 (by decide))) ((h 582767 (by decide)))
 ·intro q hq
  simp only [List.mem_cons, List.not_mem_nil, or_false] at hq
  rcases hq with rfl | rfl
  ·exact ⟨prm_7577, by decide +kernel, by decide +kernel⟩
  ·exact ⟨prm_582767, by decide +kernel, by decide +kernel⟩
theorem prm_9272813673901 : Prm 9272813673901 := prm_of (by decide) (by decide) fac_9272813673901
theorem fac_1928745244171409 : ∀ d, Prm d → d ∣ 1928745244171409 → 9272813673901 ∣ d - 1 := by
 intro d hd hdN
 refine pockp (N := 1928745244171409) (M := 1928745244171408) (F := 9272813673901) (a := 2) [9272813673901] (by decide) (by decide +kernel) hd hdN (by decide +kernel) ?_ ?_
 ·intro t h
  have e : 9272813673901 = 9272813673901 := by decide
  rw [e]
  exact (h 9272813673901 (by decide))
 ·intro q hq
  simp only [List.mem_cons, List.not_mem_nil, or_false] at hq
  subst hq
  ·exact ⟨prm_9272813673901, by decide +kernel, by decide +kernel⟩
theorem prm_1928745244171409 : Prm 1928745244171409 := prm_of (by decide) (by decide) fac_1928745244171409
theorem fac_7259797099061183477 : ∀ d, Prm d → d ∣ 7259797099061183477 → 1928745244171409 ∣ d - 1 := by
 intro d hd hdN
 refine pockp (N := 7259797099061183477) (M := 7259797099061183476) (F := 1928745244171409) (a := 2) [1928745244171409] (by decide) (by decide +kernel) hd hdN (by decide +kernel) ?_ ?_
 ·intro t h
  have e : 1928745244171409 = 1928745244171409 := by decide
  rw [e]
  exact (h 1928745244171409 (by decide))
 ·intro q hq
  simp only [List.mem_cons, List.not_mem_nil, or_false] at hq
  subst hq
  ·exact ⟨prm_1928745244171409, by decide +kernel, by decide +kernel⟩
theorem prm_7259797099061183477 : Prm 7259797099061183477 := prm_of (by decide) (by decide) fac_7259797099061183477
theorem fac_2584487767265781317813 : ∀ d, Prm d → d ∣ 2584487767265781317813 → 7259797099061183477 ∣ d - 1 := by
 intro d hd hdN
 refine pockp (N := 2584487767265781317813) (M := 2584487767265781317812) (F := 7259797099061183477) (a := 2) [7259797099061183477] (by decide) (by decide +kernel) hd hdN (by decide +kernel) ?_ ?_
 ·intro t h
  have e : 7259797099061183477 = 7259797099061183477 := by decide
  rw [e]
  exact (h 7259797099061183477 (by decide))
 ·intro q hq
  simp only [List.mem_cons, List.not_mem_nil, or_false] at hq
  subst hq
  ·exact ⟨prm_7259797099061183477, by decide +kernel, by decide +kernel⟩
theorem prm_2584487767265781317813 : Prm 2584487767265781317813 := prm_of (by decide) (by decide) fac_2584487767265781317813
theorem prm_2 : Prm 2 := prm_trial 2 2 (by decide) (by decide) (by decide +kernel)
theorem prm_3 : Prm 3 := prm_trial 3 2 (by decide) (by decide) (by decide +kernel)
theorem prm_11 : Prm 11 := prm_trial 11 4 (by decide) (by decide) (by decide +kernel)
theorem prm_23 : Prm 23 := prm_trial 23 5 (by decide) (by decide) (by decide +kernel)
theorem prm_47 : Prm 47 := prm_trial 47 7 (by decide) (by decide) (by decide +kernel)
theorem prm_10177 : Prm 10177 := prm_trial 10177 101 (by decide) (by decide) (by decide +kernel)
theorem prm_859267 : Prm 859267 := prm_trial 859267 927 (by decide) (by decide) (by decide +kernel)
theorem prm_52437899 : Prm 52437899 := prm_trial 52437899 7242 (by decide) (by decide) (by decide +kernel)
theorem fac_p : ∀ d, Prm d → d ∣ 4002409555221667393417789825735904156556882819939007885332058136124031650490837864442687629129015664037894272559787 → 253663835868735594330404923636534084567099854 ∣ d - 1 := by
 intro d hd hdN
 refine pockp (N := 4002409555221667393417789825735904156556882819939007885332058136124031650490837864442687629129015664037894272559787) (M := 4002409555221667393417789825735904156556882819939007885332058136124031650490837864442687629129015664037894272559786) (F := 253663835868735594330404923636534084567099854) (a := 2) [2, 3, 11, 23, 47, 10177, 859267, 52437899, 2584487767265781317813] (by decide) (by decide +kernel) hd hdN (by decide +kernel) ?_ ?_
 ·intro t h
  have e : 253663835868735594330404923636534084567099854 = (2 * (3 ^ 2 * (11 * (23 * (47 * (10177 * (859267 * (52437899 * 2584487767265781317813)))))))) := by decide
  rw [e]
  exact Nat.Coprime.mul_left ((h 2 (by decide))) (Nat.Coprime.mul_left (Nat.Coprime.pow_left 2 (h 3 (by decide))) (Nat.Coprime.mul_left ((h 11 (by decide))) (Nat.Coprime.mul_left ((h 23 (by decide))) (Nat.Coprime.mul_left ((h 47 (by decide))) (Nat.Coprime.mul_left ((h 10177 (by decide))) (Nat.Coprime.mul_left ((h 859267 (by decide))) (Nat.Coprime.mul_left ((h 52437899 (by decide))) ((h 2584487767265781317813 (by decide))))))))))
 ·intro q hq
  simp only [List.mem_cons, List.not_mem_nil, or_false] at hq
  rcases hq with rfl | rfl | rfl | rfl | rfl | rfl | rfl | rfl | rfl
  ·exact ⟨prm_2, by decide +kernel, by decide +kernel⟩
  ·exact ⟨prm_3, by decide +kernel, by decide +kernel⟩
  ·exact ⟨prm_11, by decide +kernel, by decide +kernel⟩
  ·exact ⟨prm_23, by decide +kernel, by decide +kernel⟩
  ·exact ⟨prm_47, by decide +kernel, by decide +kernel⟩
  ·exact ⟨prm_10177, by decide +kernel, by decide +kernel⟩
  ·exact ⟨prm_859267, by decide +kernel, by decide +kernel⟩
  ·exact ⟨prm_52437899, by decide +kernel, by decide +kernel⟩
  ·exact ⟨prm_2584487767265781317813, by decide +kernel, by decide +kernel⟩
theorem prm_p : Prm 4002409555221667393417789825735904156556882819939007885332058136124031650490837864442687629129015664037894272559787 := prm_cube (F := 253663835868735594330404923636534084567099854) (c1 := 41045055325326579460269857981194636858402675) (c2 := 62202009562450627810769096) (s := 41045055325326579460269857981194636858402674) (by decide) (by decide) (by decide) (by decide) (by decide) (by decide) (by decide) fac_p
end NT
end Go.Proofs.YtahgdighnlekdaaGreatDoor
end
section
namespace Go.Proofs.YtahgdighnlekdaaGreatDoor
open Go.RowKit
namespace Rg
def pB : Nat := 4002409555221667393417789825735904156556882819939007885332058136124031650490837864442687629129015664037894272559787
theorem pB_0 : wd pB 0 = 13402431016077863595 := by decide +kernel
theorem pB_1 : wd pB 1 = 2210141511517208575 := by decide +kernel
theorem pB_2 : wd pB 2 = 7435674573564081700 := by decide +kernel
theorem pB_3 : wd pB 3 = 7239337960414712511 := by decide +kernel
theorem pB_4 : wd pB 4 = 5412103778470702295 := by decide +kernel
theorem pB_5 : wd pB 5 = 1873798617647539866 := by decide +kernel
theorem pB_lt : pB < big := by
 have h : 4 * pB < big := by decide +kernel
 omega
theorem pB_ok : Ok pB := ⟨by decide +kernel, by decide +kernel, by decide +kernel⟩
theorem ex_build_pB {ρ : Operand → Value} {o : Oper} {w : World} (ho : o.op = .build 24 #[(0, .const (.int .u64 13402431016077863595)), (1, .const (.int .u64 2210141511517208575)), (2, .const (.int .u64 7435674573564081700)), (3, .const (.int .u64 7239337960414712511)), (4, .const (.int .u64 5412103778470702295)), (5, .const (.int .u64 1873798617647539866))]) (h0 : ρ (.const (.int .u64 13402431016077863595)) = .int .u64 13402431016077863595) (h1 : ρ (.const (.int .u64 2210141511517208575)) = .int .u64 2210141511517208575) (h2 : ρ (.const (.int .u64 7435674573564081700)) = .int .u64 7435674573564081700) (h3 : ρ (.const (.int .u64 7239337960414712511)) = .int .u64 7239337960414712511) (h4 : ρ (.const (.int .u64 5412103778470702295)) = .int .u64 5412103778470702295) (h5 : ρ (.const (.int .u64 1873798617647539866)) = .int .u64 1873798617647539866) : (execOp ρ o).run Tryz.prog w = .ok (.value (N pB)) w := by
 have e : N pB = .agg #[.int .u64 13402431016077863595, .int .u64 2210141511517208575, .int .u64 7435674573564081700, .int .u64 7239337960414712511, .int .u64 5412103778470702295, .int .u64 1873798617647539866] := by simp only [N, pB_0, pB_1, pB_2, pB_3, pB_4, pB_5]
 rw [e]
 clear e
 simp only [execOp, ho]
 go_simp
theorem base_pB (w : World) :
  Calls Tryz.prog 70 #[] w (Rt w (N pB)) := by
 have H0 : Hid (_ ∧ _) := ⟨Mm.nil w, Below.refl w.heap.size w⟩
 go_enter Tryz.func70, Tryz.ntmps70
 refine wp_seq ?_
 refine zD 1 [.made zero6 24] (sB H0) ?ho1 ?he1
 case ho1 => exact am (zH rfl) trivial
 intro J w1 l hM hl
 have H1 : Hid (Mm w1 [(J 0, zero6)] ∧ _) := wB H0 hM hl [0]
 have o1_0 := vB H0 hM hl 0
 clear hM hl l
 generalize J 0 = J1_0 at H1 o1_0 ⊢
 clear J
 refine rN (wp_seq ?_)
 refine zB 1 [.q (N pB)] H1 ?ho2 ?he2
 case ho2 => exact ak (fun J => ⟨rfl, fun w' _ => ex_build_pB rfl rfl rfl rfl rfl rfl rfl ⟩) trivial
 intro _ w2 H2
 clear H1
 refine zF (l := [1]) rfl ?_
 refine sG rfl (fun h => zM h 0 rfl rfl rfl rfl (Nat.le_of_ble_eq_true rfl)) 0 [(_, zC pB)] H2 o1_0 fun w3 H3 => ?_
 clear H2
 refine zE (zA (wp_ret ?_))
 repeat (first | refine zJ ?_ | refine zI ?_)
 have c0 := H3.out.1.get 0 rfl 0 rfl
 have c1 := H3.out.1.get 0 rfl 1 rfl
 have c2 := H3.out.1.get 0 rfl 2 rfl
 have c3 := H3.out.1.get 0 rfl 3 rfl
 have c4 := H3.out.1.get 0 rfl 4 rfl
 have c5 := H3.out.1.get 0 rfl 5 rfl
 refine bodyPost_ret (v := N pB) (by simp [results, Tryz.results70, go_sem, *]) rfl ?_
 exact ⟨rfl, H3.out.2⟩
def rB : Nat := 52435875175126190479447740508185965837690552500527637822603658699938581184513
theorem rB_0 : wd rB 0 = 18446744069414584321 := by decide +kernel
theorem rB_1 : wd rB 1 = 6034159408538082302 := by decide +kernel
theorem rB_2 : wd rB 2 = 3691218898639771653 := by decide +kernel
theorem rB_3 : wd rB 3 = 8353516859464449352 := by decide +kernel
theorem rB_4 : wd rB 4 = 0 := by decide +kernel
theorem rB_5 : wd rB 5 = 0 := by decide +kernel
theorem rB_ok : Ok rB := ⟨by decide +kernel, by decide +kernel, by decide +kernel⟩
theorem ex_build_rB {ρ : Operand → Value} {o : Oper} {w : World} (ho : o.op = .build 24 #[(0, .const (.int .u64 18446744069414584321)), (1, .const (.int .u64 6034159408538082302)), (2, .const (.int .u64 3691218898639771653)), (3, .const (.int .u64 8353516859464449352))]) (h0 : ρ (.const (.int .u64 18446744069414584321)) = .int .u64 18446744069414584321) (h1 : ρ (.const (.int .u64 6034159408538082302)) = .int .u64 6034159408538082302) (h2 : ρ (.const (.int .u64 3691218898639771653)) = .int .u64 3691218898639771653) (h3 : ρ (.const (.int .u64 8353516859464449352)) = .int .u64 8353516859464449352) : (execOp ρ o).run Tryz.prog w = .ok (.value (N rB)) w := by
 have e : N rB = .agg #[.int .u64 18446744069414584321, .int .u64 6034159408538082302, .int .u64 3691218898639771653, .int .u64 8353516859464449352, .int .u64 0, .int .u64 0] := by simp only [N, rB_0, rB_1, rB_2, rB_3, rB_4, rB_5]
 rw [e]
 clear e
 simp only [execOp, ho]
 go_simp
theorem base_rB (w : World) :
  Calls Tryz.prog 18 #[] w (Rt w (N rB)) := by
 have H0 : Hid (_ ∧ _) := ⟨Mm.nil w, Below.refl w.heap.size w⟩
 go_enter Tryz.func18, Tryz.ntmps18
 refine wp_seq ?_
 refine zD 1 [.made zero6 24] (sB H0) ?ho1 ?he1
 case ho1 => exact am (zH rfl) trivial
 intro J w1 l hM hl
 have H1 : Hid (Mm w1 [(J 0, zero6)] ∧ _) := wB H0 hM hl [0]
 have o1_0 := vB H0 hM hl 0
 clear hM hl l
 generalize J 0 = J1_0 at H1 o1_0 ⊢
 clear J
 refine rN (wp_seq ?_)
 refine zB 1 [.q (N rB)] H1 ?ho2 ?he2
 case ho2 => exact ak (fun J => ⟨rfl, fun w' _ => ex_build_rB rfl rfl rfl rfl rfl ⟩) trivial
 intro _ w2 H2
 clear H1
 refine zF (l := [1]) rfl ?_
 refine sG rfl (fun h => zM h 0 rfl rfl rfl rfl (Nat.le_of_ble_eq_true rfl)) 0 [(_, zC rB)] H2 o1_0 fun w3 H3 => ?_
 clear H2
 refine zE (zA (wp_ret ?_))
 repeat (first | refine zJ ?_ | refine zI ?_)
 have c0 := H3.out.1.get 0 rfl 0 rfl
 have c1 := H3.out.1.get 0 rfl 1 rfl
 have c2 := H3.out.1.get 0 rfl 2 rfl
 have c3 := H3.out.1.get 0 rfl 3 rfl
 have c4 := H3.out.1.get 0 rfl 4 rfl
 have c5 := H3.out.1.get 0 rfl 5 rfl
 refine bodyPost_ret (v := N rB) (by simp [results, Tryz.results18, go_sem, *]) rfl ?_
 exact ⟨rfl, H3.out.2⟩
/-- A point's cells. -/
abbrev pc1 (a b : Nat) (z : Bool) : List Value := cel [a, b] ++ [Value.bool z]
theorem ex_loadT {ρ : Operand → Value} {o : Oper} {x : Operand} {g off n : Nat} {t : TypeId} {cs ms : List Value} {w : World} {l : List (Nat × List Value)} (h : Mm w l) (q : Nat) (hk : l[q]? = some (g, cs)) (ho : o.op = .load t x) (hx : ρ x = PT g off) (ha : ∀ w, (isAgg t).run Tryz.prog w = .ok true w) (hs : ∀ w, (sizeOf t).run Tryz.prog w = .ok n w) (hc : (cs.drop off).take n = ms) (hl : ms.length = n) :
  (execOp ρ o).run Tryz.prog w = .ok (.value (.agg ms.toArray)) w := by
 have hm := List.mem_of_getElem? hk
 have hcell := run_loadCells_list (P := Tryz.prog) (w := w) ⟨g, off, none⟩ ms (fun j v hv => by
  have e : cs[off + j]? = some v := by
   rw [← List.getElem?_drop]
   rw [← hc, List.getElem?_take] at hv
   split at hv
   ·exact hv
   ·cases hv
  have e2 := h.cell hm e
  rw [show (⟨g, off, none⟩ : Addr).add j = ⟨g, off + j, none⟩ from by unfold Addr.add; split <;> simp_all]
  exact e2)
 rw [hl] at hcell
 have hf : (loadCellsFrom ⟨g, off, none⟩ 0 n #[]).run Tryz.prog w = .ok ms.toArray w := hcell
 clear hcell hc hk hm h
 simp only [execOp, ho, hx]
 go_simp
theorem ex_loadC {ρ : Operand → Value} {o : Oper} {x : Operand} {g off : Nat} {t : TypeId} {v : Value} {cs : List Value} {w : World} {l : List (Nat × List Value)} (h : Mm w l) (k : Nat) (hk : l[k]? = some (g, cs)) (ho : o.op = .load t x) (hx : ρ x = PT g off) (ha : ∀ w, (isAgg t).run Tryz.prog w = .ok false w) (hc : cs[off]? = some v) :
  (execOp ρ o).run Tryz.prog w = .ok (.value v) w := by
 have c0 := h.cell (List.mem_of_getElem? hk) hc
 clear h hk hc
 simp only [execOp, ho, hx]
 go_simp
theorem lC {ρ : Operand → Value} {o : Oper} {x : Operand} {g off : Nat} {t : TypeId} {v : Value} {cs : List Value} {w : World} {l : List (Nat × List Value)} (h : Mm w l) (k : Nat) (ha : ∀ w, (isAgg t).run Tryz.prog w = .ok false w) (hk : l[k]? = some (g, cs) := by exact rfl) (ho : o.op = .load t x := by exact rfl) (hx : ρ x = PT g off := by exact rfl) (hc : cs[off]? = some v := by exact rfl) : (execOp ρ o).run Tryz.prog w = .ok (.value v) w := ex_loadC h k hk ho hx ha hc
theorem lT {ρ : Operand → Value} {o : Oper} {x : Operand} {g off n : Nat} {t : TypeId} {cs ms : List Value} {w : World} {l : List (Nat × List Value)} (h : Mm w l) (q : Nat) (ha : ∀ w, (isAgg t).run Tryz.prog w = .ok true w) (hs : ∀ w, (sizeOf t).run Tryz.prog w = .ok n w) (hk : l[q]? = some (g, cs) := by exact rfl) (ho : o.op = .load t x := by exact rfl) (hx : ρ x = PT g off := by exact rfl) (hc : (cs.drop off).take n = ms := by exact rfl) (hl : ms.length = n := by exact rfl) : (execOp ρ o).run Tryz.prog w = .ok (.value (.agg ms.toArray)) w := ex_loadT h q hk ho hx ha hs hc hl
theorem bC {ops : Array Oper} {L : List (Nat × List Value)} {F : (Nat → Nat) → Act} {o : Oper} {os : List Oper} {ks : List Kind} {x : Operand} {g off : Nat} {cs : List Value} {t : TypeId} {v : Value} (k : Nat) (ha : ∀ w, (isAgg t).run Tryz.prog w = .ok false w) (hs : AllOk Tryz.prog ops (fun w' => Mm w' L) F os ks) (hw : ∀ J, Region.wanted o (yielded ops (F J).tmps) = true := by exact fun _ => rfl) (hk : L[k]? = some (g, cs) := by exact rfl) (ho : o.op = .load t x := by exact rfl) (hx : ∀ J, (F J).eval x = PT g off := by exact fun _ => rfl) (hc : cs[off]? = some v := by exact rfl) : AllOk Tryz.prog ops (fun w' => Mm w' L) F (o :: os) (.q v :: ks) := ⟨fun J => ⟨hw J, fun _ h => ex_loadC h k hk ho (hx J) ha hc⟩, hs⟩
theorem bT {ops : Array Oper} {L : List (Nat × List Value)} {F : (Nat → Nat) → Act} {o : Oper} {os : List Oper} {ks : List Kind} {x : Operand} {g off : Nat} {cs : List Value} {n : Nat} {t : TypeId} {ms : List Value} (k : Nat) (ha : ∀ w, (isAgg t).run Tryz.prog w = .ok true w) (hz : ∀ w, (sizeOf t).run Tryz.prog w = .ok n w) (hs : AllOk Tryz.prog ops (fun w' => Mm w' L) F os ks) (hw : ∀ J, Region.wanted o (yielded ops (F J).tmps) = true := by exact fun _ => rfl) (hk : L[k]? = some (g, cs) := by exact rfl) (ho : o.op = .load t x := by exact rfl) (hx : ∀ J, (F J).eval x = PT g off := by exact fun _ => rfl) (hc : (cs.drop off).take n = ms := by exact rfl) (hl : ms.length = n := by exact rfl) : AllOk Tryz.prog ops (fun w' => Mm w' L) F (o :: os) (.q (.agg ms.toArray) :: ks) := ⟨fun J => ⟨hw J, fun _ h => ex_loadT h k hk ho (hx J) ha hz hc hl⟩, hs⟩
theorem zN {ρ : Operand → Value} {o : Oper} {x : Operand} {t : TypeId} {cs : List Value} {w : World} (ho : o.op = .box t x) (hx : ρ x = .agg cs.toArray) :
  (execOp ρ o).run Tryz.prog w = .ok (.value (.pointer (some ⟨w.heap.size, 0, none⟩))) (w.alloc (.cells cs.toArray t)) := by
 simp only [execOp, ho, hx]
 go_simp
theorem ex_storeT {ρ : Operand → Value} {o : Oper} {x y : Operand} {g off : Nat} {t : TypeId} {cs vs : List Value} {w : World} {l : List (Nat × List Value)} (h : Mm w l) (q : Nat) (hk : l[q]? = some (g, cs)) (ho : o.op = .store t x y) (hx : ρ x = PT g off) (hy : ρ y = .agg vs.toArray) (hs : ∀ w, (sizeOf t).run Tryz.prog w = .ok vs.length w) (h1 : vs.all Value.oneCell' = true) (hb : off + vs.length ≤ cs.length) :
  (execOp ρ o).run Tryz.prog w = .ok .skip (w.setCells g off vs) := by
 have hm := List.mem_of_getElem? hk
 have hq : ∀ j, j < vs.length → ∃ u, cs[off + j]? = some u := fun j hj => ⟨_, List.getElem?_eq_getElem (by omega)⟩
 have hst := run_storeCells_cells (P := Tryz.prog) g off vs 0 w (fun j hj => by
  obtain ⟨u, hu⟩ := hq j hj
  rw [show off + 0 + j = off + j by omega, h.cell hm hu]; rfl) (fun j hj => by
  obtain ⟨u, hu⟩ := hq j hj
  rw [show off + 0 + j = off + j by omega]; exact h.free hm hu) (List.all_eq_true.1 h1)
 clear h hm hq hb hk
 simp only [execOp, ho, hx, hy]
 go_simp
theorem var_T {g n : Nat} {t : TypeId} {cs : List Value} {w : World} {l : List (Nat × List Value)} (h : Mm w l) (q : Nat) (hk : l[q]? = some (g, cs)) (ha : ∀ w, (isAgg t).run Tryz.prog w = .ok true w) (hs : ∀ w, (sizeOf t).run Tryz.prog w = .ok n w) (hn : cs.length = n) : (loadVar t ⟨g, 0, none⟩).run Tryz.prog w = .ok (.agg cs.toArray) w := by
 have hm := List.mem_of_getElem? hk
 have hcell := run_loadCells_list (P := Tryz.prog) (w := w) ⟨g, 0, none⟩ cs (fun j v hv => by
  have e2 := h.cell hm hv
  rw [show (⟨g, 0, none⟩ : Addr).add j = ⟨g, j, none⟩ from by unfold Addr.add; split <;> simp_all]
  exact e2)
 rw [hn] at hcell
 have hf : (loadCellsFrom ⟨g, 0, none⟩ 0 n #[]).run Tryz.prog w = .ok cs.toArray w := hcell
 clear hcell h hk hm
 simp only [loadVar]
 go_simp
theorem ex_makeC {P : Program} {ρ : Operand → Value} {o : Oper} {f : FuncId} {xs : Array Operand} {vs : Array Value} {w : World} (ho : o.op = .makeFunc (.func f) #[] xs) (hx : xs.map ρ = vs) :
  (execOp ρ o).run P w = .ok (.value (.func (.func f) #[] vs)) w := by
 subst hx
 simp only [execOp, ho]
 simp [go_sem, Instr.makeFunc]
theorem ex_makeM {P : Program} {ρ : Operand → Value} {o : Oper} {f : FuncId} {xs : Array Operand} {vs : Array Value} {w : World} (ho : o.op = .makeFunc (.func f) xs #[]) (hx : xs.map ρ = vs) :
  (execOp ρ o).run P w = .ok (.value (.func (.func f) vs #[])) w := by
 subst hx
 simp only [execOp, ho]
 simp [go_sem, Instr.makeFunc]
theorem zO {P : Program} {ρ : Operand → Value} {o : Oper} {f : FuncId} {y : Operand} {xs : Array Operand} {ts : Array TypeId} {fs bs cs args : Array Value} {w : World} (ho : o.op = .call { callee := .value y, args := xs, argTypes := ts }) (hc : ∀ args w, (callFunc f args).run P w = .ok (.enter f args) w) (hf : ρ y = .func (.func f) fs cs) (hx : xs.map ρ = bs) (ha : fs ++ bs ++ cs = args) :
  (execOp ρ o).run P w = .ok (.enter f args) w := by
 subst ha
 simp only [execOp, ho, resolve, hf, hx]
 simp [go_sem, Deferred.ofValue, invoke, hc]
theorem ex_madeTN {ρ : Operand → Value} {o : Oper} {w : World} (ho : o.op = .alloc 137) :
  (execOp ρ o).run Tryz.prog w = .ok (.value (.pointer (some ⟨w.heap.size, 0, none⟩))) (w.alloc (.cells (cel [0, 0, 0]).toArray 137)) := by
 rw [show cel [0, 0, 0] = [.int .u64 0, .int .u64 0, .int .u64 0, .int .u64 0, .int .u64 0, .int .u64 0, .int .u64 0, .int .u64 0, .int .u64 0, .int .u64 0, .int .u64 0, .int .u64 0, .int .u64 0, .int .u64 0, .int .u64 0, .int .u64 0, .int .u64 0, .int .u64 0] from cel_zero 3]
 simp only [execOp, ho]
 go_simp
theorem ex_madeP1 {ρ : Operand → Value} {o : Oper} {w : World} (ho : o.op = .alloc 33) :
  (execOp ρ o).run Tryz.prog w = .ok (.value (.pointer (some ⟨w.heap.size, 0, none⟩))) (w.alloc (.cells (cel [0, 0] ++ [Value.bool false]).toArray 33)) := by
 rw [show cel [0, 0] = [.int .u64 0, .int .u64 0, .int .u64 0, .int .u64 0, .int .u64 0, .int .u64 0, .int .u64 0, .int .u64 0, .int .u64 0, .int .u64 0, .int .u64 0, .int .u64 0] from cel_zero 2]
 simp only [List.cons_append, List.nil_append]
 simp only [execOp, ho]
 go_simp
theorem ex_madePN {ρ : Operand → Value} {o : Oper} {w : World} (ho : o.op = .alloc 95) :
  (execOp ρ o).run Tryz.prog w = .ok (.value (.pointer (some ⟨w.heap.size, 0, none⟩))) (w.alloc (.cells (cel [0, 0] ++ [Value.bool false]).toArray 95)) := by
 rw [show cel [0, 0] = [.int .u64 0, .int .u64 0, .int .u64 0, .int .u64 0, .int .u64 0, .int .u64 0, .int .u64 0, .int .u64 0, .int .u64 0, .int .u64 0, .int .u64 0, .int .u64 0] from cel_zero 2]
 simp only [List.cons_append, List.nil_append]
 simp only [execOp, ho]
 go_simp
theorem ex_madeGN {ρ : Operand → Value} {o : Oper} {w : World} (ho : o.op = .alloc 102) :
  (execOp ρ o).run Tryz.prog w = .ok (.value (.pointer (some ⟨w.heap.size, 0, none⟩))) (w.alloc (.cells ([Value.nilFunc, Value.nilFunc, Value.nilFunc, Value.nilFunc, Value.nilFunc] ++ (cel [0, 0] ++ [Value.nilFunc, Value.int .i64 0])).toArray 102)) := by
 rw [show cel [0, 0] = [.int .u64 0, .int .u64 0, .int .u64 0, .int .u64 0, .int .u64 0, .int .u64 0, .int .u64 0, .int .u64 0, .int .u64 0, .int .u64 0, .int .u64 0, .int .u64 0] from cel_zero 2]
 simp only [List.cons_append, List.nil_append]
 simp only [execOp, ho]
 go_simp
theorem exec_eqT95 {ρ : Operand → Value} {o : Oper} {i j : Tmp} {v v' : Array Value} {t : Bool} {w : World} (he : ∀ w, (Op.equalIn 10000 95 (.agg v) (.agg v')).run Tryz.prog w = .ok t w) (ho : o.op = .binOp .eql 95 (.tmp i) (.tmp j) 95) (hx : ρ (.tmp i) = .agg v) (hy : ρ (.tmp j) = .agg v') :
  (execOp ρ o).run Tryz.prog w = .ok (.value (.bool t)) w := by
 simp only [execOp, ho, hx, hy]
 clear hx hy
 go_simp
theorem exec_eqT33 {ρ : Operand → Value} {o : Oper} {i j : Tmp} {v v' : Array Value} {t : Bool} {w : World} (he : ∀ w, (Op.equalIn 10000 33 (.agg v) (.agg v')).run Tryz.prog w = .ok t w) (ho : o.op = .binOp .eql 33 (.tmp i) (.tmp j) 33) (hx : ρ (.tmp i) = .agg v) (hy : ρ (.tmp j) = .agg v') :
  (execOp ρ o).run Tryz.prog w = .ok (.value (.bool t)) w := by
 simp only [execOp, ho, hx, hy]
 clear hx hy
 go_simp
theorem exec_eqT47 {ρ : Operand → Value} {o : Oper} {i j : Tmp} {v v' : Array Value} {t : Bool} {w : World} (he : ∀ w, (Op.equalIn 10000 47 (.agg v) (.agg v')).run Tryz.prog w = .ok t w) (ho : o.op = .binOp .eql 47 (.tmp i) (.tmp j) 47) (hx : ρ (.tmp i) = .agg v) (hy : ρ (.tmp j) = .agg v') :
  (execOp ρ o).run Tryz.prog w = .ok (.value (.bool t)) w := by
 simp only [execOp, ho, hx, hy]
 clear hx hy
 go_simp
theorem ex_buildPNt {ρ : Operand → Value} {o : Oper} {x2 : Operand} {w : World} (ho : o.op = .build 95 #[(2, x2)]) (h2 : ρ x2 = .bool true) : (execOp ρ o).run Tryz.prog w = .ok (.value (.agg (cel [0, 0] ++ [Value.bool true]).toArray)) w := by
 simp only [execOp, ho, cel, List.cons_append, List.nil_append]
 go_simp
 simp [wd_zero]
theorem ex_buildPNxy {ρ : Operand → Value} {o : Oper} {x0 x1 : Operand} {a b : Nat} {w : World} (ho : o.op = .build 95 #[(0, x0), (1, x1)]) (h0 : ρ x0 = N a) (h1 : ρ x1 = N b) : (execOp ρ o).run Tryz.prog w = .ok (.value (.agg (cel [a, b] ++ [Value.bool false]).toArray)) w := by
 simp only [execOp, ho, cel, List.cons_append, List.nil_append]
 go_simp
theorem ex_buildP1xy {ρ : Operand → Value} {o : Oper} {x0 x1 : Operand} {a b : Nat} {w : World} (ho : o.op = .build 33 #[(0, x0), (1, x1)]) (h0 : ρ x0 = N a) (h1 : ρ x1 = N b) : (execOp ρ o).run Tryz.prog w = .ok (.value (.agg (cel [a, b] ++ [Value.bool false]).toArray)) w := by
 simp only [execOp, ho, cel, List.cons_append, List.nil_append]
 go_simp
theorem ex_buildTN {ρ : Operand → Value} {o : Oper} {x0 x1 x2 : Operand} {a b c : Nat} {w : World} (ho : o.op = .build 137 #[(0, x0), (1, x1), (2, x2)]) (h0 : ρ x0 = N a) (h1 : ρ x1 = N b) (h2 : ρ x2 = N c) : (execOp ρ o).run Tryz.prog w = .ok (.value (.agg (cel [a, b, c]).toArray)) w := by
 simp only [execOp, ho, cel, List.cons_append, List.nil_append]
 go_simp
theorem ex_buildTNy {ρ : Operand → Value} {o : Oper} {x1 : Operand} {a : Nat} {w : World} (ho : o.op = .build 137 #[(1, x1)]) (h1 : ρ x1 = N a) : (execOp ρ o).run Tryz.prog w = .ok (.value (.agg (cel [0, a, 0]).toArray)) w := by
 simp only [execOp, ho, cel, List.cons_append, List.nil_append]
 go_simp
 simp [wd_zero]
/-! Equality. -/
theorem run_eqGD (D a b : Nat) (ha : a < big) (hb : b < big) (w : World) : (Op.equalIn (D + 2) 24 (N a) (N b)).run Tryz.prog w = .ok (decide (a = b)) w := by
 have h := run_eq6' (D + 1) (fun a b w => run_equalIn_int w D 22 .u64 .u64 a b (by kernel_rfl)) (wd a 0) (wd a 1) (wd a 2) (wd a 3) (wd a 4) (wd a 5) (wd b 0) (wd b 1) (wd b 2) (wd b 3) (wd b 4) (wd b 5) w
 rw [num_eq a b ha hb] at h
 exact h
theorem run_eqG2' (d a0 a1 b0 b1 : Nat) (p0 p1 : Bool) (hi0 : ∀ w, (Op.equalIn d 24 (N a0) (N b0)).run Tryz.prog w = .ok p0 w) (hi1 : ∀ w, (Op.equalIn d 24 (N a1) (N b1)).run Tryz.prog w = .ok p1 w) (w : World) :
  (Op.equalIn (d + 1) 45 (V [a0, a1]) (V [b0, b1])).run Tryz.prog w = .ok (p0 && p1) w := by
 have h24 : Tryz.prog.underlying 45 = some (.array 2 24) := by kernel_rfl
 have hsz : ∀ w, (sizeOf 24).run Tryz.prog w = .ok 6 w := fun w => by kernel_rfl
 have hp : ∀ (a b : Nat) (w : World), (Go.part 24 (cel [a, b]).toArray 0).run Tryz.prog w = .ok (N a) w ∧ (Go.part 24 (cel [a, b]).toArray 6).run Tryz.prog w = .ok (N b) w := fun a b w => ⟨by kernel_rfl, by kernel_rfl⟩
 simp only [V, Op.equalIn, Sem.run_bind, run_underlying h24, Result.andThen_ok, hsz]
 simp [Std.Legacy.Range.forIn_eq_forIn_range', List.range', List.forIn_cons, hi0, hi1, hp]
 cases p0 <;> cases p1 <;> simp
theorem run_eqG2 (D a0 a1 b0 b1 : Nat) (ha0 : a0 < big) (ha1 : a1 < big) (hb0 : b0 < big) (hb1 : b1 < big) (w : World) : (Op.equalIn (D + 3) 45 (V [a0, a1]) (V [b0, b1])).run Tryz.prog w = .ok (decide (a0 = b0) && decide (a1 = b1)) w :=
 run_eqG2' (D + 2) a0 a1 b0 b1 _ _ (fun w => run_eqGD D a0 b0 ha0 hb0 w) (fun w => run_eqGD D a1 b1 ha1 hb1 w) w
theorem run_eqB (D : Nat) (a b : Bool) (w : World) : (Op.equalIn (D + 1) 4 (.bool a) (.bool b)).run Tryz.prog w = .ok (a == b) w := by
 simp only [Op.equalIn, Sem.run_bind, run_underlying (show Tryz.prog.underlying 4 = some .bool by kernel_rfl), Result.andThen_ok]
 rfl
theorem run_eqPN' (D a b a' b' : Nat) (z z' p0 p1 p2 : Bool) (hi0 : ∀ w, (Op.equalIn D 24 (N a) (N a')).run Tryz.prog w = .ok p0 w) (hi1 : ∀ w, (Op.equalIn D 24 (N b) (N b')).run Tryz.prog w = .ok p1 w) (hi2 : ∀ w, (Op.equalIn D 4 (.bool z) (.bool z')).run Tryz.prog w = .ok p2 w) (w : World) :
  (Op.equalIn (D + 1) 95 (.agg (cel [a, b] ++ [Value.bool z]).toArray) (.agg (cel [a', b'] ++ [Value.bool z']).toArray)).run Tryz.prog w = .ok (p0 && (p1 && p2)) w := by
 have hst : Tryz.prog.stoodInHeld 95 = false := by kernel_rfl
 have hp : ∀ (a b : Nat) (z : Bool) (w : World), (Go.part 24 (cel [a, b] ++ [Value.bool z]).toArray 0).run Tryz.prog w = .ok (N a) w ∧ (Go.part 24 (cel [a, b] ++ [Value.bool z]).toArray 6).run Tryz.prog w = .ok (N b) w ∧ (Go.part 4 (cel [a, b] ++ [Value.bool z]).toArray 12).run Tryz.prog w = .ok (.bool z) w := fun a b z w => ⟨by kernel_rfl, by kernel_rfl, by kernel_rfl⟩
 have q1 := hp a b z
 have q2 := hp a' b' z'
 clear hp
 generalize (cel [a, b] ++ [Value.bool z]).toArray = xs at *
 generalize (cel [a', b'] ++ [Value.bool z']).toArray = ys at *
 simp only [Op.equalIn, Sem.run_bind, run_underlying Tryz.underlying95, Result.andThen_ok]
 simp [hst, hi0, hi1, hi2, q1, q2]
 cases p0 <;> cases p1 <;> cases p2 <;> simp
theorem run_eqPN (a b a' b' : Nat) (z z' : Bool) (ha : a < big) (hb : b < big) (ha' : a' < big) (hb' : b' < big) (w : World) :
  (Op.equalIn 10000 95 (.agg (cel [a, b] ++ [Value.bool z]).toArray) (.agg (cel [a', b'] ++ [Value.bool z']).toArray)).run Tryz.prog w = .ok (decide (a = a') && (decide (b = b') && (z == z'))) w :=
 run_eqPN' 9999 a b a' b' z z' _ _ _ (fun w => run_eqGD 9997 a a' ha ha' w) (fun w => run_eqGD 9997 b b' hb hb' w) (fun w => run_eqB 9998 z z' w) w
theorem run_eqP2' (D a b c d a' b' c' d' : Nat) (z z' p0 p1 p2 : Bool) (hi0 : ∀ w, (Op.equalIn D 45 (V [a, b]) (V [a', b'])).run Tryz.prog w = .ok p0 w) (hi1 : ∀ w, (Op.equalIn D 45 (V [c, d]) (V [c', d'])).run Tryz.prog w = .ok p1 w) (hi2 : ∀ w, (Op.equalIn D 4 (.bool z) (.bool z')).run Tryz.prog w = .ok p2 w) (w : World) :
  (Op.equalIn (D + 1) 47 (.agg (cel [a, b, c, d] ++ [Value.bool z]).toArray) (.agg (cel [a', b', c', d'] ++ [Value.bool z']).toArray)).run Tryz.prog w = .ok (p0 && (p1 && p2)) w := by
 have hst : Tryz.prog.stoodInHeld 47 = false := by kernel_rfl
 have hp : ∀ (a b c d : Nat) (z : Bool) (w : World), (Go.part 45 (cel [a, b, c, d] ++ [Value.bool z]).toArray 0).run Tryz.prog w = .ok (V [a, b]) w ∧ (Go.part 45 (cel [a, b, c, d] ++ [Value.bool z]).toArray 12).run Tryz.prog w = .ok (V [c, d]) w ∧ (Go.part 4 (cel [a, b, c, d] ++ [Value.bool z]).toArray 24).run Tryz.prog w = .ok (.bool z) w := fun a b c d z w => ⟨by kernel_rfl, by kernel_rfl, by kernel_rfl⟩
 have q1 := hp a b c d z
 have q2 := hp a' b' c' d' z'
 clear hp
 generalize (cel [a, b, c, d] ++ [Value.bool z]).toArray = xs at *
 generalize (cel [a', b', c', d'] ++ [Value.bool z']).toArray = ys at *
 simp only [Op.equalIn, Sem.run_bind, run_underlying Tryz.underlying47, Result.andThen_ok]
 simp [hst, hi0, hi1, hi2, q1, q2]
 cases p0 <;> cases p1 <;> cases p2 <;> simp
theorem run_eqP2 (a b c d a' b' c' d' : Nat) (z z' : Bool) (ha : a < big) (hb : b < big) (hc : c < big) (hd : d < big) (ha' : a' < big) (hb' : b' < big) (hc' : c' < big) (hd' : d' < big) (w : World) :
  (Op.equalIn 10000 47 (.agg (cel [a, b, c, d] ++ [Value.bool z]).toArray) (.agg (cel [a', b', c', d'] ++ [Value.bool z']).toArray)).run Tryz.prog w = .ok ((decide (a = a') && decide (b = b')) && ((decide (c = c') && decide (d = d')) && (z == z'))) w :=
 run_eqP2' 9999 a b c d a' b' c' d' z z' _ _ _ (fun w => run_eqG2 9996 a b a' b' ha hb ha' hb' w) (fun w => run_eqG2 9996 c d c' d' hc hd hc' hd' w) (fun w => run_eqB 9998 z z' w) w
theorem zero_take : (zero6.drop 0).take 6 = zC 0 := by
 rw [show zC 0 = zero6 from cells_zero]
 rfl
abbrev G1 (g : Nat) (tn : Value) (u b : Nat) : List Value := [Value.func (.func 17) #[PT g 0] #[], Value.func (.func 33) #[PT g 0] #[], Value.func (.func 71) #[PT g 0] #[], Value.func (.func 20) #[PT g 0] #[], Value.func (.func 72) #[] #[]] ++ (cel [u, b] ++ [tn, Value.int .i64 2])
/-- What the functions of the first field do. -/
structure Fd1 (g : Nat) {α : Type} (en : α → Nat) (fa fs fm : α → α → α) (fi : α → α) (z : α) : Prop where
 ca : ∀ x y w, Mm w [(g, zQ pB), (0, dtab)] → Calls Tryz.prog 17 #[PT g 0, N (en x), N (en y)] w (Rt w (N (en (fa x y))))
 cs : ∀ x y w, Mm w [(g, zQ pB), (0, dtab)] → Calls Tryz.prog 33 #[PT g 0, N (en x), N (en y)] w (Rt w (N (en (fs x y))))
 cm : ∀ x y w, Mm w [(g, zQ pB), (0, dtab)] → Calls Tryz.prog 71 #[PT g 0, N (en x), N (en y)] w (Rt w (N (en (fm x y))))
 cz : ∀ x w, Mm w [(g, zQ pB), (0, dtab)] → Calls Tryz.prog 33 #[PT g 0, N 0, N (en x)] w (Rt w (N (en (fs z x))))
 ci : ∀ x w, x ≠ z → Mm w [(g, zQ pB), (0, dtab)] → Calls Tryz.prog 20 #[PT g 0, N (en x)] w (Rt w (.tuple #[N (en (fi x)), .int .i64 0]))
theorem Fd1.ka {α : Type} {en : α → Nat} {fa fs fm : α → α → α} {fi : α → α} {z : α} {g : Nat} (C : Fd1 g en fa fs fm fi z) {x y r : α} (e : fa x y = r) (w : World) (hm : Mm w [(g, zQ pB), (0, dtab)]) : Calls Tryz.prog 17 #[PT g 0, N (en x), N (en y)] w (Rt w (N (en r))) := by
 subst e
 exact C.ca x y w hm
theorem Fd1.ks {α : Type} {en : α → Nat} {fa fs fm : α → α → α} {fi : α → α} {z : α} {g : Nat} (C : Fd1 g en fa fs fm fi z) {x y r : α} (e : fs x y = r) (w : World) (hm : Mm w [(g, zQ pB), (0, dtab)]) : Calls Tryz.prog 33 #[PT g 0, N (en x), N (en y)] w (Rt w (N (en r))) := by
 subst e
 exact C.cs x y w hm
theorem Fd1.km {α : Type} {en : α → Nat} {fa fs fm : α → α → α} {fi : α → α} {z : α} {g : Nat} (C : Fd1 g en fa fs fm fi z) {x y r : α} (e : fm x y = r) (w : World) (hm : Mm w [(g, zQ pB), (0, dtab)]) : Calls Tryz.prog 71 #[PT g 0, N (en x), N (en y)] w (Rt w (N (en r))) := by
 subst e
 exact C.cm x y w hm
/-- What the functions of the second field do. -/
structure Fd2 {α : Type} (e0 e1 : α → Nat) (fa fs fm : α → α → α) (fi : α → α) (z : α) : Prop where
 ca : ∀ x y w, Mm w [(0, dtab)] → Calls Tryz.prog 82 #[V [e0 x, e1 x], V [e0 y, e1 y]] w (Rt w (V [e0 (fa x y), e1 (fa x y)]))
 cs : ∀ x y w, Mm w [(0, dtab)] → Calls Tryz.prog 83 #[V [e0 x, e1 x], V [e0 y, e1 y]] w (Rt w (V [e0 (fs x y), e1 (fs x y)]))
 cm : ∀ x y w, Mm w [(0, dtab)] → Calls Tryz.prog 84 #[V [e0 x, e1 x], V [e0 y, e1 y]] w (Rt w (V [e0 (fm x y), e1 (fm x y)]))
 cz : ∀ x w, Mm w [(0, dtab)] → Calls Tryz.prog 83 #[V [0, 0], V [e0 x, e1 x]] w (Rt w (V [e0 (fs z x), e1 (fs z x)]))
 ci : ∀ x w, x ≠ z → Mm w [(0, dtab)] → Calls Tryz.prog 85 #[V [e0 x, e1 x]] w (Rt w (.tuple #[V [e0 (fi x), e1 (fi x)], .int .i64 0]))
theorem Fd2.ka {α : Type} {e0 e1 : α → Nat} {fa fs fm : α → α → α} {fi : α → α} {z : α} (C : Fd2 e0 e1 fa fs fm fi z) {x y r : α} (e : fa x y = r) (w : World) (hm : Mm w [(0, dtab)]) : Calls Tryz.prog 82 #[V [e0 x, e1 x], V [e0 y, e1 y]] w (Rt w (V [e0 r, e1 r])) := by
 subst e
 exact C.ca x y w hm
theorem Fd2.ks {α : Type} {e0 e1 : α → Nat} {fa fs fm : α → α → α} {fi : α → α} {z : α} (C : Fd2 e0 e1 fa fs fm fi z) {x y r : α} (e : fs x y = r) (w : World) (hm : Mm w [(0, dtab)]) : Calls Tryz.prog 83 #[V [e0 x, e1 x], V [e0 y, e1 y]] w (Rt w (V [e0 r, e1 r])) := by
 subst e
 exact C.cs x y w hm
theorem Fd2.km {α : Type} {e0 e1 : α → Nat} {fa fs fm : α → α → α} {fi : α → α} {z : α} (C : Fd2 e0 e1 fa fs fm fi z) {x y r : α} (e : fm x y = r) (w : World) (hm : Mm w [(0, dtab)]) : Calls Tryz.prog 84 #[V [e0 x, e1 x], V [e0 y, e1 y]] w (Rt w (V [e0 r, e1 r])) := by
 subst e
 exact C.cm x y w hm
theorem double_1 {α : Type} {en : α → Nat} {fa fs fm : α → α → α} {fi : α → α} {z u b : α} {g : Nat} {tn : Value} (C : Fd1 g en fa fs fm fi z) (x : α) (w : World) (hm : Mm w [(g, zQ pB), (0, dtab)]) :
  Calls Tryz.prog 124 #[.agg (G1 g tn (en u) (en b)).toArray, N (en x)] w (Rt w (N (en (fa x x)))) := by
 have H0 : Hid (_ ∧ _) := ⟨hm, Below.refl w.heap.size w⟩
 clear hm
 go_enter Tryz.func124, Tryz.ntmps124
 refine wp_seq ?_
 refine zD 3 [.made (G1 g tn (en u) (en b)) 102, .made (zC (en x)) 24, .made zero6 24] (sB H0) ?ho1 ?he1
 case ho1 => exact am (zN rfl rfl) (am (ex_box6 rfl rfl) (am (zH rfl) trivial))
 intro J w1 l hM hl
 have H1 : Hid (Mm w1 ([(J 0, G1 g tn (en u) (en b)), (J 1, zC (en x)), (J 2, zero6)] ++ _) ∧ _) := wB H0 hM hl [0, 1, 2]
 have o1_0 := vB H0 hM hl 0
 have o1_1 := vB H0 hM hl 1
 have o1_2 := vB H0 hM hl 2
 clear hM hl l
 generalize J 0 = J1_0 at H1 o1_0 ⊢
 generalize J 1 = J1_1 at H1 o1_1 ⊢
 generalize J 2 = J1_2 at H1 o1_2 ⊢
 clear J
 refine rN (wp_seq ?_)
 refine zB 6 [.q (PT J1_0 0), .q (PT J1_0 0), .q (.func (.func 17) #[PT g 0] #[]), .q (N (en x)), .q (N (en x)), .call (N (en (fa x x)))] H1 ?ho2 ?he2
 case ho2 => exact ag (ag (bC 0 Ai55 (bN 1 (bN 1 (ac (fun w' h => ⟨17, #[PT g 0, N (en x), N (en x)], zO rfl call17 rfl (mpn rfl) rfl, C.ca _ _ w' (h.two 3 4 rfl rfl (by decide))⟩) trivial)))))
 intro _ w2 H2
 clear H1
 refine zF (l := [6]) rfl ?_
 refine sG rfl (fun h => zM h 2 rfl rfl rfl rfl (Nat.le_of_ble_eq_true rfl)) 2 [_, _, (_, zC (en (fa x x))), _, _] H2 o1_2 fun w3 H3 => ?_
 clear H2
 refine zE (zA (wp_ret ?_))
 repeat (first | refine zJ ?_ | refine zI ?_)
 have c0 := H3.out.1.get 2 rfl 0 rfl
 have c1 := H3.out.1.get 2 rfl 1 rfl
 have c2 := H3.out.1.get 2 rfl 2 rfl
 have c3 := H3.out.1.get 2 rfl 3 rfl
 have c4 := H3.out.1.get 2 rfl 4 rfl
 have c5 := H3.out.1.get 2 rfl 5 rfl
 refine bodyPost_ret (v := N (en (fa x x))) (by simp [results, Tryz.results124, go_sem, *]) rfl ?_
 exact ⟨rfl, H3.out.2⟩
theorem thrice_1 {α : Type} {en : α → Nat} {fa fs fm : α → α → α} {fi : α → α} {z u b : α} {g : Nat} {tn : Value} (C : Fd1 g en fa fs fm fi z) (x : α) (w : World) (hm : Mm w [(g, zQ pB), (0, dtab)]) :
  Calls Tryz.prog 108 #[.agg (G1 g tn (en u) (en b)).toArray, N (en x)] w (Rt w (N (en (fa (fa x x) x)))) := by
 have H0 : Hid (_ ∧ _) := ⟨hm, Below.refl w.heap.size w⟩
 clear hm
 go_enter Tryz.func108, Tryz.ntmps108
 refine wp_seq ?_
 refine zD 3 [.made (G1 g tn (en u) (en b)) 102, .made (zC (en x)) 24, .made zero6 24] (sB H0) ?ho1 ?he1
 case ho1 => exact am (zN rfl rfl) (am (ex_box6 rfl rfl) (am (zH rfl) trivial))
 intro J w1 l hM hl
 have H1 : Hid (Mm w1 ([(J 0, G1 g tn (en u) (en b)), (J 1, zC (en x)), (J 2, zero6)] ++ _) ∧ _) := wB H0 hM hl [0, 1, 2]
 have o1_0 := vB H0 hM hl 0
 have o1_1 := vB H0 hM hl 1
 have o1_2 := vB H0 hM hl 2
 clear hM hl l
 generalize J 0 = J1_0 at H1 o1_0 ⊢
 generalize J 1 = J1_1 at H1 o1_1 ⊢
 generalize J 2 = J1_2 at H1 o1_2 ⊢
 clear J
 refine rN (wp_seq ?_)
 refine zP 8 [.q (PT J1_0 0), .q (PT J1_0 0), .q (.func (.func 17) #[PT g 0] #[]), .q (.agg (G1 g tn (en u) (en b)).toArray), .q (N (en x)), .call (N (en (fa x x))), .q (N (en x)), .call (N (en (fa (fa x x) x)))] H1 ?ho2 ?he2
 case ho2 => exact ag (ag (bC 0 Ai55 (bT 0 Ai102 As102 (bN 1 (ac (fun w' h => eC call124 (double_1 C _ w' (h.two 3 4 rfl rfl (by decide)))) (bN 1 (ac (fun w' h => ⟨17, #[PT g 0, N (en (fa x x)), N (en x)], zO rfl call17 rfl (mpn rfl) rfl, C.ca _ _ w' (h.two 3 4 rfl rfl (by decide))⟩) trivial)))))))
 intro _ w2 H2
 clear H1
 refine zF (l := [8]) rfl ?_
 refine sG rfl (fun h => zM h 2 rfl rfl rfl rfl (Nat.le_of_ble_eq_true rfl)) 2 [_, _, (_, zC (en (fa (fa x x) x))), _, _] H2 o1_2 fun w3 H3 => ?_
 clear H2
 refine zE (zA (wp_ret ?_))
 repeat (first | refine zJ ?_ | refine zI ?_)
 have c0 := H3.out.1.get 2 rfl 0 rfl
 have c1 := H3.out.1.get 2 rfl 1 rfl
 have c2 := H3.out.1.get 2 rfl 2 rfl
 have c3 := H3.out.1.get 2 rfl 3 rfl
 have c4 := H3.out.1.get 2 rfl 4 rfl
 have c5 := H3.out.1.get 2 rfl 5 rfl
 refine bodyPost_ret (v := N (en (fa (fa x x) x))) (by simp [results, Tryz.results108, go_sem, *]) rfl ?_
 exact ⟨rfl, H3.out.2⟩
theorem doubleN_1 {α : Type} {en : α → Nat} {fa fs fm : α → α → α} {fi : α → α} {z u b : α} {g : Nat} {tn : Value} (C : Fd1 g en fa fs fm fi z) {x r : α} (e : fa x x = r) (w : World) (hm : Mm w [(g, zQ pB), (0, dtab)]) : Calls Tryz.prog 124 #[.agg (G1 g tn (en u) (en b)).toArray, N (en x)] w (Rt w (N (en r))) := by
 subst e
 exact double_1 C x w hm
theorem thriceN_1 {α : Type} {en : α → Nat} {fa fs fm : α → α → α} {fi : α → α} {z u b : α} {g : Nat} {tn : Value} (C : Fd1 g en fa fs fm fi z) {x r : α} (e : fa (fa x x) x = r) (w : World) (hm : Mm w [(g, zQ pB), (0, dtab)]) : Calls Tryz.prog 108 #[.agg (G1 g tn (en u) (en b)).toArray, N (en x)] w (Rt w (N (en r))) := by
 subst e
 exact thrice_1 C x w hm
theorem minus_1 {α : Type} {en : α → Nat} {fa fs fm : α → α → α} {fi : α → α} {z u b : α} {g : Nat} {tn : Value} (C : Fd1 g en fa fs fm fi z) (x : α) (w : World) (hm : Mm w [(g, zQ pB), (0, dtab)]) :
  Calls Tryz.prog 81 #[.agg (G1 g tn (en u) (en b)).toArray, N (en x)] w (Rt w (N (en (fs z x)))) := by
 have H0 : Hid (_ ∧ _) := ⟨hm, Below.refl w.heap.size w⟩
 clear hm
 go_enter Tryz.func81, Tryz.ntmps81
 refine wp_seq ?_
 refine zD 3 [.made (G1 g tn (en u) (en b)) 102, .made (zC (en x)) 24, .made zero6 24] (sB H0) ?ho1 ?he1
 case ho1 => exact am (zN rfl rfl) (am (ex_box6 rfl rfl) (am (zH rfl) trivial))
 intro J w1 l hM hl
 have H1 : Hid (Mm w1 ([(J 0, G1 g tn (en u) (en b)), (J 1, zC (en x)), (J 2, zero6)] ++ _) ∧ _) := wB H0 hM hl [0, 1, 2]
 have o1_0 := vB H0 hM hl 0
 have o1_1 := vB H0 hM hl 1
 have o1_2 := vB H0 hM hl 2
 clear hM hl l
 generalize J 0 = J1_0 at H1 o1_0 ⊢
 generalize J 1 = J1_1 at H1 o1_1 ⊢
 generalize J 2 = J1_2 at H1 o1_2 ⊢
 clear J
 refine rN (wp_seq ?_)
 refine zD 1 [.made zero6 24] (sB H1) ?ho2 ?he2
 case ho2 => exact am (zH rfl) trivial
 intro J w2 l hM hl
 have H2 : Hid (Mm w2 ([(J 0, zero6)] ++ _) ∧ _) := wB H1 hM hl [0]
 have o2_0 := vB H1 hM hl 0
 clear hM hl l H1
 generalize J 0 = J2_0 at H2 o2_0 ⊢
 clear J
 refine rN (wp_seq ?_)
 refine zB 6 [.q (PT J1_0 0), .q (PT J1_0 1), .q (.func (.func 33) #[PT g 0] #[]), .q (N 0), .q (N (en x)), .call (N (en (fs z x)))] H2 ?ho3 ?he3
 case ho3 => exact ag (ag (bC 1 Ai55 (aq (fun w' h => zU (v := 0) h 0 rfl rfl rfl zero_take) (bN 2 (ac (fun w' h => ⟨33, #[PT g 0, N 0, N (en x)], zO rfl call33 rfl (mpn rfl) rfl, C.cz _ w' (h.two 4 5 rfl rfl (by decide))⟩) trivial)))))
 intro _ w3 H3
 clear H2
 refine zF (l := [6]) rfl ?_
 refine sG rfl (fun h => zM h 3 rfl rfl rfl rfl (Nat.le_of_ble_eq_true rfl)) 3 [_, _, _, (_, zC (en (fs z x))), _, _] H3 o1_2 fun w4 H4 => ?_
 clear H3
 refine zE (zA (wp_ret ?_))
 repeat (first | refine zJ ?_ | refine zI ?_)
 have c0 := H4.out.1.get 3 rfl 0 rfl
 have c1 := H4.out.1.get 3 rfl 1 rfl
 have c2 := H4.out.1.get 3 rfl 2 rfl
 have c3 := H4.out.1.get 3 rfl 3 rfl
 have c4 := H4.out.1.get 3 rfl 4 rfl
 have c5 := H4.out.1.get 3 rfl 5 rfl
 refine bodyPost_ret (v := N (en (fs z x))) (by simp [results, Tryz.results81, go_sem, *]) rfl ?_
 exact ⟨rfl, H4.out.2⟩
end Rg
end Go.Proofs.YtahgdighnlekdaaGreatDoor
end
