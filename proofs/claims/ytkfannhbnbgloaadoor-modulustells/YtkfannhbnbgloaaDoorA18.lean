/- words.divideStep -/
import Derived.Test.YtkfannhbnbgloaaDoorA17
import Derived.BigQuiet
namespace Go.Proofs.YtkfannhbnbgloaaDoor
open Go.RowKit

abbrev O7 (v : Nat) : Obj := .cells #[.int .u64 (wd v 0), .int .u64 (wd v 1), .int .u64 (wd v 2), .int .u64 (wd v 3), .int .u64 (wd v 4), .int .u64 (wd v 5), .int .u64 (wd v 6)] 65
abbrev Z7 : Obj := .cells #[.int .u64 0, .int .u64 0, .int .u64 0, .int .u64 0, .int .u64 0, .int .u64 0, .int .u64 0] 65

set_option maxHeartbeats 2000000 in
set_option maxRecDepth 100000 in
theorem divideStep_any (r d i s : Nat) (hd0 : 0 < d) (hd : d < 2 ^ (64 * (s + 1))) (hr : r / 2 ^ (64 * i) < d * 18446744073709551616) (his : i + s ≤ 5) (w : World) :
    Calls Tryd.prog 57 #[L7 r, N d, .int .i64 i, .int .i64 ((s : Int) + 1)] w fun e w' =>
      e = .returned (.tuple #[.int .u64 (r / 2 ^ (64 * i) / d : Nat), L7 (glue r i (r / 2 ^ (64 * i) % d))]) ∧ Below w.heap.size w w' := by
  obtain ⟨X, hX⟩ : ∃ X, X = r / 2 ^ (64 * i) := ⟨_, rfl⟩
  obtain ⟨M, hM⟩ : ∃ M, M = 2 ^ (64 * (s + 1 + 1)) := ⟨_, rfl⟩
  have hdM : d * 18446744073709551616 < M := by
    rw [hM, pow_step]
    exact Nat.mul_lt_mul_of_pos_right hd (by decide)
  have hrr : r < 2 ^ (64 * (i + (s + 1 + 1))) := by
    rw [← glue_self r i]
    exact glue_lt r i (s + 1 + 1) _ (by rw [← hM]; omega)
  -- the guess
  obtain ⟨o, ho⟩ : ∃ o, o = gs (wn X (s + 1)) (wn X s) (wn d s) := ⟨_, rfl⟩
  have ho2 : o < 18446744073709551616 := by rw [ho]; exact gs_bd _ _ _ (wn_lt _ _)
  have ho1 : X / d ≤ o := by rw [ho]; exact gs_ge X d s hd0 hd (by rw [hX]; exact hr)
  have hg := fun w => guess_any (wn X (s + 1)) (wn X s) (wn d s) (wn_lt _ _) (wn_lt _ _) w
  rw [← ho, ← wd_wn, ← wd_wn, ← wd_wn, hX, ← wd_off, ← wd_off] at hg
  have HG : Hid _ := hg
  -- taking o times
  have ht := fun w => takeTimes_any r d o i (s + 1) hrr hd ho2 (by omega) (by omega) w
  rw [← hX, ← hM, show (((s + 1 : Nat) : Int)) = (s : Int) + 1 by omega] at ht
  have HT : Hid _ := ht
  have hp := fun (z : Nat) (hz : z < M) w => putBack_any (glue r i z) d i (s + 1) (glue_lt r i (s + 1 + 1) z (by rw [← hM]; exact hz)) hd (by omega) (by omega) w
  rw [← hM, show (((s + 1 : Nat) : Int)) = (s : Int) + 1 by omega] at hp
  have HP : Hid _ := hp
  have HX : Hid (X < d * 18446744073709551616 ∧ 0 < d ∧ d * 18446744073709551616 < M ∧ X / d ≤ o ∧ o < 18446744073709551616) := ⟨by rw [hX]; exact hr, hd0, hdM, ho1, ho2⟩
  rw [← hX]
  clear hX hM hdM hrr ho ho1 ho2 hg ht hp hd0 hd hr
  go_enter Tryd.func57, Tryd.ntmps57
  go_wp2
  have f1 : Row (((w.alloc (O7 r)).alloc (O6 d)).alloc Z7) w.heap.size 7 (wd r) := ((Row.new w _ 65 rfl (seven_lt (f := wd r) rfl)).alloc (by first | omega | (simp <;> omega)) _).alloc (by first | omega | (simp <;> omega)) _
  have f2 : Row (((w.alloc (O7 r)).alloc (O6 d)).alloc Z7) (w.heap.size + 1) 6 (wd d) := (Row.new _ _ 24 (by first | omega | (simp <;> omega)) (six_lt rfl)).alloc (by first | omega | (simp <;> omega)) _
  have f3 : Row (((w.alloc (O7 r)).alloc (O6 d)).alloc Z7) (w.heap.size + 1 + 1) 7 (fun _ => 0) := Row.new _ _ 65 (by first | omega | (simp <;> omega)) (seven_lt (f := fun _ => 0) rfl)
  have f4 : Below w.heap.size w (((w.alloc (O7 r)).alloc (O6 d)).alloc Z7) := (((Below.refl _ _).alloc (Nat.le_refl _) _).alloc (by first | omega | (simp <;> omega)) _).alloc (by first | omega | (simp <;> omega)) _
  have f5 : w.heap.size + 1 + 1 < (((w.alloc (O7 r)).alloc (O6 d)).alloc Z7).heap.size := by simp
  generalize ((w.alloc (O7 r)).alloc (O6 d)).alloc Z7 = wx at f1 f2 f3 f4 f5 ⊢
  have k1 := (f1 (i + (s + 1)) (by omega)).1
  have k2 := (f1 (i + s) (by omega)).1
  have k3 := (f2 s (by omega)).1
  have g1 : (0 : Int) ≤ (i : Int) + ((s : Int) + 1) := by omega
  have g2 : (i : Int) + ((s : Int) + 1) < 7 := by omega
  have e1 : IntKind.i64.wrap ((i : Int) + ((s : Int) + 1)) = (i : Int) + ((s : Int) + 1) := by rw [IntKind.wrap_i64]; omega
  have e2 : IntKind.i64.wrap ((i : Int) + ((s : Int) + 1) - 1) = (i : Int) + (s : Int) := by rw [IntKind.wrap_i64]; omega
  have e3 : IntKind.i64.wrap (s : Int) = (s : Int) := by rw [IntKind.wrap_i64]; omega
  have t1 : ((i : Int) + ((s : Int) + 1)).toNat = i + (s + 1) := by omega
  have t2 : ((i : Int) + (s : Int)).toNat = i + s := by omega
  have g3 : (0 : Int) ≤ (i : Int) + (s : Int) := by omega
  have g4 : (i : Int) + (s : Int) < 7 := by omega
  have g5 : (s : Int) < 6 := by omega
  have HF : Hid (_ ∧ _ ∧ _ ∧ _) := ⟨f1, f2, f3, f4⟩
  obtain ⟨a0, a1, a2, a3, a4, a5, a6⟩ := f1.reads7
  obtain ⟨b0, b1, b2, b3, b4, b5⟩ := f2.reads
  obtain ⟨w0, w1, w2, w3, w4, w5, w6⟩ := f1.writes7
  clear f1 f2 f3 f4
  go_quiet ((go_at_call 69; exact Calls.quiet_of (HG.out _)))
  clear k1 k2 k3 g1 g2 g3 g4 g5 e1 e2 e3 t1 t2
  go_wp2_with fail
  refine (HT.out _).mono ?_
  rintro e wt ⟨rfl, hbt⟩
  have q1 : Row wt w.heap.size 7 (wd r) := Row.below hbt HF.out.1 (show w.heap.size < wx.heap.size by omega)
  have q2 : Row wt (w.heap.size + 1) 6 (wd d) := Row.below hbt HF.out.2.1 (show w.heap.size + 1 < wx.heap.size by omega)
  have q3 : Row wt (w.heap.size + 1 + 1) 7 (fun _ => 0) := Row.below hbt HF.out.2.2.1 (show w.heap.size + 1 + 1 < wx.heap.size by omega)
  have q4 : Below w.heap.size w wt := (below_drewN HF.out.2.2.2 nq).trans (hbt.mono (show w.heap.size ≤ wx.heap.size by omega))
  have q5 : w.heap.size + 1 + 1 < wt.heap.size := Nat.lt_of_lt_of_le f5 hbt.size
  clear hbt a0 a1 a2 a3 a4 a5 a6 b0 b1 b2 b3 b4 b5 w0 w1 w2 w3 w4 w5 w6 f5 HF
  obtain ⟨a0, a1, a2, a3, a4, a5, a6⟩ := q1.reads7
  obtain ⟨w0, w1, w2, w3, w4, w5, w6⟩ := q1.writes7
  have HF : Hid (_ ∧ _ ∧ _ ∧ _ ∧ _) := ⟨q1, q2, q3, q4, q5⟩
  clear q1 q2 q3 q4 q5
  go_wp2
  go_loopw [10, 11] (fun ov bv wr => ∃ o' : Nat, ov = .int .u64 o' ∧ bv = .bool (decide (X < o' * d)) ∧ X / d ≤ o' ∧ o' ≤ o ∧ Row wr w.heap.size 7 (wd (glue r i ((X + M - o' * d) % M))) ∧ Row wr (w.heap.size + 1) 6 (wd d) ∧ Row wr (w.heap.size + 1 + 1) 7 (fun _ => 0) ∧ Below w.heap.size w wr ∧ w.heap.size + 1 + 1 < wr.heap.size) (fun o' _ _ => (intOf o').toNat)
  case atStart =>
    obtain ⟨q1, q2, q3, q4, q5⟩ := HF.out
    exact ⟨o, rfl, rfl, HX.out.2.2.2.1, Nat.le_refl _, q1.store7 (wd (glue r i ((X + M - o * d) % M))), q2.past7 (by omega) _ _ _ _ _ _ _, q3.past7 (by omega) _ _ _ _ _ _ _, below7 q4 (by omega) _ _ _ _ _ _ _, by rw [size7]; exact q5⟩
  case round =>
    clear a0 a1 a2 a3 a4 a5 a6 w0 w1 w2 w3 w4 w5 w6 HF
    obtain ⟨o', rfl, rfl, hge, hle, q1, q2, q3, q4, q5⟩ := hrel
    obtain ⟨a0, a1, a2, a3, a4, a5, a6⟩ := q1.reads7
    obtain ⟨b0, b1, b2, b3, b4, b5⟩ := q2.reads
    by_cases c : X < o' * d
    · have hc : decide (X < o' * d) = true := decide_eq_true c
      obtain ⟨p, rfl⟩ : ∃ p, o' = p + 1 := ⟨o' - 1, by
        have : o' ≠ 0 := by intro h; subst h; rw [Nat.zero_mul] at c; omega
        omega⟩
      obtain ⟨h1, h2, h3, h4, h5⟩ := HX.out
      have hoM : (p + 1) * d ≤ M := by
        have : (p + 1) * d ≤ 18446744073709551616 * d := Nat.mul_le_mul_right d (by omega)
        rw [Nat.mul_comm d] at h3
        omega
      obtain ⟨m1, m2, m3⟩ := mend X d p M c hoM
      have hZ : (X + M - (p + 1) * d) % M < M := Nat.mod_lt _ (by omega)
      have hP := fun w => HP.out _ hZ w
      rw [glue_div, glue_glue] at hP
      have hP2 : Hid (∀ (wz : World), Calls Tryd.prog 71 #[L7 (glue r i ((X + M - (p + 1) * d) % M)), N d, .int .i64 i, .int .i64 ((s : Int) + 1)] wz fun e w' => e = .returned (.tuple #[L7 (glue r i ((X + M - p * d) % M)), .bool (decide (p * d ≤ X))]) ∧ Below wz.heap.size wz w') := by
        intro wz
        have := hP wz
        rw [m1] at this ⊢
        rw [m2, m3] at this
        exact this
      have hp1 : Hid (X / d ≤ p) := by
        have : X / d < p + 1 := (Nat.div_lt_iff_lt_mul h2).2 c
        show X / d ≤ p
        omega
      have HB : Hid (p + 1 ≤ o) := hle
      have HF : Hid (_ ∧ _ ∧ _ ∧ _ ∧ _) := ⟨q1, q2, q3, q4, q5⟩
      have hneg : (!decide (p * d ≤ X)) = decide (X < p * d) := by
        by_cases hx : p * d ≤ X
        · rw [decide_eq_true hx, decide_eq_false (by omega)]; rfl
        · rw [decide_eq_false hx, decide_eq_true (by omega)]; rfl
      have HN : Hid _ := hneg
      have p64 : (p : Int) < 18446744073709551615 := by omega
      have ewp : IntKind.u64.wrap (p : Int) = (p : Int) := Mul64.wrapN p (by omega)
      clear h1 h2 h3 h4 h5 hoM m1 m2 m3 hZ hP hge hle q1 q2 q3 q4 q5 hneg p64 c
      rw [show ((p + 1 : Nat) : Int) = (p : Int) + 1 by omega, hc]
      clear hc
      generalize glue r i ((X + M - (p + 1) * d) % M) = R at a0 a1 a2 a3 a4 a5 a6 hP2 HF ⊢
      go_wp2_with fail
      refine (hP2.out _).mono ?_
      rintro e wt2 ⟨rfl, hbt⟩
      obtain ⟨q1, q2, q3, q4, q5⟩ := HF.out
      have r1 := Row.below hbt q1 (by omega)
      have r2 := Row.below hbt q2 (by omega)
      have r3 := Row.below hbt q3 (by omega)
      have r4 := q4.trans (hbt.mono (by omega))
      have r5 : w.heap.size + 1 + 1 < wt2.heap.size := Nat.lt_of_lt_of_le q5 hbt.size
      clear hbt a0 a1 a2 a3 a4 a5 a6 b0 b1 b2 b3 b4 b5 q1 q2 q3 q4 q5 HF
      obtain ⟨a0, a1, a2, a3, a4, a5, a6⟩ := r1.reads7
      obtain ⟨w0, w1, w2, w3, w4, w5, w6⟩ := r1.writes7
      have HF : Hid (_ ∧ _ ∧ _ ∧ _ ∧ _) := ⟨r1, r2, r3, r4, r5⟩
      clear r1 r2 r3 r4 r5
      go_wp2
      go_roundw
      case rel =>
        obtain ⟨r1, r2, r3, r4, r5⟩ := HF.out
        exact ⟨p, rfl, by rw [HN.out], hp1.out, by have := HB.out; omega, r1.store7 (wd (glue r i ((X + M - p * d) % M))), r2.past7 (by omega) _ _ _ _ _ _ _, r3.past7 (by omega) _ _ _ _ _ _ _, below7 r4 (by omega) _ _ _ _ _ _ _, by rw [size7]; exact r5⟩
      case measure => simp [intOf] <;> omega
    · have hc : decide (X < o' * d) = false := decide_eq_false c
      obtain ⟨h1, h2, h3, h4, h5⟩ := HX.out
      obtain ⟨m1, m2⟩ := mended X d o' M h2 (by omega) hge (by omega)
      rw [m2] at a0 a1 a2 a3 a4 a5 a6
      rw [hc, m1]
      obtain ⟨z0, z1, z2, z3, z4, z5, z6⟩ := q3.writes7
      obtain ⟨y0, y1, y2, y3, y4, y5, y6⟩ := q3.reads7
      have HW : Hid _ := q4
      clear h1 h2 h3 h4 h5 m1 m2 hge hle q1 q2 q3 q4 q5 c hc
      generalize hQ : X / d = Q
      generalize hR : glue r i (X % d) = R at a0 a1 a2 a3 a4 a5 a6 ⊢
      have HQ : Hid _ := hQ
      have HR : Hid _ := hR
      clear hQ hR
      go_wp2
      go_region
      go_wp2
      refine bodyPost_ret (v := .tuple #[.int .u64 (Q : Nat), L7 R]) ?_ rfl ⟨by rw [HQ.out, HR.out], ?_⟩
      · simp [results, Tryd.results57, go_sem, *]
      · exact (below7 HW.out (by omega) _ _ _ _ _ _ _).drew
end Go.Proofs.YtkfannhbnbgloaaDoor
