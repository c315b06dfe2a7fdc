/- words.takeTimes, words.putBack -/
import Derived.Test.YtkfannhbnbgloaaDoorA9
import Derived.BigRegion
namespace Go.Proofs.YtkfannhbnbgloaaDoor
open Go.RowKit

set_option maxHeartbeats 1000000 in
set_option maxRecDepth 100000 in
theorem takeTimes_any (r d q i s : Nat) (hr : r < 2 ^ (64 * (i + (s + 1)))) (hd : d < 2 ^ (64 * s)) (hq : q < 18446744073709551616) (his : i + s + 1 ≤ 7) (hs : s ≤ 6) (w : World) :
    Calls Tryd.prog 70 #[L7 r, N d, .int .u64 q, .int .i64 i, .int .i64 s] w fun e w' =>
      e = .returned (.tuple #[L7 (glue r i ((r / 2 ^ (64 * i) + 2 ^ (64 * (s + 1)) - q * d) % 2 ^ (64 * (s + 1)))), .bool (decide (r / 2 ^ (64 * i) < q * d))]) ∧ Below w.heap.size w w' := by
  have HR : Hid _ := hr
  have HD : Hid _ := hd
  have HQ : Hid _ := hq
  obtain ⟨Y, hY⟩ : ∃ Y, Y = r / 2 ^ (64 * i) + 2 ^ (64 * (s + 1)) - q * d := ⟨_, rfl⟩
  have HY : Hid _ := hY
  rw [← hY]
  clear hr hd hq hY
  go_enter Tryd.func70, Tryd.ntmps70
  go_wp2
  go_loopw [12, 13, 17] (fun c b kv wr => ∃ k : Nat, k ≤ s ∧ kv = .int .i64 k ∧ c = .int .u64 (tc d q k) ∧ b = .int .u64 (brw (r / 2 ^ (64 * i)) (q * d) k) ∧ Row wr w.heap.size 7 (gl r Y i k) ∧ Row wr (w.heap.size + 1) 6 (wd d) ∧ Row wr (w.heap.size + 1 + 1) 7 (fun _ => 0) ∧ Below w.heap.size w wr) (fun _ _ k _ => s - (intOf k).toNat)
  case atStart =>
    refine ⟨0, by omega, rfl, by rw [tc_zero], by simp [brw, Nat.mod_one], ?_, ?_, ?_, ?_⟩
    · exact (((Row.new w _ 65 rfl (seven_lt (f := wd r) rfl)).congr (fun j _ => (gl_zero r Y i j).symm)).alloc (by first | omega | (simp <;> omega)) _).alloc (by first | omega | (simp <;> omega)) _
    · exact (Row.new _ _ 24 (by first | omega | (simp <;> omega)) (six_lt rfl)).alloc (by first | omega | (simp <;> omega)) _
    · exact Row.new _ _ 65 (by first | omega | (simp <;> omega)) (seven_lt (f := fun _ => 0) rfl)
    · exact (((Below.refl _ _).alloc (Nat.le_refl _) _).alloc (by first | omega | (simp <;> omega)) _).alloc (by first | omega | (simp <;> omega)) _
  case round =>
    obtain ⟨k, hk, rfl, rfl, rfl, hA, hB, hZ, hw⟩ := hrel
    by_cases hlt : k < s
    · obtain ⟨hA1, hA2⟩ := hA (i + k) (by omega)
      rw [gl_at] at hA1
      have hB1 := (hB k (by omega)).1
      have HM : Hid (_ ∧ _ ∧ _ ∧ _) := ⟨hA, hB, hZ, hw⟩
      have hc := fun w => mulAdd_any (wd d k) q 0 (tc d q k) (wd_bd _ _).1 (wd_bd _ _).2 (Int.natCast_nonneg q) (Int.ofNat_lt.2 HQ.out) (by omega) (by omega) (tc_bd d q k HQ.out).1 (tc_bd d q k HQ.out).2 w
      have HC : Hid _ := hc
      have h64 := fun w => sub64' (wd r (i + k)) (mulLo (wd d k) q 0 (tc d q k)) (brw (r / 2 ^ (64 * i)) (q * d) k) (wd_bd _ _).1 (by unfold mulLo; omega) (by unfold mulLo; omega) (brw_bd _ _ _).1 (brw_bd _ _ _).2 w
      clear hA hB hZ hw hc
      go_wp2_with (go_at_call 55; refine (HC.out _).mono ?_; rintro e w' ⟨rfl, rfl⟩)
      go_roundw
      case rel =>
        obtain ⟨hA, hB, hZ, hw⟩ := HM.out
        refine ⟨k + 1, by omega, by go_num, by rw [tm_hi], ?_, ?_, hB.set_other _ (by simp <;> omega), hZ.set_other _ (by simp <;> omega), hw.setCell (by simp <;> omega) _⟩
        · rw [tm_lo, wd_off, sub_cry]
        · refine (hA.set _).congr (fun j _ => gl_step r Y i k j ?_)
          rw [tm_lo, wd_off, HY.out, sub_word' _ _ _ (s + 1) (by omega) (tq_lt d q s HD.out HQ.out)]
      case measure => simp [intOf] <;> omega
    · have hks : k = s := by omega
      subst hks
      obtain ⟨hA1, hA2⟩ := hA (i + k) (by omega)
      rw [gl_at] at hA1
      have h64 := fun w => sub64' (wd r (i + k)) (tc d q k) (brw (r / 2 ^ (64 * i)) (q * d) k) (wd_bd _ _).1 (tc_bd d q k HQ.out).1 (tc_bd d q k HQ.out).2 (brw_bd _ _ _).1 (brw_bd _ _ _).2 w
      have e1 : bor (wd r (i + k)) (tc d q k + brw (r / 2 ^ (64 * i)) (q * d) k) = brw (r / 2 ^ (64 * i)) (q * d) (k + 1) := by
        rw [tc_end d q k HD.out HQ.out, wd_off, sub_cry]
      have e2 : subLo (wd r (i + k)) (tc d q k) (brw (r / 2 ^ (64 * i)) (q * d) k) = wd Y k := by
        rw [tc_end d q k HD.out HQ.out, wd_off, HY.out, sub_word' _ _ _ (k + 1) (by omega) (tq_lt d q k HD.out HQ.out)]
      have e3 : (brw (r / 2 ^ (64 * i)) (q * d) (k + 1) != 0) = decide (r / 2 ^ (64 * i) < q * d) := brw_fin _ _ _ (off_lt r i (k + 1) HR.out) (tq_lt d q k HD.out HQ.out)
      have E : Hid _ := e3
      rw [e1, e2] at h64
      have hA' : Row (wr.setCell ⟨w.heap.size, i + k, none⟩ (.int .u64 (wd Y k))) w.heap.size 7 (wd (glue r i (Y % 2 ^ (64 * (k + 1))))) := (hA.set _).congr (fun j _ => (gl_step r Y i k j rfl).trans (gl_end r Y i (k + 1) j HR.out))
      obtain ⟨s0, s1, s2, s3, s4, s5, s6⟩ := hA'.reads7
      have hZ' := hZ.set_other (a := ⟨w.heap.size, i + k, none⟩) (.int .u64 (wd Y k)) (by simp <;> omega)
      obtain ⟨z0, z1, z2, z3, z4, z5, z6⟩ := hZ'.writes7
      obtain ⟨y0, y1, y2, y3, y4, y5, y6⟩ := hZ'.reads7
      have HW : Hid _ := hw.setCell (p := ⟨w.heap.size, i + k, none⟩) (by simp <;> omega) (.int .u64 (wd Y k))
      clear hA hB hZ e1 e2 e3 hA' hZ' hw
      go_wp2
      rw [E.out]
      refine bodyPost_ret (v := .tuple #[L7 (glue r i (Y % 2 ^ (64 * (k + 1)))), .bool (decide (r / 2 ^ (64 * i) < q * d))]) ?_ rfl ⟨rfl, ?_⟩
      · simp [results, Tryd.results70, go_sem, *]
      · exact below7 HW.out (by omega) _ _ _ _ _ _ _

set_option maxHeartbeats 1000000 in
set_option maxRecDepth 100000 in
theorem putBack_any (r d i s : Nat) (hr : r < 2 ^ (64 * (i + (s + 1)))) (hd : d < 2 ^ (64 * s)) (his : i + s + 1 ≤ 7) (hs : s ≤ 6) (w : World) :
    Calls Tryd.prog 71 #[L7 r, N d, .int .i64 i, .int .i64 s] w fun e w' =>
      e = .returned (.tuple #[L7 (glue r i ((r / 2 ^ (64 * i) + d) % 2 ^ (64 * (s + 1)))), .bool (decide (2 ^ (64 * (s + 1)) ≤ r / 2 ^ (64 * i) + d))]) ∧ Below w.heap.size w w' := by
  have HR : Hid _ := hr
  have HD : Hid _ := hd
  obtain ⟨Y, hY⟩ : ∃ Y, Y = r / 2 ^ (64 * i) + d := ⟨_, rfl⟩
  have HY : Hid _ := hY
  obtain ⟨X, hX⟩ : ∃ X, X = r / 2 ^ (64 * i) := ⟨_, rfl⟩
  have HX : Hid _ := hX
  rw [← hY]
  clear hr hd hY hX
  go_enter Tryd.func71, Tryd.ntmps71
  go_wp2
  go_loopw [10, 13] (fun c kv wr => ∃ k : Nat, k ≤ s ∧ kv = .int .i64 k ∧ c = .int .u64 (cry X d k) ∧ Row wr w.heap.size 7 (gl r Y i k) ∧ Row wr (w.heap.size + 1) 6 (wd d) ∧ Row wr (w.heap.size + 1 + 1) 7 (fun _ => 0) ∧ Below w.heap.size w wr) (fun _ k _ => s - (intOf k).toNat)
  case atStart =>
    refine ⟨0, by omega, rfl, by simp [cry], ?_, ?_, ?_, ?_⟩
    · exact (((Row.new w _ 65 rfl (seven_lt (f := wd r) rfl)).congr (fun j _ => (gl_zero r Y i j).symm)).alloc (by first | omega | (simp <;> omega)) _).alloc (by first | omega | (simp <;> omega)) _
    · exact (Row.new _ _ 24 (by first | omega | (simp <;> omega)) (six_lt rfl)).alloc (by first | omega | (simp <;> omega)) _
    · exact Row.new _ _ 65 (by first | omega | (simp <;> omega)) (seven_lt (f := fun _ => 0) rfl)
    · exact (((Below.refl _ _).alloc (Nat.le_refl _) _).alloc (by first | omega | (simp <;> omega)) _).alloc (by first | omega | (simp <;> omega)) _
  case round =>
    obtain ⟨k, hk, rfl, rfl, hA, hB, hZ, hw⟩ := hrel
    by_cases hlt : k < s
    · obtain ⟨hA1, hA2⟩ := hA (i + k) (by omega)
      rw [gl_at] at hA1
      have hB1 := (hB k (by omega)).1
      have HM : Hid (_ ∧ _ ∧ _ ∧ _) := ⟨hA, hB, hZ, hw⟩
      have h64 := fun w => add64' (wd r (i + k)) (wd d k) (cry X d k) (wd_bd _ _).1 (wd_bd _ _).1 (cry_bd _ _ _).1 (cry_bd _ _ _).2 w
      clear hA hB hZ hw
      go_wp2
      go_region
      go_wp2
      go_roundw
      case rel =>
        obtain ⟨hA, hB, hZ, hw⟩ := HM.out
        refine ⟨k + 1, by omega, by go_num, ?_, ?_, (hB.set_other _ (by simp <;> omega)).drew, (hZ.set_other _ (by simp <;> omega)).drew, (hw.setCell (by simp <;> omega) _).drew⟩
        · rw [wd_off, ← HX.out, add_cry]
        · refine ((hA.set _).congr (fun j _ => gl_step r Y i k j ?_)).drew
          rw [wd_off, ← HX.out, add_word, HY.out, ← HX.out]
      case measure => simp [intOf] <;> omega
    · have hks : k = s := by omega
      subst hks
      obtain ⟨hA1, hA2⟩ := hA (i + k) (by omega)
      rw [gl_at] at hA1
      have h64 := fun w => add64' (wd r (i + k)) 0 (cry X d k) (wd_bd _ _).1 (by omega) (cry_bd _ _ _).1 (cry_bd _ _ _).2 w
      have ez : wd d k = 0 := wd_top' d k k HD.out (Nat.le_refl _)
      have e1 : addHi (wd r (i + k)) 0 (cry X d k) = cry X d (k + 1) := by
        rw [← ez, wd_off, ← HX.out, add_cry]
      have e2 : addLo (wd r (i + k)) 0 (cry X d k) = wd Y k := by
        rw [← ez, wd_off, ← HX.out, add_word, HY.out, ← HX.out]
      have e3 : (cry X d (k + 1) != 0) = decide (2 ^ (64 * (k + 1)) ≤ Y) := by
        rw [HY.out, ← HX.out]
        exact cry_fin _ _ _ (by rw [HX.out]; exact off_lt r i (k + 1) HR.out) (Nat.lt_of_lt_of_le HD.out (pow_mono k (k + 1) (by omega)))
      have E : Hid _ := e3
      rw [e1, e2] at h64
      have hA' : Row (wr.setCell ⟨w.heap.size, i + k, none⟩ (.int .u64 (wd Y k))) w.heap.size 7 (wd (glue r i (Y % 2 ^ (64 * (k + 1))))) := (hA.set _).congr (fun j _ => (gl_step r Y i k j rfl).trans (gl_end r Y i (k + 1) j HR.out))
      obtain ⟨s0, s1, s2, s3, s4, s5, s6⟩ := hA'.reads7
      have hZ' := hZ.set_other (a := ⟨w.heap.size, i + k, none⟩) (.int .u64 (wd Y k)) (by simp <;> omega)
      obtain ⟨z0, z1, z2, z3, z4, z5, z6⟩ := hZ'.writes7
      obtain ⟨y0, y1, y2, y3, y4, y5, y6⟩ := hZ'.reads7
      have HW : Hid _ := hw.setCell (p := ⟨w.heap.size, i + k, none⟩) (by simp <;> omega) (.int .u64 (wd Y k))
      clear hA hB hZ ez e1 e2 e3 hA' hZ' hw
      go_wp2
      rw [E.out]
      refine bodyPost_ret (v := .tuple #[L7 (glue r i (Y % 2 ^ (64 * (k + 1)))), .bool (decide (2 ^ (64 * (k + 1)) ≤ Y))]) ?_ rfl ⟨rfl, ?_⟩
      · simp [results, Tryd.results71, go_sem, *]
      · exact below7 HW.out (by omega) _ _ _ _ _ _ _
end Go.Proofs.YtkfannhbnbgloaaDoor
