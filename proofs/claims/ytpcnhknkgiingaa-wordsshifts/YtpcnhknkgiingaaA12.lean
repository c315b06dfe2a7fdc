/- words.shiftLong -/
import Derived.Test.YtpcnhknkgiingaaA11
import Derived.Deep.RegionHeld3
import Derived.Deep.DeepCutAuto
namespace Go.Proofs.Ytpcnhknkgiingaa
open Go.RowKit

theorem div_zero_of (a m : Nat) (ha : a < big) (hm : 384 ≤ m) : a / 2 ^ m = 0 := Nat.div_eq_of_lt (Nat.lt_of_lt_of_le ha (big_le m hm))
theorem shv_high (a n : Nat) (ha : a < big) (hn : n < 64) : shv a ((n : Int) - 384) = a / 2 ^ (384 - n) := by
  unfold shv
  by_cases h : n = 0
  · rw [if_pos (by omega)]
    exact (div_zero_of a (384 - n) ha (by omega)).symm
  · rw [if_neg (by omega), if_pos (by omega)]
    have e : (-((n : Int) - 384)).toNat = 384 - n := by omega
    rw [e]
theorem long_top (a n : Nat) (hn : n < 64) : wd (a / 2 ^ (384 - n)) 0 = wd (a * 2 ^ n) 6 := by
  unfold wd
  rw [Nat.mul_zero, Nat.pow_zero, Nat.div_one]
  have e : 64 * 6 = n + (384 - n) := by omega
  rw [e, Nat.pow_add, ← Nat.div_div_eq_div_mul, Nat.mul_div_cancel _ (Nat.two_pow_pos n)]

/-- The world when shiftLong begins its work. -/
abbrev W0 (w : World) (a : Nat) : World := (w.alloc (.cells #[.int .u64 (wd a 0), .int .u64 (wd a 1), .int .u64 (wd a 2), .int .u64 (wd a 3), .int .u64 (wd a 4), .int .u64 (wd a 5)] 24)).alloc (.cells #[.int .u64 0, .int .u64 0, .int .u64 0, .int .u64 0, .int .u64 0, .int .u64 0, .int .u64 0] 63)

set_option maxHeartbeats 4000000 in
set_option maxRecDepth 100000 in
theorem shiftLong_any (a n : Nat) (ha : a < big) (hn : n < 64) (w : World) :
    Calls Try.prog 45 #[N a, .int .i64 n] w fun e w' => e = .returned (L7 (a * 2 ^ n)) ∧ Below w.heap.size w w' := by
  have c1 := fun w => shift_up a n (by omega) w
  have c2 := fun w => shift_any a ((n : Int) - 384) ha w
  rw [shv_high a n ha hn] at c2
  have ht : Hid _ := long_top a n hn
  generalize a / 2 ^ (384 - n) = hi at c2 ht
  have C1 : Hid _ := c1
  have C2 : Hid _ := c2
  have ew : IntKind.i64.wrap ((n : Int) - 384) = (n : Int) - 384 := by rw [IntKind.wrap_i64]; omega
  clear c1 c2 ha
  go_enter Try.func45, Try.ntmps45
  go_wp2
  go_cut [5, 6] (fun s5 s6 wq => ∃ g5 g6 : Nat, s5 = .pointer (some ⟨g5, 0, none⟩) ∧ s6 = .pointer (some ⟨g6, 0, none⟩) ∧ (wq.cell? ⟨g5, 0, none⟩ = some (.int .u64 (wd (a * 2 ^ n % big) 0)) ∧ wq.cell? ⟨g5, 1, none⟩ = some (.int .u64 (wd (a * 2 ^ n % big) 1)) ∧ wq.cell? ⟨g5, 2, none⟩ = some (.int .u64 (wd (a * 2 ^ n % big) 2)) ∧ wq.cell? ⟨g5, 3, none⟩ = some (.int .u64 (wd (a * 2 ^ n % big) 3)) ∧ wq.cell? ⟨g5, 4, none⟩ = some (.int .u64 (wd (a * 2 ^ n % big) 4)) ∧ wq.cell? ⟨g5, 5, none⟩ = some (.int .u64 (wd (a * 2 ^ n % big) 5)) ∧ wq.cell? ⟨g6, 0, none⟩ = some (.int .u64 (wd hi 0))) ∧ (w.heap.size + 1 < g5 ∧ g5 < wq.heap.size ∧ g6 < wq.heap.size) ∧ Below (w.heap.size + 1 + 1) (W0 w a) wq)
  case first =>
    go_region_held3 (fun w' => w'.cell? ⟨w.heap.size, 0, none⟩ = some (.int .u64 (wd a 0)) ∧ w'.cell? ⟨w.heap.size, 1, none⟩ = some (.int .u64 (wd a 1)) ∧ w'.cell? ⟨w.heap.size, 2, none⟩ = some (.int .u64 (wd a 2)) ∧ w'.cell? ⟨w.heap.size, 3, none⟩ = some (.int .u64 (wd a 3)) ∧ w'.cell? ⟨w.heap.size, 4, none⟩ = some (.int .u64 (wd a 4)) ∧ w'.cell? ⟨w.heap.size, 5, none⟩ = some (.int .u64 (wd a 5)) ∧ w.heap.size < w'.heap.size) (simp [go_sem, *])
      (first
        | (go_at_call_of 19 (Value.int .i64 (n : Int)); refine (C1.out _).mono ?_; rintro e w1 ⟨rfl, hb1⟩; obtain ⟨hc1, hf1⟩ := bcell hb1; have hs1 := hb1.size; (try simp at hs1); (try (by_cases p1_0 : w.heap.size < w1.heap.size; rotate_left; (exfalso; omega); have l1_0 := Nat.le_of_lt p1_0; have m1_0 : w.heap.size ≤ w1.heap.size + 1 := Nat.le_succ_of_le l1_0; have o1_0 : w.heap.size < w1.heap.size + 2 := Nat.lt_succ_of_le m1_0)); (try (by_cases p1_1 : w.heap.size + 1 < w1.heap.size; rotate_left; (exfalso; omega); have l1_1 := Nat.le_of_lt p1_1; have m1_1 : w.heap.size + 1 ≤ w1.heap.size + 1 := Nat.le_succ_of_le l1_1; have o1_1 : w.heap.size + 1 < w1.heap.size + 2 := Nat.lt_succ_of_le m1_1)); (try (by_cases p1_2 : w.heap.size + 1 + 1 < w1.heap.size; rotate_left; (exfalso; omega); have l1_2 := Nat.le_of_lt p1_2; have m1_2 : w.heap.size + 1 + 1 ≤ w1.heap.size + 1 := Nat.le_succ_of_le l1_2; have o1_2 : w.heap.size + 1 + 1 < w1.heap.size + 2 := Nat.lt_succ_of_le m1_2)); (try (by_cases p1_3 : w.heap.size + 1 + 1 + 1 < w1.heap.size; rotate_left; (exfalso; omega); have l1_3 := Nat.le_of_lt p1_3; have m1_3 : w.heap.size + 1 + 1 + 1 ≤ w1.heap.size + 1 := Nat.le_succ_of_le l1_3; have o1_3 : w.heap.size + 1 + 1 + 1 < w1.heap.size + 2 := Nat.lt_succ_of_le m1_3)); clear hs1)
        | (go_at_call 19; refine (C2.out _).mono ?_; rintro e w2 ⟨rfl, hb2⟩; obtain ⟨hc2, hf2⟩ := bcell hb2; have hs2 := hb2.size; (try simp at hs2); (try (by_cases p2_0 : w.heap.size < w2.heap.size; rotate_left; (exfalso; omega); have l2_0 := Nat.le_of_lt p2_0; have m2_0 : w.heap.size ≤ w2.heap.size + 1 := Nat.le_succ_of_le l2_0; have o2_0 : w.heap.size < w2.heap.size + 2 := Nat.lt_succ_of_le m2_0)); (try (by_cases p2_1 : w.heap.size + 1 < w2.heap.size; rotate_left; (exfalso; omega); have l2_1 := Nat.le_of_lt p2_1; have m2_1 : w.heap.size + 1 ≤ w2.heap.size + 1 := Nat.le_succ_of_le l2_1; have o2_1 : w.heap.size + 1 < w2.heap.size + 2 := Nat.lt_succ_of_le m2_1)); (try (by_cases p2_2 : w.heap.size + 1 + 1 < w2.heap.size; rotate_left; (exfalso; omega); have l2_2 := Nat.le_of_lt p2_2; have m2_2 : w.heap.size + 1 + 1 ≤ w2.heap.size + 1 := Nat.le_succ_of_le l2_2; have o2_2 : w.heap.size + 1 + 1 < w2.heap.size + 2 := Nat.lt_succ_of_le m2_2)); (try (by_cases p2_3 : w.heap.size + 1 + 1 + 1 < w2.heap.size; rotate_left; (exfalso; omega); have l2_3 := Nat.le_of_lt p2_3; have m2_3 : w.heap.size + 1 + 1 + 1 ≤ w2.heap.size + 1 := Nat.le_succ_of_le l2_3; have o2_3 : w.heap.size + 1 + 1 + 1 < w2.heap.size + 2 := Nat.lt_succ_of_le m2_3)); (try (by_cases p2_4 : w1.heap.size < w2.heap.size; rotate_left; (exfalso; omega); have l2_4 := Nat.le_of_lt p2_4; have m2_4 : w1.heap.size ≤ w2.heap.size + 1 := Nat.le_succ_of_le l2_4; have o2_4 : w1.heap.size < w2.heap.size + 2 := Nat.lt_succ_of_le m2_4)); (try (by_cases p2_5 : w1.heap.size + 1 < w2.heap.size; rotate_left; (exfalso; omega); have l2_5 := Nat.le_of_lt p2_5; have m2_5 : w1.heap.size + 1 ≤ w2.heap.size + 1 := Nat.le_succ_of_le l2_5; have o2_5 : w1.heap.size + 1 < w2.heap.size + 2 := Nat.lt_succ_of_le m2_5)); clear hs2))
    all_goals
      go_wp2_with fail
      go_meet
      case rel =>
        refine ⟨_, _, rfl, rfl, ?_, ?_, ?_⟩
        · first
            | (simp [go_sem, *]; done)
            | (have v4 := fun o => hc2 w1.heap.size o (by simp <;> omega); have v5 := fun o => hc2 (w1.heap.size + 1) o (by simp <;> omega); simp at v4 v5; simp [go_sem, *])
        · refine ⟨?_, ?_, ?_⟩ <;> (try simp) <;> omega
        · repeat (first | with_reducible exact Below.refl _ _ | with_reducible (refine Below.setCell ?_ (by simp <;> omega) _) | with_reducible (refine Below.drew ?_) | with_reducible (refine Below.alloc ?_ (by first | omega | (simp <;> omega)) _) | with_reducible (refine Below.trans ?_ (hb2.mono (by first | omega | (simp <;> omega)))) | with_reducible (refine Below.trans ?_ (hb1.mono (by first | omega | (simp <;> omega)))))
  case rest =>
    obtain ⟨g5, g6, rfl, rfl, ⟨q0, q1, q2, q3, q4, q5, q6⟩, ⟨hg1, hg2, hg3⟩, hbw⟩ := hcut
    have hS5 : Hid (∀ j, j < 6 → wc.cell? ⟨g5, j, none⟩ = some (.int .u64 (wd (a * 2 ^ n) j))) := by
      intro j hj
      rw [← wd_mod _ _ hj]
      match j, hj with
      | 0, _ => exact q0
      | 1, _ => exact q1
      | 2, _ => exact q2
      | 3, _ => exact q3
      | 4, _ => exact q4
      | 5, _ => exact q5
    have hZ : Row wc (w.heap.size + 1) 7 (fun _ => 0) := Row.below hbw (Row.new _ _ 63 (by first | omega | (simp <;> omega)) (seven_lt (f := fun _ => 0) rfl)) (by omega)
    have hw : Below w.heap.size w wc := (((Below.refl _ _).alloc (Nat.le_refl _) _).alloc (by first | omega | (simp <;> omega)) _).trans (hbw.mono (by omega))
    have HB : Hid (_ ∧ _ ∧ _) := ⟨q6, hZ, hw⟩
    clear q0 q1 q2 q3 q4 q5 q6 hbw hZ hw
    go_wp2
    go_loopw [16] (fun i wr => ∃ k : Nat, k ≤ 6 ∧ i = .int .i64 k ∧ (∀ j, j < 6 → wr.cell? ⟨g5, j, none⟩ = some (.int .u64 (wd (a * 2 ^ n) j))) ∧ wr.cell? ⟨g6, 0, none⟩ = some (.int .u64 (wd hi 0)) ∧ Row wr (w.heap.size + 1) 7 (fun _ => 0) ∧ Row wr wc.heap.size 7 (part (a * 2 ^ n) k) ∧ Below w.heap.size w wr) (fun i _ => 6 - (intOf i).toNat)
    case atStart =>
      obtain ⟨q6, hZ, hw⟩ := HB.out
      refine ⟨0, by omega, rfl, fun j hj => ?_, ?_, hZ.alloc (by omega) _, Row.new _ _ 63 rfl (seven_lt (f := part (a * 2 ^ n) 0) rfl), hw.alloc hw.size _⟩
      · rw [World.cell?_alloc_past _ _ _ hg2]; exact hS5.out j hj
      · rw [World.cell?_alloc_past _ _ _ hg3]; exact q6
    case round =>
      clear HB hS5
      obtain ⟨k, hk, rfl, hA, h6, hZ, hS, hw⟩ := hrel
      by_cases hlt : k < 6
      · obtain ⟨hS1, hS2⟩ := hS k (by omega)
        have hA1 := hA k hlt
        have HM : Hid (_ ∧ _ ∧ _ ∧ _ ∧ _) := ⟨hA, h6, hZ, hS, hw⟩
        clear hA h6 hZ hS hw
        go_wp2
        go_roundw
        case rel =>
          obtain ⟨hA, h6, hZ, hS, hw⟩ := HM.out
          refine ⟨k + 1, by omega, by go_num, fun j hj => ?_, ?_, hZ.set_other _ (by simp <;> omega), (hS.set _).congr (fun j _ => part_step rfl j), hw.setCell (by simp <;> omega) _⟩
          · rw [World.cell?_setCell_other _ _ _ _ (by intro h; injection h with h1 h2; omega)]; exact hA j hj
          · rw [World.cell?_setCell_other _ _ _ _ (by intro h; injection h with h1 h2; omega)]; exact h6
        case measure => simp [intOf] <;> omega
      · have hk6 : k = 6 := by omega
        subst hk6
        obtain ⟨f1, f2⟩ := hS 6 (by omega)
        have hS' := (hS.set (k := 6) (wd hi 0)).congr (f' := wd (a * 2 ^ n)) (fun j hj => by
          unfold upd
          by_cases e : j = 6
          · subst e; rw [if_pos rfl]; exact ht.out
          · rw [if_neg e, part_lt (by omega)])
        obtain ⟨s0, s1, s2, s3, s4, s5, s6⟩ := hS'.reads7
        have hZ' := hZ.set_other (a := ⟨wc.heap.size, 6, none⟩) (.int .u64 (wd hi 0)) (by simp <;> omega)
        obtain ⟨z0, z1, z2, z3, z4, z5, z6⟩ := hZ'.writes7
        obtain ⟨y0, y1, y2, y3, y4, y5, y6⟩ := hZ'.reads7
        have HW : Hid _ := hw.setCell (p := ⟨wc.heap.size, 6, none⟩) (by simp <;> omega) (.int .u64 (wd hi 0))
        clear hA hZ hS hS' hZ' hw
        rw [show ((6 : Nat) : Int) = 6 from rfl]
        go_wp2
        refine bodyPost_ret (v := L7 (a * 2 ^ n)) ?_ rfl ⟨rfl, ?_⟩
        · simp [results, Try.results45, go_sem, *]
        · exact below7 HW.out (by omega) _ _ _ _ _ _ _
end Go.Proofs.Ytpcnhknkgiingaa
