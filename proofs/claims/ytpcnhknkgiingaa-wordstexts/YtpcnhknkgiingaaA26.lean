/- The law WordsBack, walked. -/
import Derived.Test.YtpcnhknkgiingaaA25
import Derived.Test.YtpcnhknkgiingaaA5
namespace Go.Proofs.Ytpcnhknkgiingaa
open Go.RowKit

/-! The plain law. -/
theorem back_sub (a b : Nat) (ha : a < big) (hb : b < big) : ((a + b) % big + big - b) % big = a ∧ decide ((a + b) % big < b) = decide (big ≤ a + b) := by
  by_cases c : big ≤ a + b
  · have e : (a + b) % big = a + b - big := by rw [Nat.mod_eq_sub_mod c, Nat.mod_eq_of_lt (by omega)]
    rw [e, decide_eq_true c, show a + b - big + big - b = a by omega, Nat.mod_eq_of_lt ha]
    exact ⟨rfl, decide_eq_true (by omega)⟩
  · rw [Nat.mod_eq_of_lt (show a + b < big by omega), decide_eq_false c, show a + b + big - b = a + big by omega, Nat.add_mod_right, Nat.mod_eq_of_lt ha]
    exact ⟨rfl, decide_eq_false (by omega)⟩
theorem mod_big (n : Nat) : n % big < big := Nat.mod_lt _ big_pos

set_option maxHeartbeats 4000000 in
set_option maxRecDepth 100000 in
theorem back_any (a b : Nat) (ha : a < big) (hb : b < big) (w : World) :
    Calls Try.prog 5 #[N a, N b] w fun e w' => e = .returned (.bool true) ∧ Below w.heap.size w w' := by
  have c1 := fun w => add_any a b ha hb w
  have c2 := fun w => sub_any ((a + b) % big) b (mod_big _) hb w
  rw [(back_sub a b ha hb).1, (back_sub a b ha hb).2] at c2
  have eaa := fun w => run_eqN a a ha ha w
  simp only [decide_true] at eaa
  have ez0 := fun w => run_eqZ 0 big_pos w
  simp only [decide_true] at ez0
  have ebz := fun w => run_eqZ b hb w
  generalize decide (big ≤ a + b) = c at c1 c2
  generalize (a + b) % big = s at c1 c2
  have C1 : Hid _ := c1
  have C2 : Hid _ := c2
  have AW : Hid _ := awake_any
  have HAB : Hid (a < big ∧ b < big) := ⟨ha, hb⟩
  clear c1 c2 ha hb
  go_enter Try.func5, Try.ntmps5
  go_wp2_with fail
  refine (AW.out _).mono ?_
  rintro e w1 ⟨rfl, hb1⟩
  have R1 := (((Rws.nil w).alloc a rfl).alloc b (g := w.heap.size + 1) (by simp)).below hb1
  have B1 : Below w.heap.size w w1 := (((Below.refl _ _).alloc (Nat.le_refl _) _).alloc (by simp) _).trans (hb1.mono (by simp; omega))
  obtain ⟨pa, a0, a1, a2, a3, a4, a5⟩ := R1.at (g := w.heap.size) (v := a) (by simp)
  obtain ⟨pb, b0, b1, b2, b3, b4, b5⟩ := R1.at (g := w.heap.size + 1) (v := b) (by simp)
  have H1 : Hid (_ ∧ _) := ⟨R1, B1⟩
  clear R1 B1 hb1
  have pa' := pa
  have pb' := pb
  go_wp2_with fail
  refine (C1.out _).mono ?_
  rintro e w2 ⟨rfl, hb2⟩
  have R2 := H1.out.1.below hb2
  have B2 : Below w.heap.size w w2 := H1.out.2.trans (hb2.mono (by first | exact H1.out.2.size | (simp; have := H1.out.2.size; omega)))
  clear pa' pa a0 a1 a2 a3 a4 a5 pb' pb b0 b1 b2 b3 b4 b5
  obtain ⟨pb, b0, b1, b2, b3, b4, b5⟩ := R2.at (g := w.heap.size + 1) (v := b) (by simp)
  have pb' := Nat.lt_of_succ_lt pb
  obtain ⟨pa, a0, a1, a2, a3, a4, a5⟩ := R2.at (g := w.heap.size) (v := a) (by simp)
  have pa' := pa
  have H2 : Hid (_ ∧ _) := ⟨R2, B2⟩
  clear R2 B2 hb2 H1
  go_wp2_with fail
  refine (C2.out _).mono ?_
  rintro e w3 ⟨rfl, hb3⟩
  have R3 := (H2.out.1.alloc s (g := w2.heap.size) (by first | rfl | simp)).below hb3
  have B3 : Below w.heap.size w w3 := (H2.out.2.alloc (by first | exact H2.out.2.size | (simp; have := H2.out.2.size; omega)) (O6 s)).trans (hb3.mono (by first | exact H2.out.2.size | (simp; have := H2.out.2.size; omega)))
  clear pa' pa a0 a1 a2 a3 a4 a5 pb' pb b0 b1 b2 b3 b4 b5
  obtain ⟨pb, b0, b1, b2, b3, b4, b5⟩ := R3.at (g := w.heap.size + 1) (v := b) (by simp)
  have pb' := Nat.lt_of_succ_lt pb
  obtain ⟨pa, a0, a1, a2, a3, a4, a5⟩ := R3.at (g := w.heap.size) (v := a) (by simp)
  have pa' := pa
  have H3 : Hid (_ ∧ _) := ⟨R3, B3⟩
  clear R3 B3 hb3 H2
  obtain ⟨ha, hb⟩ := HAB.out
  by_cases hz : b = 0
  · have hd : decide (b = 0) = true := decide_eq_true hz
    simp only [hd] at ebz
    have c3 := fun w => divide_zero a w
    rw [← hz] at c3
    rw [hz] at c3
    have C3 : Hid (∀ w : World, Calls Try.prog 17 #[N a, N b] w fun e w' => e = .returned (.tuple #[N 0, N 0, .int .i64 2]) ∧ Below w.heap.size w w') := by
      intro w; rw [hz]; exact divide_zero a w
    clear c3 hd hz ha hb
    go_wp2_with fail
    refine (C3.out _).mono ?_
    rintro e w4 ⟨rfl, hb4⟩
    have R4 := (H3.out.1.alloc a (g := w3.heap.size) (by first | rfl | simp)).below hb4
    have B4 : Below w.heap.size w w4 := (H3.out.2.alloc (by first | exact H3.out.2.size | (simp; have := H3.out.2.size; omega)) (O6 a)).trans (hb4.mono (by first | exact H3.out.2.size | (simp; have := H3.out.2.size; omega)))
    clear pa' pa a0 a1 a2 a3 a4 a5 pb' pb b0 b1 b2 b3 b4 b5
    obtain ⟨pb, b0, b1, b2, b3, b4, b5⟩ := R4.at (g := w.heap.size + 1) (v := b) (by simp)
    have pb' := Nat.lt_of_succ_lt pb
    have H4 : Hid (_ ∧ _) := ⟨R4, B4⟩
    clear R4 B4 hb4 H3
    go_wp2
    go_ret
    refine ⟨rfl, ?_⟩
    exact ((H4.out.2.alloc H4.out.2.size (O6 0)).alloc (by simp; have := H4.out.2.size; omega) (O6 0))
  · have hd : decide (b = 0) = false := decide_eq_false hz
    simp only [hd] at ebz
    obtain ⟨q, hq⟩ : ∃ q, q = a / b := ⟨_, rfl⟩
    obtain ⟨r, hr⟩ : ∃ r, r = a % b := ⟨_, rfl⟩
    have hdm : q * b + r = a := by rw [hq, hr, Nat.mul_comm]; exact Nat.div_add_mod a b
    have hrb : r < b := by rw [hr]; exact Nat.mod_lt _ (by omega)
    have hqa : q ≤ a := by rw [hq]; exact Nat.div_le_self _ _
    obtain ⟨p, hp⟩ : ∃ p, p = q * b := ⟨_, rfl⟩
    have c3 := fun w => divide_some a b ha hb hz w
    rw [← hq, ← hr] at c3
    have c4 := fun w => mul_any q b (by omega) hb w
    rw [← hp, Nat.mod_eq_of_lt (show p < big by omega), Nat.div_eq_of_lt (show p < big by omega)] at c4
    have c5 := fun w => add_any p r (by omega) (by omega) w
    rw [show p + r = a by omega, Nat.mod_eq_of_lt ha, decide_eq_false (show ¬ big ≤ a by omega)] at c5
    have c6 := fun w => compare_any r b (by omega) hb w
    have ecmp : cmpv r b = -1 := by unfold cmpv; rw [if_neg (by omega), if_pos hrb]
    rw [ecmp] at c6
    have C3 : Hid _ := c3
    have C4 : Hid _ := c4
    have C5 : Hid _ := c5
    have C6 : Hid _ := c6
    clear c3 c4 c5 c6 hd hz hq hr hdm hrb hqa hp ecmp ha hb
    go_wp2_with fail
    refine (C3.out _).mono ?_
    rintro e w4 ⟨rfl, hb4⟩
    have R4 := (H3.out.1.alloc a (g := w3.heap.size) (by first | rfl | simp)).below hb4
    have B4 : Below w.heap.size w w4 := (H3.out.2.alloc (by first | exact H3.out.2.size | (simp; have := H3.out.2.size; omega)) (O6 a)).trans (hb4.mono (by first | exact H3.out.2.size | (simp; have := H3.out.2.size; omega)))
    clear pa' pa a0 a1 a2 a3 a4 a5 pb' pb b0 b1 b2 b3 b4 b5
    obtain ⟨pb, b0, b1, b2, b3, b4, b5⟩ := R4.at (g := w.heap.size + 1) (v := b) (by simp)
    have pb' := Nat.lt_of_succ_lt pb
    obtain ⟨pa, a0, a1, a2, a3, a4, a5⟩ := R4.at (g := w.heap.size) (v := a) (by simp)
    have pa' := pa
    have H4 : Hid (_ ∧ _) := ⟨R4, B4⟩
    clear R4 B4 hb4 H3
    go_wp2_with fail
    refine (C4.out _).mono ?_
    rintro e w5 ⟨rfl, hb5⟩
    have R5 := ((H4.out.1.alloc q (g := w4.heap.size) (by first | rfl | simp)).alloc r (g := w4.heap.size + 1) (by first | rfl | simp)).below hb5
    have B5 : Below w.heap.size w w5 := ((H4.out.2.alloc (by first | exact H4.out.2.size | (simp; have := H4.out.2.size; omega)) (O6 q)).alloc (by first | exact H4.out.2.size | (simp; have := H4.out.2.size; omega)) (O6 r)).trans (hb5.mono (by first | exact H4.out.2.size | (simp; have := H4.out.2.size; omega)))
    clear pa' pa a0 a1 a2 a3 a4 a5 pb' pb b0 b1 b2 b3 b4 b5
    obtain ⟨pr, r0, r1, r2, r3, r4, r5⟩ := R5.at (g := w4.heap.size + 1) (v := r) (by simp)
    have pr' := Nat.lt_of_succ_lt pr
    obtain ⟨pb, b0, b1, b2, b3, b4, b5⟩ := R5.at (g := w.heap.size + 1) (v := b) (by simp)
    have pb' := Nat.lt_of_succ_lt pb
    obtain ⟨pa, a0, a1, a2, a3, a4, a5⟩ := R5.at (g := w.heap.size) (v := a) (by simp)
    have pa' := pa
    have H5 : Hid (_ ∧ _) := ⟨R5, B5⟩
    clear R5 B5 hb5 H4
    go_wp2_with fail
    refine (C5.out _).mono ?_
    rintro e w6 ⟨rfl, hb6⟩
    have R6 := ((H5.out.1.alloc p (g := w5.heap.size) (by first | rfl | simp)).alloc 0 (g := w5.heap.size + 1) (by first | rfl | simp)).below hb6
    have B6 : Below w.heap.size w w6 := ((H5.out.2.alloc (by first | exact H5.out.2.size | (simp; have := H5.out.2.size; omega)) (O6 p)).alloc (by first | exact H5.out.2.size | (simp; have := H5.out.2.size; omega)) (O6 0)).trans (hb6.mono (by first | exact H5.out.2.size | (simp; have := H5.out.2.size; omega)))
    clear pa' pa a0 a1 a2 a3 a4 a5 pb' pb b0 b1 b2 b3 b4 b5 pr' pr r0 r1 r2 r3 r4 r5
    obtain ⟨pr, r0, r1, r2, r3, r4, r5⟩ := R6.at (g := w4.heap.size + 1) (v := r) (by simp)
    have pr' := Nat.lt_of_succ_lt pr
    obtain ⟨pb, b0, b1, b2, b3, b4, b5⟩ := R6.at (g := w.heap.size + 1) (v := b) (by simp)
    have pb' := Nat.lt_of_succ_lt pb
    obtain ⟨pa, a0, a1, a2, a3, a4, a5⟩ := R6.at (g := w.heap.size) (v := a) (by simp)
    have pa' := pa
    obtain ⟨pz, z0, z1, z2, z3, z4, z5⟩ := R6.at (g := w5.heap.size + 1) (v := 0) (by simp)
    have pz' := Nat.lt_of_succ_lt pz
    have H6 : Hid (_ ∧ _) := ⟨R6, B6⟩
    clear R6 B6 hb6 H5
    go_wp2_with fail
    refine (C6.out _).mono ?_
    rintro e w7 ⟨rfl, hb7⟩
    have R7 := (H6.out.1.alloc a (g := w6.heap.size) (by first | rfl | simp)).below hb7
    have B7 : Below w.heap.size w w7 := (H6.out.2.alloc (by first | exact H6.out.2.size | (simp; have := H6.out.2.size; omega)) (O6 a)).trans (hb7.mono (by first | exact H6.out.2.size | (simp; have := H6.out.2.size; omega)))
    clear pa' pa a0 a1 a2 a3 a4 a5 pb' pb b0 b1 b2 b3 b4 b5 pr' pr r0 r1 r2 r3 r4 r5 pz' pz z0 z1 z2 z3 z4 z5
    have H7 : Hid (_ ∧ _) := ⟨R7, B7⟩
    clear R7 B7 hb7 H6
    go_wp2
    go_ret
    exact ⟨rfl, H7.out.2⟩
end Go.Proofs.Ytpcnhknkgiingaa
