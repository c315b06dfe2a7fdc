/- The law WordsRing, walked. -/
import Derived.Test.YtpcnhknkgiingaaA26
namespace Go.Proofs.Ytpcnhknkgiingaa
open Go.RowKit

theorem ring_mod (a b c M : Nat) : (a * c % M + b * c % M) % M = (a + b) % M * c % M := by
  rw [← Nat.add_mod, Nat.mod_mul_mod, Nat.add_mul]

set_option maxHeartbeats 4000000 in
set_option maxRecDepth 100000 in
theorem ring_any (a b c : Nat) (ha : a < big) (hb : b < big) (hc : c < big) (w : World) :
    Calls Try.prog 6 #[N a, N b, N c] w fun e w' => e = .returned (.bool true) ∧ Below w.heap.size w w' := by
  have c1 := fun w => add_any a b ha hb w
  have c2 := fun w => add_any b a hb ha w
  rw [Nat.add_comm b a] at c2
  have c3 := fun w => mul_any a b ha hb w
  have c4 := fun w => mul_any b a hb ha w
  rw [Nat.mul_comm b a] at c4
  have c5 := fun w => mul_any a c ha hc w
  have c6 := fun w => mul_any b c hb hc w
  have c7 := fun w => add_any (a * c % big) (b * c % big) (mod_big _) (mod_big _) w
  have c8 := fun w => mul_any ((a + b) % big) c (mod_big _) hc w
  rw [ring_mod a b c big] at c7
  have es := fun w => run_eqN ((a + b) % big) ((a + b) % big) (mod_big _) (mod_big _) w
  have em := fun w => run_eqN (a * b % big) (a * b % big) (mod_big _) (mod_big _) w
  have hh : a * b / big < big := Nat.div_lt_of_lt_mul (Nat.mul_lt_mul_of_lt_of_lt ha hb)
  have en := fun w => run_eqN (a * b / big) (a * b / big) hh hh w
  have et := fun w => run_eqN ((a + b) % big * c % big) ((a + b) % big * c % big) (mod_big _) (mod_big _) w
  simp only [decide_true] at es em en et
  generalize (a + b) % big * c % big = t at c7 c8 et
  generalize (a + b) % big = s at c1 c2 c8 es
  generalize a * b % big = m at c3 c4 em
  generalize a * b / big = n at c3 c4 en hh
  generalize a * c % big = l at c5 c7
  generalize b * c % big = r at c6 c7
  generalize a * c / big = l2 at c5
  generalize b * c / big = r2 at c6
  generalize s * c / big = u at c8
  have C1 : Hid _ := c1
  have C2 : Hid _ := c2
  have C3 : Hid _ := c3
  have C4 : Hid _ := c4
  have C5 : Hid _ := c5
  have C6 : Hid _ := c6
  have C7 : Hid _ := c7
  have C8 : Hid _ := c8
  have AW : Hid _ := awake_any
  clear c1 c2 c3 c4 c5 c6 c7 c8 hh ha hb hc
  go_enter Try.func6, Try.ntmps6
  go_wp2_with fail
  refine (AW.out _).mono ?_
  rintro e w1 ⟨rfl, hb1⟩
  have R1 := ((((Rws.nil w).alloc a rfl).alloc b (g := w.heap.size + 1) (by simp)).alloc c (g := w.heap.size + 1 + 1) (by simp)).below hb1
  have B1 : Below w.heap.size w w1 := ((((Below.refl _ _).alloc (Nat.le_refl _) _).alloc (by simp) _).alloc (by simp; omega) _).trans (hb1.mono (by simp; omega))
  obtain ⟨pc, c0, c1, c2, c3, c4, c5⟩ := R1.at (g := w.heap.size + 1 + 1) (v := c) (by simp)
  have pc' := (by have := pc; omega : w.heap.size + 1 < w1.heap.size)
  obtain ⟨pb, b0, b1, b2, b3, b4, b5⟩ := R1.at (g := w.heap.size + 1) (v := b) (by simp)
  have pb' := (by have := pb; omega : w.heap.size < w1.heap.size)
  obtain ⟨pa, a0, a1, a2, a3, a4, a5⟩ := R1.at (g := w.heap.size) (v := a) (by simp)
  have pa' := pa
  have H1 : Hid (_ ∧ _) := ⟨R1, B1⟩
  clear R1 B1 hb1
  go_wp2_with fail
  refine (C1.out _).mono ?_
  rintro e w2 ⟨rfl, hb2⟩
  have R2 := H1.out.1.below hb2
  have B2 : Below w.heap.size w w2 := H1.out.2.trans (hb2.mono (by first | exact H1.out.2.size | (simp; have := H1.out.2.size; omega)))
  clear pa' pa a0 a1 a2 a3 a4 a5 pb' pb b0 b1 b2 b3 b4 b5 pc' pc c0 c1 c2 c3 c4 c5
  obtain ⟨pc, c0, c1, c2, c3, c4, c5⟩ := R2.at (g := w.heap.size + 1 + 1) (v := c) (by simp)
  have pc' := (by have := pc; omega : w.heap.size + 1 < w2.heap.size)
  obtain ⟨pb, b0, b1, b2, b3, b4, b5⟩ := R2.at (g := w.heap.size + 1) (v := b) (by simp)
  have pb' := (by have := pb; omega : w.heap.size < w2.heap.size)
  obtain ⟨pa, a0, a1, a2, a3, a4, a5⟩ := R2.at (g := w.heap.size) (v := a) (by simp)
  have pa' := pa
  have H2 : Hid (_ ∧ _) := ⟨R2, B2⟩
  clear R2 B2 hb2 H1
  go_wp2_with fail
  refine (C2.out _).mono ?_
  rintro e w3 ⟨rfl, hb3⟩
  have R3 := (H2.out.1.alloc s (g := w2.heap.size) (by first | rfl | simp)).below hb3
  have B3 : Below w.heap.size w w3 := (H2.out.2.alloc (by first | exact H2.out.2.size | (simp; have := H2.out.2.size; omega)) (O6 s)).trans (hb3.mono (by first | exact H2.out.2.size | (simp; have := H2.out.2.size; omega)))
  clear pa' pa a0 a1 a2 a3 a4 a5 pb' pb b0 b1 b2 b3 b4 b5 pc' pc c0 c1 c2 c3 c4 c5
  obtain ⟨pc, c0, c1, c2, c3, c4, c5⟩ := R3.at (g := w.heap.size + 1 + 1) (v := c) (by simp)
  have pc' := (by have := pc; omega : w.heap.size + 1 < w3.heap.size)
  obtain ⟨pb, b0, b1, b2, b3, b4, b5⟩ := R3.at (g := w.heap.size + 1) (v := b) (by simp)
  have pb' := (by have := pb; omega : w.heap.size < w3.heap.size)
  obtain ⟨pa, a0, a1, a2, a3, a4, a5⟩ := R3.at (g := w.heap.size) (v := a) (by simp)
  have pa' := pa
  have H3 : Hid (_ ∧ _) := ⟨R3, B3⟩
  clear R3 B3 hb3 H2
  go_wp2_with fail
  refine (C3.out _).mono ?_
  rintro e w4 ⟨rfl, hb4⟩
  have R4 := (H3.out.1.alloc s (g := w3.heap.size) (by first | rfl | simp)).below hb4
  have B4 : Below w.heap.size w w4 := (H3.out.2.alloc (by first | exact H3.out.2.size | (simp; have := H3.out.2.size; omega)) (O6 s)).trans (hb4.mono (by first | exact H3.out.2.size | (simp; have := H3.out.2.size; omega)))
  clear pa' pa a0 a1 a2 a3 a4 a5 pb' pb b0 b1 b2 b3 b4 b5 pc' pc c0 c1 c2 c3 c4 c5
  obtain ⟨pc, c0, c1, c2, c3, c4, c5⟩ := R4.at (g := w.heap.size + 1 + 1) (v := c) (by simp)
  have pc' := (by have := pc; omega : w.heap.size + 1 < w4.heap.size)
  obtain ⟨pb, b0, b1, b2, b3, b4, b5⟩ := R4.at (g := w.heap.size + 1) (v := b) (by simp)
  have pb' := (by have := pb; omega : w.heap.size < w4.heap.size)
  obtain ⟨pa, a0, a1, a2, a3, a4, a5⟩ := R4.at (g := w.heap.size) (v := a) (by simp)
  have pa' := pa
  have H4 : Hid (_ ∧ _) := ⟨R4, B4⟩
  clear R4 B4 hb4 H3
  go_wp2_with fail
  refine (C4.out _).mono ?_
  rintro e w5 ⟨rfl, hb5⟩
  have R5 := ((H4.out.1.alloc m (g := w4.heap.size) (by first | rfl | simp)).alloc n (g := w4.heap.size + 1) (by first | rfl | simp)).below hb5
  have B5 : Below w.heap.size w w5 := ((H4.out.2.alloc (by first | exact H4.out.2.size | (simp; have := H4.out.2.size; omega)) (O6 m)).alloc (by first | exact H4.out.2.size | (simp; have := H4.out.2.size; omega)) (O6 n)).trans (hb5.mono (by first | exact H4.out.2.size | (simp; have := H4.out.2.size; omega)))
  clear pa' pa a0 a1 a2 a3 a4 a5 pb' pb b0 b1 b2 b3 b4 b5 pc' pc c0 c1 c2 c3 c4 c5
  obtain ⟨pc, c0, c1, c2, c3, c4, c5⟩ := R5.at (g := w.heap.size + 1 + 1) (v := c) (by simp)
  have pc' := (by have := pc; omega : w.heap.size + 1 < w5.heap.size)
  obtain ⟨pb, b0, b1, b2, b3, b4, b5⟩ := R5.at (g := w.heap.size + 1) (v := b) (by simp)
  have pb' := (by have := pb; omega : w.heap.size < w5.heap.size)
  obtain ⟨pa, a0, a1, a2, a3, a4, a5⟩ := R5.at (g := w.heap.size) (v := a) (by simp)
  have pa' := pa
  have H5 : Hid (_ ∧ _) := ⟨R5, B5⟩
  clear R5 B5 hb5 H4
  go_wp2_with fail
  refine (C5.out _).mono ?_
  rintro e w6 ⟨rfl, hb6⟩
  have R6 := ((H5.out.1.alloc m (g := w5.heap.size) (by first | rfl | simp)).alloc n (g := w5.heap.size + 1) (by first | rfl | simp)).below hb6
  have B6 : Below w.heap.size w w6 := ((H5.out.2.alloc (by first | exact H5.out.2.size | (simp; have := H5.out.2.size; omega)) (O6 m)).alloc (by first | exact H5.out.2.size | (simp; have := H5.out.2.size; omega)) (O6 n)).trans (hb6.mono (by first | exact H5.out.2.size | (simp; have := H5.out.2.size; omega)))
  clear pa' pa a0 a1 a2 a3 a4 a5 pb' pb b0 b1 b2 b3 b4 b5 pc' pc c0 c1 c2 c3 c4 c5
  obtain ⟨pc, c0, c1, c2, c3, c4, c5⟩ := R6.at (g := w.heap.size + 1 + 1) (v := c) (by simp)
  have pc' := (by have := pc; omega : w.heap.size + 1 < w6.heap.size)
  obtain ⟨pb, b0, b1, b2, b3, b4, b5⟩ := R6.at (g := w.heap.size + 1) (v := b) (by simp)
  have pb' := (by have := pb; omega : w.heap.size < w6.heap.size)
  obtain ⟨pa, a0, a1, a2, a3, a4, a5⟩ := R6.at (g := w.heap.size) (v := a) (by simp)
  have pa' := pa
  have H6 : Hid (_ ∧ _) := ⟨R6, B6⟩
  clear R6 B6 hb6 H5
  go_wp2_with fail
  refine (C6.out _).mono ?_
  rintro e w7 ⟨rfl, hb7⟩
  have R7 := ((H6.out.1.alloc l (g := w6.heap.size) (by first | rfl | simp)).alloc l2 (g := w6.heap.size + 1) (by first | rfl | simp)).below hb7
  have B7 : Below w.heap.size w w7 := ((H6.out.2.alloc (by first | exact H6.out.2.size | (simp; have := H6.out.2.size; omega)) (O6 l)).alloc (by first | exact H6.out.2.size | (simp; have := H6.out.2.size; omega)) (O6 l2)).trans (hb7.mono (by first | exact H6.out.2.size | (simp; have := H6.out.2.size; omega)))
  clear pa' pa a0 a1 a2 a3 a4 a5 pb' pb b0 b1 b2 b3 b4 b5 pc' pc c0 c1 c2 c3 c4 c5
  obtain ⟨pc, c0, c1, c2, c3, c4, c5⟩ := R7.at (g := w.heap.size + 1 + 1) (v := c) (by simp)
  have pc' := (by have := pc; omega : w.heap.size + 1 < w7.heap.size)
  obtain ⟨pl, l0, l1, l2, l3, l4, l5⟩ := R7.at (g := w6.heap.size) (v := l) (by simp)
  have pl' := pl
  have H7 : Hid (_ ∧ _) := ⟨R7, B7⟩
  clear R7 B7 hb7 H6
  go_wp2_with fail
  refine (C7.out _).mono ?_
  rintro e w8 ⟨rfl, hb8⟩
  have R8 := ((H7.out.1.alloc r (g := w7.heap.size) (by first | rfl | simp)).alloc r2 (g := w7.heap.size + 1) (by first | rfl | simp)).below hb8
  have B8 : Below w.heap.size w w8 := ((H7.out.2.alloc (by first | exact H7.out.2.size | (simp; have := H7.out.2.size; omega)) (O6 r)).alloc (by first | exact H7.out.2.size | (simp; have := H7.out.2.size; omega)) (O6 r2)).trans (hb8.mono (by first | exact H7.out.2.size | (simp; have := H7.out.2.size; omega)))
  clear pc' pc c0 c1 c2 c3 c4 c5 pl' pl l0 l1 l2 l3 l4 l5
  obtain ⟨pc, c0, c1, c2, c3, c4, c5⟩ := R8.at (g := w.heap.size + 1 + 1) (v := c) (by simp)
  have pc' := (by have := pc; omega : w.heap.size + 1 < w8.heap.size)
  obtain ⟨ps, s0, s1, s2, s3, s4, s5⟩ := R8.at (g := w2.heap.size) (v := s) (by simp)
  have ps' := ps
  have H8 : Hid (_ ∧ _) := ⟨R8, B8⟩
  clear R8 B8 hb8 H7
  go_wp2_with fail
  refine (C8.out _).mono ?_
  rintro e w9 ⟨rfl, hb9⟩
  have R9 := (H8.out.1.alloc t (g := w8.heap.size) (by first | rfl | simp)).below hb9
  have B9 : Below w.heap.size w w9 := (H8.out.2.alloc (by first | exact H8.out.2.size | (simp; have := H8.out.2.size; omega)) (O6 t)).trans (hb9.mono (by first | exact H8.out.2.size | (simp; have := H8.out.2.size; omega)))
  clear pc' pc c0 c1 c2 c3 c4 c5 ps' ps s0 s1 s2 s3 s4 s5
  obtain ⟨ps, s0, s1, s2, s3, s4, s5⟩ := R9.at (g := w2.heap.size) (v := s) (by simp)
  have ps' := ps
  obtain ⟨px, x0, x1, x2, x3, x4, x5⟩ := R9.at (g := w3.heap.size) (v := s) (by simp)
  have px' := px
  obtain ⟨pm, m0, m1, m2, m3, m4, m5⟩ := R9.at (g := w4.heap.size) (v := m) (by simp)
  have pm' := pm
  obtain ⟨pn, n0, n1, n2, n3, n4, n5⟩ := R9.at (g := w4.heap.size + 1) (v := n) (by simp)
  have pn' := (by have := pn; omega : w4.heap.size < w9.heap.size)
  obtain ⟨po, o0, o1, o2, o3, o4, o5⟩ := R9.at (g := w5.heap.size) (v := m) (by simp)
  have po' := po
  obtain ⟨pq, q0, q1, q2, q3, q4, q5⟩ := R9.at (g := w5.heap.size + 1) (v := n) (by simp)
  have pq' := (by have := pq; omega : w5.heap.size < w9.heap.size)
  obtain ⟨pt, t0, t1, t2, t3, t4, t5⟩ := R9.at (g := w8.heap.size) (v := t) (by simp)
  have pt' := pt
  have H9 : Hid (_ ∧ _) := ⟨R9, B9⟩
  clear R9 B9 hb9 H8
  go_wp2
  go_ret
  refine ⟨rfl, ?_⟩
  exact ((H9.out.2.alloc H9.out.2.size (O6 t)).alloc (by simp; have := H9.out.2.size; omega) (O6 u))
end Go.Proofs.Ytpcnhknkgiingaa
