/- The plain arithmetic of the walk down to the greatest common divisor. -/
import Derived.Test.YtoagmdgmbkpghaaM10
namespace Go.Proofs.Ytoagmdgmbkpghaa
open Go.RowKit
namespace Rg
structure WS where
  o : Nat
  r : Nat
  u : Nat
  v : Nat
  h : Nat
  t : Bool
/-- What is known at each round's beginning. -/
structure WI (n a : Nat) (z : WS) : Prop where
  odd : z.o % 2 = 1
  sum : z.o * z.v + z.r * z.u = n
  un : z.u < n
  vpos : 1 ≤ z.v
  rn : z.r ≤ n
  gcd : Nat.gcd z.o z.r = Nat.gcd n a
  hb : 2 ^ z.h * (z.o * z.r) ≤ n * n
  hb1 : 2 ^ z.h ≤ n * n
  c1 : if z.t = true then Cg n (z.o * 2 ^ z.h) (z.u * a) else Cg n (z.o * 2 ^ z.h + z.u * a) 0
  c2 : if z.t = true then Cg n (z.r * 2 ^ z.h + z.v * a) 0 else Cg n (z.r * 2 ^ z.h) (z.v * a)
theorem WI.start {n a : Nat} (ok : Ok n) : WI n a ⟨n, a % n, 0, 1, 0, false⟩ := by
  have h3 := ok.three
  have hl := Nat.mod_lt a ok.pos
  refine ⟨ok.odd, by simp, ok.pos, Nat.le_refl _, Nat.le_of_lt hl, ?_, ?_, ?_, ?_, ?_⟩
  · show Nat.gcd n (a % n) = Nat.gcd n a
    rw [Nat.gcd_comm n (a % n), ← Nat.gcd_rec, Nat.gcd_comm]
  · show 2 ^ 0 * (n * (a % n)) ≤ n * n
    rw [Nat.pow_zero, Nat.one_mul]
    exact Nat.mul_le_mul_left _ (Nat.le_of_lt hl)
  · show 2 ^ 0 ≤ n * n
    have := Nat.mul_le_mul h3 h3
    rw [Nat.pow_zero]; omega
  · show Cg n (n * 2 ^ 0 + 0 * a) 0
    rw [Nat.pow_zero, Nat.zero_mul, Nat.add_zero, Nat.mul_one]
    have := Cg.zero n 1
    rwa [Nat.one_mul] at this
  · show Cg n (a % n * 2 ^ 0) (1 * a)
    rw [Nat.pow_zero, Nat.mul_one, Nat.one_mul]
    exact Cg.mod n a
theorem gcd_halve {o r1 k : Nat} (ho : o % 2 = 1) : Nat.gcd o (r1 * 2 ^ k) = Nat.gcd o r1 := by
  have hc : Nat.Coprime o (2 ^ k) := by
    apply Nat.Coprime.pow_right
    rw [Nat.coprime_comm]
    show Nat.gcd 2 o = 1
    rw [Nat.gcd_rec, ho]
    rfl
  exact Nat.Coprime.gcd_mul_right_cancel_right r1 hc.symm
theorem gcd_less {o r1 : Nat} (h : r1 ≤ o) : Nat.gcd r1 (o - r1) = Nat.gcd o r1 := by
  rw [Nat.gcd_comm o r1]
  have e : o = (o - r1) + r1 := by omega
  generalize o - r1 = d at e ⊢
  rw [e, Nat.gcd_add_self_right]
theorem WI.facts {n a o r u v h k r1 : Nat} {t : Bool} (I : WI n a ⟨o, r, u, v, h, t⟩) (hr : r ≠ 0) (er : r = r1 * 2 ^ k) : 1 ≤ r1 ∧ 1 ≤ o ∧ o ≤ n ∧ r1 ≤ n ∧ o * v + r1 * (u * 2 ^ k) = n ∧ u * 2 ^ k < n ∧ v + u * 2 ^ k ≤ n := by
  have hs := I.sum
  have hv := I.vpos
  have ho := I.odd
  have hrn := I.rn
  simp only at hs hv ho hrn
  have h1 : 1 ≤ r1 := by
    rcases Nat.eq_zero_or_pos r1 with e | e
    · rw [e, Nat.zero_mul] at er; exact absurd er hr
    · exact e
  have ho1 : 1 ≤ o := by omega
  have h2 : o * 1 ≤ o * v := Nat.mul_le_mul_left o hv
  have e1 : r * u = r1 * (u * 2 ^ k) := by rw [er, Nat.mul_assoc, Nat.mul_comm (2 ^ k)]
  rw [e1] at hs
  have h3 : 1 * (u * 2 ^ k) ≤ r1 * (u * 2 ^ k) := Nat.mul_le_mul_right _ h1
  have h4 : r1 * 1 ≤ r1 * 2 ^ k := Nat.mul_le_mul_left r1 (Nat.two_pow_pos k)
  have h5 : 1 * v ≤ o * v := Nat.mul_le_mul_right _ ho1
  refine ⟨h1, ho1, by omega, by omega, hs, by omega, by omega⟩
theorem cg_scale {n x y : Nat} (h : Cg n x y) (k : Nat) : Cg n (x * 2 ^ k) (y * 2 ^ k) := h.mulR _
theorem WI.conf {n a o r u v h k r1 : Nat} {t : Bool} (I : WI n a ⟨o, r, u, v, h, t⟩) (er : r = r1 * 2 ^ k) :
    (if t = true then Cg n (o * 2 ^ (h + k)) (u * 2 ^ k * a) else Cg n (o * 2 ^ (h + k) + u * 2 ^ k * a) 0) ∧ (if t = true then Cg n (r1 * 2 ^ (h + k) + v * a) 0 else Cg n (r1 * 2 ^ (h + k)) (v * a)) := by
  have h1 := I.c1
  have h2 := I.c2
  simp only at h1 h2
  have e1 : o * 2 ^ (h + k) = o * 2 ^ h * 2 ^ k := by rw [Nat.pow_add, Nat.mul_assoc]
  have e2 : u * 2 ^ k * a = u * a * 2 ^ k := Nat.mul_right_comm ..
  have e3 : r1 * 2 ^ (h + k) = r * 2 ^ h := by rw [er, Nat.pow_add, Nat.mul_assoc, Nat.mul_comm (2 ^ h)]
  rw [e1, e2, e3]
  refine ⟨?_, h2⟩
  cases t with
  | true => exact cg_scale h1 k
  | false =>
    have h3 := cg_scale h1 k
    rw [Nat.zero_mul, Nat.add_mul] at h3
    exact h3
theorem WI.next {n a o r u v h k r1 : Nat} {t : Bool} (I : WI n a ⟨o, r, u, v, h, t⟩) (hr : r ≠ 0) (er : r = r1 * 2 ^ k) (h1 : r1 % 2 = 1) :
    (r1 < o → WI n a ⟨r1, o - r1, v, u * 2 ^ k + v, h + k, !t⟩) ∧ (¬ r1 < o → WI n a ⟨o, r1 - o, u * 2 ^ k, v + u * 2 ^ k, h + k, t⟩) := by
  obtain ⟨p1, p2, p3, p4, p5, p6, p7⟩ := I.facts hr er
  obtain ⟨q1, q2⟩ := I.conf er
  have hv := I.vpos
  have ho := I.odd
  have hg := I.gcd
  have hb := I.hb
  simp only at hv ho hg hb
  rw [er, gcd_halve ho] at hg
  have eb : 2 ^ (h + k) * (o * r1) = 2 ^ h * (o * r) := by
    rw [er, Nat.pow_add]; simp only [Nat.mul_assoc, Nat.mul_comm, Nat.mul_left_comm]
  have hb2 : 2 ^ (h + k) * (o * r1) ≤ n * n := by rw [eb]; exact hb
  have hor : 1 ≤ o * r1 := Nat.mul_pos p2 p1
  have hb1 : 2 ^ (h + k) ≤ n * n := Nat.le_trans (by have := Nat.mul_le_mul_left (2 ^ (h + k)) hor; omega) hb2
  generalize hH : 2 ^ (h + k) = H at q1 q2 hb2 hb1
  generalize hU : u * 2 ^ k = U at q1 q2 p5 p6 p7 ⊢
  constructor
  · intro hl
    refine ⟨h1, ?_, ?_, by show 1 ≤ U + v; omega, by show o - r1 ≤ n; omega, ?_, ?_, by show 2 ^ (h + k) ≤ n * n; rw [hH]; exact hb1, ?_, ?_⟩
    · show r1 * (U + v) + (o - r1) * v = n
      have e : r1 * v + (o - r1) * v = o * v := by rw [← Nat.add_mul, show r1 + (o - r1) = o by omega]
      rw [Nat.mul_add]; omega
    · show v < n
      rcases Nat.eq_zero_or_pos U with e | e
      · rw [e, Nat.mul_zero, Nat.add_zero] at p5
        have : 2 * v ≤ o * v := Nat.mul_le_mul_right _ (by omega)
        omega
      · have h5 : 1 * v ≤ o * v := Nat.mul_le_mul_right _ p2
        have h6 : 1 * 1 ≤ r1 * U := Nat.mul_le_mul p1 e
        omega
    · show Nat.gcd r1 (o - r1) = Nat.gcd n a
      rw [gcd_less (by omega), hg]
    · show 2 ^ (h + k) * (r1 * (o - r1)) ≤ n * n
      rw [hH]
      refine Nat.le_trans (Nat.mul_le_mul_left H ?_) hb2
      rw [Nat.mul_comm o r1]
      exact Nat.mul_le_mul_left r1 (by omega)
    · cases t with
      | true =>
        show Cg n (r1 * 2 ^ (h + k) + v * a) 0
        rw [hH]; exact q2
      | false =>
        show Cg n (r1 * 2 ^ (h + k)) (v * a)
        rw [hH]; exact q2
    · have e : (o - r1) * H + r1 * H = o * H := by rw [← Nat.add_mul, show o - r1 + r1 = o by omega]
      cases t with
      | true =>
        show Cg n ((o - r1) * 2 ^ (h + k)) ((U + v) * a)
        rw [hH, Nat.add_mul]
        have s1 : Cg n ((o - r1) * H + (r1 * H + v * a)) ((o - r1) * H + 0) := Cg.addL _ q2
        rw [Nat.add_zero, ← Nat.add_assoc, e] at s1
        exact s1.symm.trans (Cg.addR _ q1)
      | false =>
        show Cg n ((o - r1) * 2 ^ (h + k) + (U + v) * a) 0
        rw [hH, Nat.add_mul]
        have s1 : Cg n ((o - r1) * H + U * a + r1 * H) ((o - r1) * H + U * a + v * a) := Cg.addL _ q2
        have e2 : (o - r1) * H + U * a + r1 * H = o * H + U * a := by omega
        rw [e2] at s1
        have s2 := s1.symm.trans q1
        rwa [Nat.add_assoc] at s2
  · intro hl
    refine ⟨ho, ?_, p6, by show 1 ≤ v + U; omega, by show r1 - o ≤ n; omega, ?_, ?_, by show 2 ^ (h + k) ≤ n * n; rw [hH]; exact hb1, ?_, ?_⟩
    · show o * (v + U) + (r1 - o) * U = n
      have e : o * U + (r1 - o) * U = r1 * U := by rw [← Nat.add_mul, show o + (r1 - o) = r1 by omega]
      rw [Nat.mul_add]; omega
    · show Nat.gcd o (r1 - o) = Nat.gcd n a
      rw [gcd_less (by omega), Nat.gcd_comm, hg]
    · show 2 ^ (h + k) * (o * (r1 - o)) ≤ n * n
      rw [hH]
      exact Nat.le_trans (Nat.mul_le_mul_left H (Nat.mul_le_mul_left o (by omega))) hb2
    · cases t with
      | true =>
        show Cg n (o * 2 ^ (h + k)) (U * a)
        rw [hH]; exact q1
      | false =>
        show Cg n (o * 2 ^ (h + k) + U * a) 0
        rw [hH]; exact q1
    · have e : (r1 - o) * H + o * H = r1 * H := by rw [← Nat.add_mul, show r1 - o + o = r1 by omega]
      cases t with
      | true =>
        show Cg n ((r1 - o) * 2 ^ (h + k) + (v + U) * a) 0
        rw [hH, Nat.add_mul]
        have s1 : Cg n ((r1 - o) * H + v * a + o * H) ((r1 - o) * H + v * a + U * a) := Cg.addL _ q1
        have e2 : (r1 - o) * H + v * a + o * H = r1 * H + v * a := by omega
        rw [e2] at s1
        have s2 := s1.symm.trans q2
        rwa [Nat.add_assoc] at s2
      | false =>
        show Cg n ((r1 - o) * 2 ^ (h + k)) ((v + U) * a)
        rw [hH, Nat.add_mul]
        have s1 : Cg n ((r1 - o) * H + (o * H + U * a)) ((r1 - o) * H + 0) := Cg.addL _ q1
        rw [Nat.add_zero, ← Nat.add_assoc, e] at s1
        exact s1.symm.trans (Cg.addR _ q2)
/-- What is left when the walk ends. -/
def dv (n a i : Nat) : Nat := a * hf n ^ i % n
theorem end_true {n a o u v h : Nat} (ok : Ok n) (I : WI n a ⟨o, 0, u, v, h, true⟩) (ho : o = 1) : dv n u h * a % n = 1 := by
  have h1 := I.c1
  simp only [if_true] at h1
  rw [ho, Nat.one_mul] at h1
  have s : Cg n (dv n u h * a) 1 := by
    have s1 : Cg n (dv n u h * a) (u * hf n ^ h * a) := (Cg.mod _ _).mulR a
    rw [Nat.mul_right_comm] at s1
    exact s1.trans ((h1.symm.mulR _).trans (hf_pow n h ok.odd))
  unfold Cg at s
  rw [s, Nat.mod_eq_of_lt (by have := ok.three; omega)]
theorem end_false {n a o u v h : Nat} (ok : Ok n) (I : WI n a ⟨o, 0, u, v, h, false⟩) (ho : o = 1) : dv n (subm n 0 u) h * a % n = 1 := by
  have h1 := I.c1
  simp only [Bool.false_eq_true, if_false] at h1
  rw [ho, Nat.one_mul] at h1
  have hu := I.un
  simp only at hu
  have h2 : Cg n (subm n 0 u * a) (2 ^ h) := by
    have e1 : Cg n (subm n 0 u + u) 0 := by
      unfold subm
      rw [Nat.zero_add, Nat.mod_eq_of_lt hu]
      refine ((Cg.mod n (n - u)).addR u).trans ?_
      rw [show n - u + u = 1 * n by omega]
      exact Cg.zero n 1
    have e2 := e1.mulR a
    rw [Nat.zero_mul, Nat.add_mul] at e2
    have e3 : Cg n (subm n 0 u * a + (u * a + 2 ^ h)) (subm n 0 u * a + 0) := Cg.addL _ (by rw [Nat.add_comm]; exact h1)
    rw [Nat.add_zero, ← Nat.add_assoc] at e3
    have e4 := e2.addR (2 ^ h)
    rw [Nat.zero_add] at e4
    exact e3.symm.trans e4
  have s : Cg n (dv n (subm n 0 u) h * a) 1 := by
    have s1 : Cg n (dv n (subm n 0 u) h * a) (subm n 0 u * hf n ^ h * a) := (Cg.mod _ _).mulR a
    rw [Nat.mul_right_comm] at s1
    exact s1.trans ((h2.mulR _).trans (hf_pow n h ok.odd))
  unfold Cg at s
  rw [s, Nat.mod_eq_of_lt (by have := ok.three; omega)]
theorem WI.hlt {n a : Nat} {z : WS} (ok : Ok n) (I : WI n a z) : z.h < 768 := by
  have h1 := I.hb1
  have h2 := ok.top
  obtain ⟨m, hm, e⟩ := big_pow
  rcases Nat.lt_or_ge z.h 768 with h' | h'
  · exact h'
  · have h3 : 2 ^ (64 * m + 64 * m) ≤ 2 ^ z.h := Nat.pow_le_pow_right (by decide) (by omega)
    rw [Nat.pow_add, ← e] at h3
    have h4 : n * n < big * big := Nat.mul_lt_mul_of_lt_of_lt ok.big ok.big
    omega
end Rg
end Go.Proofs.Ytoagmdgmbkpghaa
