/- From the one curve to the other -/
import Derived.Test.YtjmbgchoioepjaaM5
namespace Go.Proofs.Ytjmbgchoioepjaa
open Go.RowKit
namespace Rg
open NT
section
variable {p : Nat} [NeZero p]
/-- Numbers that carry y y = x x x + x over. -/
structure Al (p : Nat) [NeZero p] (al ep : Fin p) : Prop where
  fd : Fd p
  one : ep * ep = 1
  two : al * al = 2 * ep
theorem al_ex (F : Fd p) : ∃ al ep, Al p al ep := by
  have h3 := F.three
  have hlo := F.pr.lo
  obtain ⟨j, hj⟩ : ∃ j, p + 1 = 4 * (j + 1) := ⟨(p - 3) / 4, by omega⟩
  have hd : ¬ p ∣ 2 := fun h => by have := Nat.le_of_dvd (by decide) h; omega
  have e2 : 2 ^ (2 * j + 2) = 2 ^ (j + 1) * 2 ^ (j + 1) := by rw [← Nat.pow_add]; congr 1; omega
  rcases half_pow F.prm hj hd with h | h
  · refine ⟨ph p (2 ^ (j + 1)), 1, F, by grind, ?_⟩
    apply Fin.ext
    rw [Fin.val_mul, ph_val, ← Nat.mul_mod, ← e2, h]
    rw [show (2 : Fin p) * 1 = 2 by grind]
    rfl
  · refine ⟨ph p (2 ^ (j + 1)), -1, F, by grind, ?_⟩
    have : ph p (2 ^ (j + 1)) * ph p (2 ^ (j + 1)) + 2 = 0 := by
      apply Fin.ext
      rw [Fin.val_add, Fin.val_mul, ph_val, ← Nat.mul_mod, ← e2, show (2 : Fin p).val = 2 % p from rfl, ← Nat.add_mod, h]
      exact (Nat.zero_mod p).symm
    grind
section
variable {al ep : Fin p}
theorem Al.ep0 (A : Al p al ep) : ep ≠ 0 := fun e => A.fd.two (by have := A.one; grind)
theorem Al.s0 (A : Al p al ep) (u : Fin p) : u * u + 1 ≠ 0 := fun e => A.fd.nosq u (by grind)
theorem Al.w0 (A : Al p al ep) {u v : Fin p} (h : v * v = u * u * u + u) : u + ep ≠ 0 := fun e => by
  have e1 : u = -ep := by grind
  have h1 := A.one
  have h2 := A.two
  have : v * v + al * al = 0 := by
    rw [h, h2, e1]
    grind
  have h0 := A.fd.sum0 this
  rw [h0] at h2
  exact A.ep0 ((fp_mul A.fd.prm (show (2 : Fin p) * ep = 0 by grind)).resolve_left A.fd.two)
/-- The point on the other curve. -/
def fi (al ep u v : Fin p) : Fin p × Fin p := (al * v * iv (u * u + 1), (u - ep) * iv (u + ep))
theorem fi_on (A : Al p al ep) {u v : Fin p} (h : v * v = u * u * u + u) : Ec (fi al ep u v) := by
  have h1 := iv_spec A.fd.pr A.fd.prm (A.s0 u)
  have h2 := iv_spec A.fd.pr A.fd.prm (A.w0 h)
  have h3 := A.one
  have h4 := A.two
  unfold Ec fi
  simp only
  generalize iv (u * u + 1) = i at *
  generalize iv (u + ep) = j at *
  have e1 : al * v * i * (al * v * i) = 2 * ep * u * i := by
    have : al * v * i * (al * v * i) = al * al * (v * v) * (i * i) := by grind
    rw [this, h4, h]
    grind
  have e2 : (u - ep) * j * ((u - ep) * j) = (u * u + 1 - 2 * ep * u) * (j * j) := by grind
  have e3 : (u * u + 1 + 2 * ep * u) * (j * j) = 1 := by
    have : (u * u + 1 + 2 * ep * u) = (u + ep) * (u + ep) := by grind
    rw [this]
    have : (u + ep) * (u + ep) * (j * j) = (u + ep) * j * ((u + ep) * j) := by grind
    rw [this, h2]
    grind
  rw [e1, e2]
  grind
/-- A sum with the slope m. -/
theorem slope_y (u v m w ep : Fin p) (c : v * v = u * u * u + u) (r : 2 * v * m + m * m * (w - u) = u * u + u * w + w * w + 1) (h : ep * ep = 1) :
    (m * m - u - w - ep) * ((u * u + 1) * (w * w + 1) * ((u + ep) * (w + ep)) + 2 * ep * (v * (v + m * (w - u))) * ((u - ep) * (w - ep)))
    = (m * m - u - w + ep) * ((u - ep) * (w - ep) * ((u * u + 1) * (w * w + 1)) - 2 * ep * (v * (v + m * (w - u))) * ((u + ep) * (w + ep))) := by
  grind
theorem slope_x (u v m w x ep : Fin p) (c : v * v = u * u * u + u) (r : 2 * v * m + m * m * (w - u) = u * u + u * w + w * w + 1) (h : ep * ep = 1) (hx : x = m * m - u - w) :
    (m * (u - x) - v) * ((u * u + 1) * (w * w + 1) * ((u + ep) * (w + ep)) - 2 * ep * (v * (v + m * (w - u))) * ((u - ep) * (w - ep)))
    = (x * x + 1) * (v * (w * w + 1) * ((u + ep) * (w - ep)) + (v + m * (w - u)) * (u * u + 1) * ((w + ep) * (u - ep))) := by
  subst hx
  grind -lia (ringSteps := 100000)
theorem curve2 (u v m w : Fin p) (c : v * v = u * u * u + u) (r : 2 * v * m + m * m * (w - u) = u * u + u * w + w * w + 1) : (v + m * (w - u)) * (v + m * (w - u)) = w * w * w + w := by
  grind -lia (ringSteps := 100000)
theorem curve3 (u v m w x : Fin p) (c : v * v = u * u * u + u) (r : 2 * v * m + m * m * (w - u) = u * u + u * w + w * w + 1) (hx : x = m * m - u - w) : (m * (u - x) - v) * (m * (u - x) - v) = x * x * x + x := by
  subst hx
  grind -lia (ringSteps := 100000)
theorem fa1 {al ep a b c d s1 s2 w1 w2 i1 i2 j1 j2 : Fin p} (h : al * al = 2 * ep) (e1 : s1 * i1 = 1) (e2 : s2 * i2 = 1) (e3 : w1 * j1 = 1) (e4 : w2 * j2 = 1) : 1 - al * a * i1 * (al * b * i2) * (c * j1 * (d * j2)) = (s1 * s2 * (w1 * w2) - 2 * ep * (a * b) * (c * d)) * (i1 * i2 * (j1 * j2)) := by
  have q : s1 * i1 * (s2 * i2) * (w1 * j1 * (w2 * j2)) = 1 := by rw [e1, e2, e3, e4]; grind
  have q2 : al * a * i1 * (al * b * i2) = al * al * (a * b * i1 * i2) := by grind
  rw [q2, h]
  clear h q2 e1 e2 e3 e4
  grind
theorem fa2 {al ep a b c d s1 s2 w1 w2 i1 i2 j1 j2 : Fin p} (h : al * al = 2 * ep) (e1 : s1 * i1 = 1) (e2 : s2 * i2 = 1) (e3 : w1 * j1 = 1) (e4 : w2 * j2 = 1) : 1 + al * a * i1 * (al * b * i2) * (c * j1 * (d * j2)) = (s1 * s2 * (w1 * w2) + 2 * ep * (a * b) * (c * d)) * (i1 * i2 * (j1 * j2)) := by
  have q : s1 * i1 * (s2 * i2) * (w1 * j1 * (w2 * j2)) = 1 := by rw [e1, e2, e3, e4]; grind
  have q2 : al * a * i1 * (al * b * i2) = al * al * (a * b * i1 * i2) := by grind
  rw [q2, h]
  clear h q2 e1 e2 e3 e4
  grind
theorem fa3 {al a b c d s1 s2 w1 w2 i1 i2 j1 j2 : Fin p} (e1 : s1 * i1 = 1) (e2 : s2 * i2 = 1) (e3 : w1 * j1 = 1) (e4 : w2 * j2 = 1) : al * a * i1 * (d * j2) + c * j1 * (al * b * i2) = al * (a * s2 * (w1 * d) + b * s1 * (w2 * c)) * (i1 * i2 * (j1 * j2)) := by
  have q1 : al * (a * s2 * (w1 * d) + b * s1 * (w2 * c)) * (i1 * i2 * (j1 * j2)) = al * a * i1 * (d * j2) * (s2 * i2 * (w1 * j1)) + c * j1 * (al * b * i2) * (s1 * i1 * (w2 * j2)) := by grind
  rw [q1, e1, e2, e3, e4]
  grind
theorem fa4 {al ep a b c d s1 s2 w1 w2 i1 i2 j1 j2 : Fin p} (h : al * al = 2 * ep) (e1 : s1 * i1 = 1) (e2 : s2 * i2 = 1) (e3 : w1 * j1 = 1) (e4 : w2 * j2 = 1) : c * j1 * (d * j2) - al * a * i1 * (al * b * i2) = (c * d * (s1 * s2) - 2 * ep * (a * b) * (w1 * w2)) * (i1 * i2 * (j1 * j2)) := by
  have q1 : (c * d * (s1 * s2) - 2 * ep * (a * b) * (w1 * w2)) * (i1 * i2 * (j1 * j2)) = c * j1 * (d * j2) * (s1 * i1 * (s2 * i2)) - 2 * ep * (a * i1 * (b * i2)) * (w1 * j1 * (w2 * j2)) := by grind
  have q2 : al * a * i1 * (al * b * i2) = al * al * (a * b * i1 * i2) := by grind
  rw [q1, q2, h, e1, e2, e3, e4]
  grind
/-- To go over keeps sums. -/
theorem fi_add (A : Al p al ep) {u v m w z x y : Fin p} (c : v * v = u * u * u + u) (r : 2 * v * m + m * m * (w - u) = u * u + u * w + w * w + 1) (hz : z = v + m * (w - u)) (hx : x = m * m - u - w) (hy : y = m * (u - x) - v) : fi al ep x y = eadd (fi al ep u v) (fi al ep w z) := by
  have c2 : z * z = w * w * w + w := by rw [hz]; exact curve2 u v m w c r
  have c3 : y * y = x * x * x + x := by rw [hy]; exact curve3 u v m w x c r hx
  have k1 := ed_m A.fd (fi_on A c) (fi_on A c2)
  have k2 := ed_p A.fd (fi_on A c) (fi_on A c2)
  have e1 := iv_spec A.fd.pr A.fd.prm (A.s0 u)
  have e2 := iv_spec A.fd.pr A.fd.prm (A.s0 w)
  have e3 := iv_spec A.fd.pr A.fd.prm (A.w0 c)
  have e4 := iv_spec A.fd.pr A.fd.prm (A.w0 c2)
  have e5 := iv_spec A.fd.pr A.fd.prm (A.s0 x)
  have e6 := iv_spec A.fd.pr A.fd.prm (A.w0 c3)
  have sx := slope_x u v m w x ep c r A.one hx
  have sy := slope_y u v m w ep c r A.one
  rw [← hx] at sy
  rw [← hz] at sx sy
  rw [← hy] at sx
  have h2 := A.two
  unfold eadd
  generalize iv (1 - ed (fi al ep u v) (fi al ep w z)) = n1 at *
  generalize iv (1 + ed (fi al ep u v) (fi al ep w z)) = n2 at *
  unfold ed fi at *
  simp only at *
  generalize iv (u * u + 1) = i1 at *
  generalize iv (w * w + 1) = i2 at *
  generalize iv (x * x + 1) = i3 at *
  generalize iv (u + ep) = j1 at *
  generalize iv (w + ep) = j2 at *
  generalize iv (x + ep) = j3 at *
  refine Prod.ext ?_ ?_
  · refine cross e5 k1 ?_
    rw [fa1 h2 e1 e2 e3 e4, fa3 e1 e2 e3 e4]
    have := congrArg (fun q => al * (i1 * i2 * (j1 * j2)) * q) sx
    clear e1 e2 e3 e4 e5 e6 k1 k2 sx sy h2 c c2 c3 r hz hx hy
    grind -lia
  · refine cross e6 k2 ?_
    rw [fa2 h2 e1 e2 e3 e4, fa4 h2 e1 e2 e3 e4]
    have := congrArg (fun q => (i1 * i2 * (j1 * j2)) * q) sy
    clear e1 e2 e3 e4 e5 e6 k1 k2 sx sy h2 c c2 c3 r hz hx hy
    grind -lia
end
end
end Rg
end Go.Proofs.Ytjmbgchoioepjaa
