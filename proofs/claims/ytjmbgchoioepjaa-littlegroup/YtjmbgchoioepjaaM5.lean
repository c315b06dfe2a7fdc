/- Sums in brackets -/
import Derived.Test.YtjmbgchoioepjaaM4
namespace Go.Proofs.Ytjmbgchoioepjaa
open Go.RowKit
namespace Rg
open NT
section
variable {p : Nat} [NeZero p]
theorem assoc_poly (a b c d e f : Fin p) (h1 : a * a + b * b + a * a * (b * b) = 1) (h2 : c * c + d * d + c * c * (d * d) = 1) (h3 : e * e + f * f + e * e * (f * f) = 1) :
    ((a * d + b * c) * (1 + a * c * (b * d)) * f + (b * d - a * c) * (1 - a * c * (b * d)) * e) * ((1 - c * e * (d * f)) * (1 + c * e * (d * f)) - a * b * ((c * f + d * e) * (d * f - c * e)))
    = (a * ((d * f - c * e) * (1 - c * e * (d * f))) + b * ((c * f + d * e) * (1 + c * e * (d * f)))) * ((1 - a * c * (b * d)) * (1 + a * c * (b * d)) - (a * d + b * c) * (b * d - a * c) * (e * f)) := by
  grind
theorem assoc_poly2 (a b c d e f : Fin p) (h1 : a * a + b * b + a * a * (b * b) = 1) (h2 : c * c + d * d + c * c * (d * d) = 1) (h3 : e * e + f * f + e * e * (f * f) = 1) :
    ((b * d - a * c) * (1 - a * c * (b * d)) * f - (a * d + b * c) * (1 + a * c * (b * d)) * e) * ((1 - c * e * (d * f)) * (1 + c * e * (d * f)) + a * b * ((c * f + d * e) * (d * f - c * e)))
    = (b * ((d * f - c * e) * (1 - c * e * (d * f))) - a * ((c * f + d * e) * (1 + c * e * (d * f)))) * ((1 - a * c * (b * d)) * (1 + a * c * (b * d)) + (a * d + b * c) * (b * d - a * c) * (e * f)) := by
  grind
theorem fr1 {A B D E i j : Fin p} (s t : Fin p) (hE : E * i = 1) (hD : D * j = 1) : A * i * t + B * j * s = (A * D * t + B * E * s) * (i * j) := by grind
theorem fr2 {A B D E i j : Fin p} (s t : Fin p) (hE : E * i = 1) (hD : D * j = 1) : 1 - A * i * s * (B * j * t) = (E * D - A * B * (s * t)) * (i * j) := by grind
theorem fr3 {A B D E i j : Fin p} (x y : Fin p) (hE : E * i = 1) (hD : D * j = 1) : x * (B * j) + y * (A * i) = (x * (B * E) + y * (A * D)) * (i * j) := by grind
theorem fr4 {A B D E i j : Fin p} (x y : Fin p) (hE : E * i = 1) (hD : D * j = 1) : 1 - x * (A * i) * (y * (B * j)) = (E * D - x * y * (A * B)) * (i * j) := by grind
theorem fr5 {A B D E i j : Fin p} (s t : Fin p) (hE : E * i = 1) (hD : D * j = 1) : B * j * t - A * i * s = (B * E * t - A * D * s) * (i * j) := by grind
theorem fr6 {A B D E i j : Fin p} (s t : Fin p) (hE : E * i = 1) (hD : D * j = 1) : 1 + A * i * s * (B * j * t) = (E * D + A * B * (s * t)) * (i * j) := by grind
theorem fr7 {A B D E i j : Fin p} (x y : Fin p) (hE : E * i = 1) (hD : D * j = 1) : y * (B * j) - x * (A * i) = (y * (B * E) - x * (A * D)) * (i * j) := by grind
theorem fr8 {A B D E i j : Fin p} (x y : Fin p) (hE : E * i = 1) (hD : D * j = 1) : 1 + x * (A * i) * (y * (B * j)) = (E * D + x * y * (A * B)) * (i * j) := by grind
theorem fr9 {N M N' M' : Fin p} (k k' : Fin p) (h : N * M' = N' * M) : N * k * (M' * k') = N' * k' * (M * k) := by grind
theorem cross {n m n' m' i i' : Fin p} (h : m * i = 1) (h' : m' * i' = 1) (e : n * m' = n' * m) : n * i = n' * i' := by
  have : n * i = n * (m' * i') * i := by rw [h']; grind
  rw [this]
  have : n' * i' = n' * (m * i) * i' := by rw [h]; grind
  rw [this]
  grind
theorem eadd_assoc (F : Fd p) {a b c : Fin p × Fin p} (ha : Ec a) (hb : Ec b) (hc : Ec c) : eadd (eadd a b) c = eadd a (eadd b c) := by
  have hab := eadd_on F ha hb
  have hbc := eadd_on F hb hc
  have m1 := ed_m F hab hc
  have m2 := ed_p F hab hc
  have m3 := ed_m F ha hbc
  have m4 := ed_p F ha hbc
  have d1 := ed_m F ha hb
  have d2 := ed_p F ha hb
  have d3 := ed_m F hb hc
  have d4 := ed_p F hb hc
  clear hab hbc
  unfold eadd
  unfold eadd at m1 m2 m3 m4
  generalize hi1 : iv (1 - ed a b) = i1 at *
  generalize hi2 : iv (1 + ed a b) = i2 at *
  generalize hi3 : iv (1 - ed b c) = i3 at *
  generalize hi4 : iv (1 + ed b c) = i4 at *
  generalize iv (1 - ed ((a.1 * b.2 + a.2 * b.1) * i1, (a.2 * b.2 - a.1 * b.1) * i2) c) = k1 at *
  generalize iv (1 + ed ((a.1 * b.2 + a.2 * b.1) * i1, (a.2 * b.2 - a.1 * b.1) * i2) c) = k2 at *
  generalize iv (1 - ed a ((b.1 * c.2 + b.2 * c.1) * i3, (b.2 * c.2 - b.1 * c.1) * i4)) = k3 at *
  generalize iv (1 + ed a ((b.1 * c.2 + b.2 * c.1) * i3, (b.2 * c.2 - b.1 * c.1) * i4)) = k4 at *
  clear hi1 hi2 hi3 hi4
  obtain ⟨x, y⟩ := a
  obtain ⟨u, v⟩ := b
  obtain ⟨s, t⟩ := c
  unfold Ec at ha hb hc
  unfold ed at *
  simp only at *
  have p1 := assoc_poly x y u v s t ha hb hc
  have p2 := assoc_poly2 x y u v s t ha hb hc
  clear ha hb hc
  generalize hE : 1 - x * u * (y * v) = E at *
  generalize hD : 1 + x * u * (y * v) = D at *
  generalize hE' : 1 - u * s * (v * t) = E' at *
  generalize hD' : 1 + u * s * (v * t) = D' at *
  generalize hA : x * v + y * u = A at *
  generalize hB : y * v - x * u = B at *
  generalize hA' : u * t + v * s = A' at *
  generalize hB' : v * t - u * s = B' at *
  clear hA hB hA' hB' hD hE hD' hE'
  refine Prod.ext ?_ ?_
  · refine cross m1 m3 ?_
    rw [fr1 s t d1 d2, fr2 s t d1 d2, fr3 x y d3 d4, fr4 x y d3 d4]
    exact fr9 _ _ p1
  · refine cross m2 m4 ?_
    rw [fr5 s t d1 d2, fr6 s t d1 d2, fr7 x y d3 d4, fr8 x y d3 d4]
    exact fr9 _ _ p2
end
end Rg
end Go.Proofs.Ytjmbgchoioepjaa
