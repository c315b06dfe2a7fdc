/- Texts of the proof, joined. -/
import Derived.Test.YtaomlijondiaoaaGreatDoorP4
import Derived.WalkKit
import Derived.BigRegion
set_option maxRecDepth 100000
section
namespace Go.Proofs.YtaomlijondiaoaaGreatDoor
namespace NT
def Prm (p : Nat) : Prop := 1 < p ∧ ∀ d, d ∣ p → d = 1 ∨ d = p
theorem Prm.cop {p : Nat} (h : Prm p) {a : Nat} (ha : ¬ p ∣ a) : Nat.Coprime p a := by
 rcases h.2 (Nat.gcd p a) (Nat.gcd_dvd_left p a) with h1 | h1
 ·exact h1
 ·exact absurd (h1 ▸ Nat.gcd_dvd_right p a) ha
theorem Prm.mul {p a b : Nat} (h : Prm p) (hd : p ∣ a * b) : p ∣ a ∨ p ∣ b := by
 by_cases ha : p ∣ a
 ·exact Or.inl ha
 ·exact Or.inr ((h.cop ha).dvd_of_dvd_mul_left hd)
theorem Prm.pos {p : Nat} (h : Prm p) : 0 < p := by have := h.1; omega
theorem prm_dvd (n : Nat) (h : 1 < n) : ∃ q, Prm q ∧ q ∣ n := by
 induction n using Nat.strongRecOn with
 | ind n ih =>
  by_cases hp : ∃ d, d ∣ n ∧ d ≠ 1 ∧ d ≠ n
  ·obtain ⟨d, hd, h1, h2⟩ := hp
   have hle := Nat.le_of_dvd (by omega) hd
   have h0 : d ≠ 0 := by
    intro e; rw [e] at hd; have := Nat.eq_zero_of_zero_dvd hd; omega
   obtain ⟨q, hq, hqd⟩ := ih d (by omega) (by omega)
   exact ⟨q, hq, Nat.dvd_trans hqd hd⟩
  ·refine ⟨n, ⟨h, ?_⟩, Nat.dvd_refl n⟩
   intro d hd
   by_cases h1 : d = 1
   ·exact Or.inl h1
   ·by_cases h2 : d = n
    ·exact Or.inr h2
    ·exact absurd ⟨d, hd, h1, h2⟩ hp
/-! Binomials. -/
def ch : Nat → Nat → Nat
 | _, 0 => 1
 | 0, _ + 1 => 0
 | n + 1, k + 1 => ch n k + ch n (k + 1)
theorem ch_zero (n : Nat) : ch n 0 = 1 := by cases n <;> rfl
theorem ch_big (n : Nat) : ∀ k, n < k → ch n k = 0 := by
 induction n with
 | zero => intro k hk; cases k with
  | zero => omega
  | succ k => rfl
 | succ n ih => intro k hk; cases k with
  | zero => omega
  | succ k => show ch n k + ch n (k + 1) = 0; rw [ih k (by omega), ih (k + 1) (by omega)]
theorem ch_self (n : Nat) : ch n n = 1 := by
 induction n with
 | zero => rfl
 | succ n ih => show ch n n + ch n (n + 1) = 1; rw [ih, ch_big n (n + 1) (by omega)]
theorem ch_absorb (n : Nat) : ∀ k, (k + 1) * ch (n + 1) (k + 1) = (n + 1) * ch n k := by
 induction n with
 | zero =>
  intro k
  cases k with
  | zero => rfl
  | succ k =>
   rw [ch_big 1 (k + 1 + 1) (by omega), ch_big 0 (k + 1) (by omega)]; omega
 | succ n ih =>
  intro k
  cases k with
  | zero =>
   have h := ih 0
   show (0 + 1) * (ch (n + 1) 0 + ch (n + 1) (0 + 1)) = _
   rw [Nat.mul_add, h, ch_zero, ch_zero]; omega
  | succ k =>
   have h1 := ih k
   have h2 := ih (k + 1)
   show (k + 1 + 1) * (ch (n + 1) (k + 1) + ch (n + 1) (k + 1 + 1)) = (n + 1 + 1) * (ch (n + 1) (k + 1))
   rw [Nat.mul_add, h2]
   have e : ch (n + 1) (k + 1) = ch n k + ch n (k + 1) := rfl
   rw [Nat.add_mul (k + 1) 1, h1, Nat.add_mul (n + 1) 1 (ch (n + 1) (k + 1))]
   have e' : (n + 1) * ch (n + 1) (k + 1) = (n + 1) * ch n k + (n + 1) * ch n (k + 1) := by rw [e, Nat.mul_add]
   omega
theorem ch_dvd {p : Nat} (hp : Prm p) (k : Nat) (h0 : 0 < k) (hk : k < p) : p ∣ ch p k := by
 obtain ⟨k, rfl⟩ : ∃ j, k = j + 1 := ⟨k - 1, by omega⟩
 obtain ⟨n, rfl⟩ : ∃ j, p = j + 1 := ⟨p - 1, by omega⟩
 have h : n + 1 ∣ (k + 1) * ch (n + 1) (k + 1) := ⟨ch n k, ch_absorb n k⟩
 rcases hp.mul h with h1 | h1
 ·have := Nat.le_of_dvd (by omega) h1; omega
 ·exact h1
def sm (f : Nat → Nat) : Nat → Nat
 | 0 => 0
 | n + 1 => sm f n + f n
theorem sm_first (f : Nat → Nat) (n : Nat) : sm f (n + 1) = f 0 + sm (fun k => f (k + 1)) n := by
 induction n with
 | zero => simp [sm]
 | succ n ih => rw [sm, ih]; simp only [sm]; omega
theorem sm_add (f g : Nat → Nat) (n : Nat) : sm (fun k => f k + g k) n = sm f n + sm g n := by
 induction n with
 | zero => rfl
 | succ n ih => simp only [sm]; rw [ih]; omega
theorem sm_mul (f : Nat → Nat) (c n : Nat) : sm (fun k => c * f k) n = c * sm f n := by
 induction n with
 | zero => rfl
 | succ n ih => simp only [sm]; rw [ih, Nat.mul_add]
theorem sm_congr (f g : Nat → Nat) (n : Nat) (h : ∀ k, k < n → f k = g k) : sm f n = sm g n := by
 induction n with
 | zero => rfl
 | succ n ih => simp only [sm]; rw [ih (fun k hk => h k (by omega)), h n (by omega)]
theorem sm_dvd (f : Nat → Nat) (p n : Nat) (h : ∀ k, k < n → p ∣ f k) : p ∣ sm f n := by
 induction n with
 | zero => exact Nat.dvd_zero p
 | succ n ih => exact Nat.dvd_add (ih (fun k hk => h k (by omega))) (h n (by omega))
theorem binom (a n : Nat) : (a + 1) ^ n = sm (fun k => ch n k * a ^ k) (n + 1) := by
 induction n with
 | zero => simp [sm, ch]
 | succ n ih =>
  rw [Nat.pow_succ, ih, Nat.mul_add, Nat.mul_one]
  rw [sm_first (fun k => ch (n + 1) k * a ^ k) (n + 1)]
  have e : ∀ k, ch (n + 1) (k + 1) * a ^ (k + 1) = a * (ch n k * a ^ k) + ch n (k + 1) * a ^ (k + 1) := by
   intro k
   show (ch n k + ch n (k + 1)) * a ^ (k + 1) = _
   rw [Nat.add_mul, Nat.pow_succ]
   congr 1
   rw [Nat.mul_comm (a ^ k) a, Nat.mul_left_comm]
  have e1 : sm (fun k => ch (n + 1) (k + 1) * a ^ (k + 1)) (n + 1)
    = a * sm (fun k => ch n k * a ^ k) (n + 1) + sm (fun k => ch n (k + 1) * a ^ (k + 1)) (n + 1) := by
   rw [← sm_mul, ← sm_add]
   exact sm_congr _ _ _ (fun k _ => e k)
  rw [e1]
  have e2 : sm (fun k => ch n k * a ^ k) (n + 1) = 1 + sm (fun k => ch n (k + 1) * a ^ (k + 1)) (n + 1) := by
   rw [sm_first (fun k => ch n k * a ^ k) n]
   have : sm (fun k => ch n (k + 1) * a ^ (k + 1)) (n + 1) = sm (fun k => ch n (k + 1) * a ^ (k + 1)) n + ch n (n + 1) * a ^ (n + 1) := rfl
   rw [this, ch_big n (n + 1) (by omega), ch_zero]
   simp
  rw [ch_zero, Nat.pow_zero, Nat.mul_comm _ a]
  omega
theorem dream {p : Nat} (hp : Prm p) (a : Nat) : (a + 1) ^ p % p = (a ^ p + 1) % p := by
 obtain ⟨n, rfl⟩ : ∃ j, p = j + 1 := ⟨p - 1, by have := hp.1; omega⟩
 rw [binom, sm, sm_first]
 obtain ⟨c, hc⟩ := sm_dvd (fun k => ch (n + 1) (k + 1) * a ^ (k + 1)) (n + 1) n
  (fun k hk => Nat.dvd_trans (ch_dvd hp (k + 1) (by omega) (by omega)) (Nat.dvd_mul_right _ _))
 rw [hc, ch_self, ch_zero, Nat.pow_zero]
 have : 1 * 1 + (n + 1) * c + 1 * a ^ (n + 1) = (a ^ (n + 1) + 1) + (n + 1) * c := by omega
 rw [this, Nat.add_mul_mod_self_left]
theorem fermat {p : Nat} (hp : Prm p) (a : Nat) : a ^ p % p = a % p := by
 induction a with
 | zero => rw [Nat.zero_pow hp.pos]
 | succ a ih => rw [dream hp, Nat.add_mod, ih, ← Nat.add_mod]
theorem fermat1 {p : Nat} (hp : Prm p) (a : Nat) (ha : ¬ p ∣ a) : a ^ (p - 1) % p = 1 := by
 have h := fermat hp a
 obtain ⟨n, rfl⟩ : ∃ j, p = j + 1 := ⟨p - 1, by have := hp.1; omega⟩
 rw [Nat.add_sub_cancel]
 rw [Nat.pow_succ] at h
 have hn : 0 < n := by have := hp.1; omega
 have h1 : 1 ≤ a ^ n := Nat.one_le_iff_ne_zero.mpr (fun e => by
  rcases Nat.pow_eq_zero.mp e with ⟨e1, -⟩
  rw [e1] at ha; exact ha (Nat.dvd_zero _))
 have h2 : n + 1 ∣ (a ^ n - 1) * a := by
  rw [Nat.sub_mul, Nat.one_mul]
  exact Nat.dvd_of_mod_eq_zero (Nat.sub_mod_eq_zero_of_mod_eq h)
 rcases hp.mul h2 with h3 | h3
 ·obtain ⟨c, hc⟩ := h3
  have : a ^ n = 1 + (n + 1) * c := by omega
  rw [this, Nat.add_mul_mod_self_left, Nat.mod_eq_of_lt hp.1]
 ·exact absurd h3 ha
/-! Orders. -/
theorem least (P : Nat → Prop) (n : Nat) (h : P n) : ∃ m, P m ∧ ∀ k, k < m → ¬ P k := by
 induction n using Nat.strongRecOn with
 | ind n ih =>
  by_cases hk : ∃ k, k < n ∧ P k
  ·obtain ⟨k, h1, h2⟩ := hk
   exact ih k h1 h2
  ·exact ⟨n, h, fun k h1 h2 => hk ⟨k, h1, h2⟩⟩
theorem order {d : Nat} (hd : Prm d) (a : Nat) (ha : ¬ d ∣ a) :
  ∃ e, e ∣ d - 1 ∧ a ^ e % d = 1 ∧ ∀ m, a ^ m % d = 1 → e ∣ m := by
 obtain ⟨e, ⟨h0, h1⟩, h2⟩ := least (fun e => 0 < e ∧ a ^ e % d = 1) (d - 1) ⟨by have := hd.1; omega, fermat1 hd a ha⟩
 have h3 : ∀ m, a ^ m % d = 1 → e ∣ m := by
  intro m hm
  by_cases hr : m % e = 0
  ·exact Nat.dvd_of_mod_eq_zero hr
  ·exfalso
   refine h2 (m % e) (Nat.mod_lt _ h0) ⟨by omega, ?_⟩
   have e1 : a ^ m = (a ^ e) ^ (m / e) * a ^ (m % e) := by
    rw [← Nat.pow_mul, ← Nat.pow_add, Nat.div_add_mod]
   rw [e1, Nat.mul_mod, Nat.pow_mod, h1, Nat.one_pow, Nat.mod_eq_of_lt hd.1, Nat.one_mul, Nat.mod_mod] at hm
   exact hm
 exact ⟨e, h3 _ (fermat1 hd a ha), h1, h3⟩
theorem pock {N M F a d : Nat} (qs : List Nat) (hM : N = M + 1) (hF : F ∣ M) (hd : Prm d) (hdN : d ∣ N) (h1 : a ^ M % N = 1)
  (hc : ∀ t, (∀ q, q ∈ qs → Nat.Coprime q t) → Nat.Coprime F t)
  (hq : ∀ q, q ∈ qs → Prm q ∧ q ∣ M ∧ Nat.Coprime (a ^ (M / q) % N + M) N) : F ∣ d - 1 := by
 have hmod : ∀ x, x % N % d = x % d := fun x => Nat.mod_mod_of_dvd x hdN
 have h1d : a ^ M % d = 1 := by rw [← hmod, h1, Nat.mod_eq_of_lt hd.1]
 have hM0 : M ≠ 0 := by
  intro e; rw [e] at hM; rw [hM] at hdN; have := Nat.dvd_one.mp hdN; have := hd.1; omega
 have ha : ¬ d ∣ a := by
  intro h
  have h2 : d ∣ a ^ M := Nat.dvd_trans h (by
   obtain ⟨k, hk⟩ : ∃ k, M = k + 1 := ⟨M - 1, by omega⟩
   rw [hk, Nat.pow_succ]; exact Nat.dvd_mul_left _ _)
  have := Nat.mod_eq_zero_of_dvd h2
  omega
 obtain ⟨e, h2, h3, h4⟩ := order hd a ha
 obtain ⟨t, ht⟩ := h4 M h1d
 have hcop : Nat.Coprime F t := by
  refine hc t (fun q hqm => ?_)
  obtain ⟨g1, g2, g3⟩ := hq q hqm
  refine g1.cop (fun hqt => ?_)
  obtain ⟨s, hs⟩ := hqt
  have g4 : M / q = e * s := by
   rw [ht, hs, Nat.mul_left_comm, Nat.mul_div_cancel_left _ g1.pos]
  have g5 : a ^ (M / q) % d = 1 := by
   rw [g4, Nat.pow_mul, Nat.pow_mod, h3, Nat.one_pow, Nat.mod_eq_of_lt hd.1]
  have g6 : d ∣ a ^ (M / q) % N + M := by
   refine Nat.dvd_of_mod_eq_zero ?_
   rw [Nat.add_mod, hmod, g5, ← Nat.mod_eq_of_lt hd.1, ← Nat.add_mod, Nat.add_comm 1 M, ← hM]
   exact Nat.mod_eq_zero_of_dvd hdN
  have g7 := Nat.dvd_gcd g6 hdN
  rw [g3] at g7
  have := Nat.dvd_one.mp g7; have := hd.1; omega
 have h5 : F ∣ e := hcop.dvd_of_dvd_mul_right (ht ▸ hF)
 exact Nat.dvd_trans h5 h2
theorem prm_of {N F : Nat} (hN : 1 < N) (hF : N < F * F) (h : ∀ d, Prm d → d ∣ N → F ∣ d - 1) : Prm N := by
 obtain ⟨d, hd, hdN⟩ := prm_dvd N hN
 by_cases e : d = N
 ·exact e ▸ hd
 ·exfalso
  obtain ⟨c, hc⟩ := hdN
  have hc1 : 1 < c := by
   rcases c with _ | _ | c
   ·omega
   ·omega
   ·omega
  obtain ⟨d', hd', hdc⟩ := prm_dvd c hc1
  have g1 : F ≤ d - 1 := Nat.le_of_dvd (by have := hd.1; omega) (h d hd ⟨c, hc⟩)
  have g2 : F ≤ d' - 1 := Nat.le_of_dvd (by have := hd'.1; omega) (h d' hd' (Nat.dvd_trans hdc ⟨d, by rw [hc, Nat.mul_comm]⟩))
  have g3 := Nat.le_of_dvd (by omega) hdc
  have g4 : F * F ≤ d * c := Nat.mul_le_mul (by omega) (by omega)
  omega
theorem all_one {N F : Nat} (h : ∀ d, Prm d → d ∣ N → F ∣ d - 1) : ∀ c, 0 < c → c ∣ N → F ∣ c - 1 := by
 intro c
 induction c using Nat.strongRecOn with
 | ind c ih =>
  intro h0 hc
  by_cases h1 : c = 1
  ·rw [h1]; exact Nat.dvd_zero F
  ·obtain ⟨d, hd, hdc⟩ := prm_dvd c (by omega)
   obtain ⟨b, hb⟩ := hdc
   have hb0 : 0 < b := by
    rcases b with _ | b
    ·omega
    ·omega
   have g1 := h d hd (Nat.dvd_trans ⟨b, hb⟩ hc)
   have hlt : b < c := by
    have := hd.1
    have : 2 * b ≤ d * b := Nat.mul_le_mul (by omega) (Nat.le_refl b)
    omega
   have g2 := ih b hlt hb0 (Nat.dvd_trans ⟨d, by rw [hb, Nat.mul_comm]⟩ hc)
   obtain ⟨x, hx⟩ := g1
   obtain ⟨y, hy⟩ := g2
   have ed : d = F * x + 1 := by have := hd.1; omega
   have eb : b = F * y + 1 := by omega
   refine ⟨F * x * y + x + y, ?_⟩
   have : (F * x + 1) * (F * y + 1) = F * (F * x * y + x + y) + 1 := by grind
   rw [hb, ed, eb, this, Nat.add_sub_cancel]
theorem prm_cube {N F c1 c2 s : Nat} (hN : 1 < N) (hF : 1 < F) (e : N = 1 + F * c1 + F * F * c2) (h1 : c1 < F) (h2 : c2 + 1 < F)
  (hs : s * s + 4 * c2 < c1 * c1) (hs2 : c1 * c1 < (s + 1) * (s + 1) + 4 * c2)
  (h : ∀ d, Prm d → d ∣ N → F ∣ d - 1) : Prm N := by
 have hall := all_one h
 refine ⟨hN, fun d hd => ?_⟩
 obtain ⟨c, hc⟩ := hd
 have hd0 : 0 < d := by
  rcases d with _ | d
  ·rw [Nat.zero_mul] at hc; omega
  ·omega
 have hc0 : 0 < c := by
  rcases c with _ | c
  ·rw [Nat.mul_zero] at hc; omega
  ·omega
 obtain ⟨x, hx⟩ := hall d hd0 ⟨c, hc⟩
 obtain ⟨y, hy⟩ := hall c hc0 ⟨d, by rw [hc, Nat.mul_comm]⟩
 have ed : d = F * x + 1 := by omega
 have ec : c = F * y + 1 := by omega
 by_cases hx0 : x = 0
 ·left; rw [ed, hx0]; omega
 by_cases hy0 : y = 0
 ·right; rw [hc, ec, hy0]; simp
 exfalso
 have e1 : 1 + F * c1 + F * F * c2 = 1 + F * (x + y) + F * F * (x * y) := by
  rw [← e, hc, ed, ec]
  grind
 have e2 : c1 + F * c2 = (x + y) + F * (x * y) := by
  have : F * (c1 + F * c2) = F * ((x + y) + F * (x * y)) := by
   grind
  exact Nat.eq_of_mul_eq_mul_left (by omega) this
 -- x y is at most c2 + something: bring both below F
 have hxy : x * y ≤ c2 := by
  rcases Nat.lt_or_ge c2 (x * y) with h5 | h5
  ·exfalso
   have : F * (c2 + 1) ≤ F * (x * y) := Nat.mul_le_mul (Nat.le_refl F) h5
   have : F * (c2 + 1) = F * c2 + F := by rw [Nat.mul_add, Nat.mul_one]
   omega
  ·exact h5
 have hsum : x + y ≤ x * y + 1 := by
  obtain ⟨x', rfl⟩ : ∃ k, x = k + 1 := ⟨x - 1, by omega⟩
  obtain ⟨y', rfl⟩ : ∃ k, y = k + 1 := ⟨y - 1, by omega⟩
  have : (x' + 1) * (y' + 1) = x' * y' + x' + y' + 1 := by grind
  omega
 have hxye : x * y = c2 := by
  rcases Nat.lt_or_ge (x * y) c2 with h5 | h5
  ·exfalso
   have : F * (x * y + 1) ≤ F * c2 := Nat.mul_le_mul (Nat.le_refl F) h5
   have : F * (x * y + 1) = F * (x * y) + F := by rw [Nat.mul_add, Nat.mul_one]
   omega
  ·omega
 have hs1 : x + y = c1 := by rw [hxye] at e2; omega
 -- (x - y)^2 = c1 c1 - 4 c2
 rcases Nat.le_total x y with hle | hle
 ·obtain ⟨k, hk⟩ : ∃ k, y = x + k := ⟨y - x, by omega⟩
  have hsq : c1 * c1 = k * k + 4 * c2 := by rw [← hs1, ← hxye, hk]; grind
  have a1 : s * s < k * k := by omega
  have a2 : k * k < (s + 1) * (s + 1) := by omega
  have b1 : s < k := Nat.mul_self_lt_mul_self_iff.mp a1
  have b2 : k < s + 1 := Nat.mul_self_lt_mul_self_iff.mp a2
  omega
 ·obtain ⟨k, hk⟩ : ∃ k, x = y + k := ⟨x - y, by omega⟩
  have hsq : c1 * c1 = k * k + 4 * c2 := by rw [← hs1, ← hxye, hk]; grind
  have a1 : s * s < k * k := by omega
  have a2 : k * k < (s + 1) * (s + 1) := by omega
  have b1 : s < k := Nat.mul_self_lt_mul_self_iff.mp a1
  have b2 : k < s + 1 := Nat.mul_self_lt_mul_self_iff.mp a2
  omega
/-! Powers by squaring, for the kernel. -/
def pm (N : Nat) : Nat → Nat → Nat → Nat → Nat
 | 0, _, _, acc => acc
 | f + 1, b, e, acc => pm N f (b * b % N) (e / 2) (if e % 2 = 1 then acc * b % N else acc)
theorem pm_spec (N : Nat) (f : Nat) : ∀ b e acc, e < 2 ^ f → pm N f b e acc % N = acc * b ^ e % N := by
 induction f with
 | zero =>
  intro b e acc h
  have : e = 0 := by simpa using h
  rw [this, Nat.pow_zero, Nat.mul_one]; rfl
 | succ f ih =>
  intro b e acc h
  show pm N f (b * b % N) (e / 2) (if e % 2 = 1 then acc * b % N else acc) % N = _
  rw [ih _ _ _ (by rw [Nat.pow_succ] at h; omega)]
  have h1 : (b * b % N) ^ (e / 2) % N = b ^ (2 * (e / 2)) % N := by
   rw [← Nat.pow_mod, Nat.pow_mul, Nat.pow_two]
  rw [Nat.mul_mod, h1, ← Nat.mul_mod]
  by_cases he : e % 2 = 1
  ·rw [if_pos he, Nat.mul_mod, Nat.mod_mod, ← Nat.mul_mod, Nat.mul_assoc, ← Nat.pow_add_one']
   have : 2 * (e / 2) + 1 = e := by omega
   rw [this]
  ·rw [if_neg he]
   have : 2 * (e / 2) = e := by omega
   rw [this]
theorem pm_spec2 (N g h b e acc : Nat) (hh : e < 2 ^ g * 2 ^ h) : pm N (g + h) b e acc % N = acc * b ^ e % N :=
 pm_spec N (g + h) b e acc (by rw [Nat.pow_add]; exact hh)
theorem pm_eq {N a e c : Nat} (h : e < 2 ^ 256 * 2 ^ 256 ∧ pm N 512 a e 1 % N = c) : a ^ e % N = c := by
 have := pm_spec2 N 256 256 a e 1 h.1
 rw [Nat.one_mul] at this
 rw [← this]; exact h.2
theorem cop_pm {N a e M : Nat} (h : e < 2 ^ 256 * 2 ^ 256 ∧ Nat.gcd (pm N 512 a e 1 % N + M) N = 1) : Nat.Coprime (a ^ e % N + M) N := by
 have := pm_eq (N := N) (a := a) (e := e) ⟨h.1, rfl⟩
 rw [this]; exact h.2
/-! Trial division. -/
def tr (n : Nat) : Nat → Nat → Bool
 | 0, _ => true
 | f + 1, d => if n % d = 0 then false else tr n f (d + 1)
theorem tr_spec (n : Nat) (f : Nat) : ∀ d, tr n f d = true → ∀ c, d ≤ c → c < d + f → ¬ c ∣ n := by
 induction f with
 | zero => intro d _ c h1 h2; omega
 | succ f ih =>
  intro d h c h1 h2 hc
  unfold tr at h
  by_cases h0 : n % d = 0
  ·rw [if_pos h0] at h; exact absurd h (by decide)
  ·rw [if_neg h0] at h
   by_cases e : c = d
   ·rw [e] at hc; exact h0 (Nat.mod_eq_zero_of_dvd hc)
   ·exact ih (d + 1) h c (by omega) (by omega) hc
theorem prm_trial (n f : Nat) (h1 : 1 < n) (h2 : n < (f + 2) * (f + 2)) (h : n < 4 ∨ tr n f 2 = true) : Prm n := by
 refine ⟨h1, fun d hd => ?_⟩
 obtain ⟨c, hc⟩ := hd
 rcases h with h | h
 ·have hd2 : d = 1 ∨ d = n := by
   have hle := Nat.le_of_dvd (by omega) (⟨c, hc⟩ : d ∣ n)
   have h0 : d ≠ 0 := by
    intro e; rw [e, Nat.zero_mul] at hc; omega
   rcases d with _ | _ | _ | d
   ·exact absurd rfl h0
   ·left; rfl
   ·right
    have : n = 2 ∨ n = 3 := by omega
    rcases this with e | e
    ·omega
    ·omega
   ·right; omega
  exact hd2
 ·have key : ∀ x y, n = x * y → x ≤ y → x = 1 ∨ x = 0 := by
   intro x y e hle
   rcases Nat.lt_or_ge x 2 with g | g
   ·omega
   ·exfalso
    refine tr_spec n f 2 h x g ?_ ⟨y, e⟩
    rcases Nat.lt_or_ge x (2 + f) with g2 | g2
    ·exact g2
    ·exfalso
     have : (f + 2) * (f + 2) ≤ x * y := Nat.mul_le_mul (by omega) (by omega)
     omega
  rcases Nat.le_total d c with hle | hle
  ·rcases key d c hc hle with e | e
   ·exact Or.inl e
   ·rw [e, Nat.zero_mul] at hc; omega
  ·rcases key c d (by rw [hc, Nat.mul_comm]) hle with e | e
   ·right; rw [hc, e, Nat.mul_one]
   ·rw [e, Nat.mul_zero] at hc; omega
theorem pockp {N M F a d : Nat} (qs : List Nat) (hM : N = M + 1) (hF : F ∣ M) (hd : Prm d) (hdN : d ∣ N) (h1 : M < 2 ^ 256 * 2 ^ 256 ∧ pm N 512 a M 1 % N = 1)
  (hc : ∀ t, (∀ q, q ∈ qs → Nat.Coprime q t) → Nat.Coprime F t)
  (hq : ∀ q, q ∈ qs → Prm q ∧ q ∣ M ∧ M / q < 2 ^ 256 * 2 ^ 256 ∧ Nat.gcd (pm N 512 a (M / q) 1 % N + M) N = 1) : F ∣ d - 1 :=
 pock qs hM hF hd hdN (pm_eq h1) hc (fun q h => ⟨(hq q h).1, (hq q h).2.1, cop_pm (hq q h).2.2⟩)
theorem prm_7577 : Prm 7577 := prm_trial 7577 88 (by decide) (by decide) (by decide +kernel)
theorem prm_582767 : Prm 582767 := prm_trial 582767 764 (by decide) (by decide) (by decide +kernel)
theorem fac_9272813673901 : ∀ d, Prm d → d ∣ 9272813673901 → 4415625559 ∣ d - 1 := by
 intro d hd hdN
 refine pockp (N := 9272813673901) (M := 9272813673900) (F := 4415625559) (a := 2) [7577, 582767] (by decide) (by decide +kernel) hd hdN (by decide +kernel) ?_ ?_
 ·intro t h
  have e : 4415625559 = (7577 * 582767) := by decide
  rw [e]
  exact Nat.Coprime.mul_left ((h 7577 (by decide))) ((h 582767 (by decide)))
 ·intro q hq
  simp only [List.mem_cons, List.not_mem_nil, or_false] at hq
  rcases hq with rfl | rfl
  ·exact ⟨prm_7577, by decide +kernel, by decide +kernel⟩
  ·exact ⟨prm_582767, by decide +kernel, by decide +kernel⟩
theorem prm_9272813673901 : Prm 9272813673901 := prm_of (by decide) (by decide) fac_9272813673901
theorem fac_1928745244171409 : ∀ d, Prm d → d ∣ 1928745244171409 → 9272813673901 ∣ d - 1 := by
 intro d hd hdN
 refine pockp (N := 1928745244171409) (M := 1928745244171408) (F := 9272813673901) (a := 2) [9272813673901] (by decide) (by decide +kernel) hd hdN (by decide +kernel) ?_ ?_
 ·intro t h
  have e : 9272813673901 = 9272813673901 := by decide
  rw [e]
  exact (h 9272813673901 (by decide))
 ·intro q hq
  simp only [List.mem_cons, List.not_mem_nil, or_false] at hq
  subst hq
  ·exact ⟨prm_9272813673901, by decide +kernel, by decide +kernel⟩
theorem prm_1928745244171409 : Prm 1928745244171409 := prm_of (by decide) (by decide) fac_1928745244171409
theorem fac_7259797099061183477 : ∀ d, Prm d → d ∣ 7259797099061183477 → 1928745244171409 ∣ d - 1 := by
 intro d hd hdN
 refine pockp (N := 7259797099061183477) (M := 7259797099061183476) (F := 1928745244171409) (a := 2) [1928745244171409] (by decide) (by decide +kernel) hd hdN (by decide +kernel) ?_ ?_
 ·intro t h
  have e : 1928745244171409 = 1928745244171409 := by decide
  rw [e]
  exact (h 1928745244171409 (by decide))
 ·intro q hq
  simp only [List.mem_cons, List.not_mem_nil, or_false] at hq
  subst hq
  ·exact ⟨prm_1928745244171409, by decide +kernel, by decide +kernel⟩
theorem prm_7259797099061183477 : Prm 7259797099061183477 := prm_of (by decide) (by decide) fac_7259797099061183477
theorem fac_2584487767265781317813 : ∀ d, Prm d → d ∣ 2584487767265781317813 → 7259797099061183477 ∣ d - 1 := by
 intro d hd hdN
 refine pockp (N := 2584487767265781317813) (M := 2584487767265781317812) (F := 7259797099061183477) (a := 2) [7259797099061183477] (by decide) (by decide +kernel) hd hdN (by decide +kernel) ?_ ?_
 ·intro t h
  have e : 7259797099061183477 = 7259797099061183477 := by decide
  rw [e]
  exact (h 7259797099061183477 (by decide))
 ·intro q hq
  simp only [List.mem_cons, List.not_mem_nil, or_false] at hq
  subst hq
  ·exact ⟨prm_7259797099061183477, by decide +kernel, by decide +kernel⟩
theorem prm_2584487767265781317813 : Prm 2584487767265781317813 := prm_of (by decide) (by decide) fac_2584487767265781317813
theorem prm_2 : Prm 2 := prm_trial 2 2 (by decide) (by decide) (by decide +kernel)
theorem prm_3 : Prm 3 := prm_trial 3 2 (by decide) (by decide) (by decide +kernel)
theorem prm_11 : Prm 11 := prm_trial 11 4 (by decide) (by decide) (by decide +kernel)
theorem prm_23 : Prm 23 := prm_trial 23 5 (by decide) (by decide) (by decide +kernel)
theorem prm_47 : Prm 47 := prm_trial 47 7 (by decide) (by decide) (by decide +kernel)
theorem prm_10177 : Prm 10177 := prm_trial 10177 101 (by decide) (by decide) (by decide +kernel)
theorem prm_859267 : Prm 859267 := prm_trial 859267 927 (by decide) (by decide) (by decide +kernel)
theorem prm_52437899 : Prm 52437899 := prm_trial 52437899 7242 (by decide) (by decide) (by decide +kernel)
theorem fac_p : ∀ d, Prm d → d ∣ 4002409555221667393417789825735904156556882819939007885332058136124031650490837864442687629129015664037894272559787 → 253663835868735594330404923636534084567099854 ∣ d - 1 := by
 intro d hd hdN
 refine pockp (N := 4002409555221667393417789825735904156556882819939007885332058136124031650490837864442687629129015664037894272559787) (M := 4002409555221667393417789825735904156556882819939007885332058136124031650490837864442687629129015664037894272559786) (F := 253663835868735594330404923636534084567099854) (a := 2) [2, 3, 11, 23, 47, 10177, 859267, 52437899, 2584487767265781317813] (by decide) (by decide +kernel) hd hdN (by decide +kernel) ?_ ?_
 ·intro t h
  have e : 253663835868735594330404923636534084567099854 = (2 * (3 ^ 2 * (11 * (23 * (47 * (10177 * (859267 * (52437899 * 2584487767265781317813)))))))) := by decide
  rw [e]
  exact Nat.Coprime.mul_left ((h 2 (by decide))) (Nat.Coprime.mul_left (Nat.Coprime.pow_left 2 (h 3 (by decide))) (Nat.Coprime.mul_left ((h 11 (by decide))) (Nat.Coprime.mul_left ((h 23 (by decide))) (Nat.Coprime.mul_left ((h 47 (by decide))) (Nat.Coprime.mul_left ((h 10177 (by decide))) (Nat.Coprime.mul_left ((h 859267 (by decide))) (Nat.Coprime.mul_left ((h 52437899 (by decide))) ((h 2584487767265781317813 (by decide))))))))))
 ·intro q hq
  simp only [List.mem_cons, List.not_mem_nil, or_false] at hq
  rcases hq with rfl | rfl | rfl | rfl | rfl | rfl | rfl | rfl | rfl
  ·exact ⟨prm_2, by decide +kernel, by decide +kernel⟩
  ·exact ⟨prm_3, by decide +kernel, by decide +kernel⟩
  ·exact ⟨prm_11, by decide +kernel, by decide +kernel⟩
  ·exact ⟨prm_23, by decide +kernel, by decide +kernel⟩
  ·exact ⟨prm_47, by decide +kernel, by decide +kernel⟩
  ·exact ⟨prm_10177, by decide +kernel, by decide +kernel⟩
  ·exact ⟨prm_859267, by decide +kernel, by decide +kernel⟩
  ·exact ⟨prm_52437899, by decide +kernel, by decide +kernel⟩
  ·exact ⟨prm_2584487767265781317813, by decide +kernel, by decide +kernel⟩
theorem prm_p : Prm 4002409555221667393417789825735904156556882819939007885332058136124031650490837864442687629129015664037894272559787 := prm_cube (F := 253663835868735594330404923636534084567099854) (c1 := 41045055325326579460269857981194636858402675) (c2 := 62202009562450627810769096) (s := 41045055325326579460269857981194636858402674) (by decide) (by decide) (by decide) (by decide) (by decide) (by decide) (by decide) fac_p
theorem even_pow {p a b : Nat} (h : (a + b) % p = 0) (k : Nat) : a ^ (2 * k) % p = b ^ (2 * k) % p := by
 rw [Nat.pow_mul, Nat.pow_mul, Nat.pow_mod, Nat.pow_mod (b ^ 2)]
 congr 2
 rw [Nat.pow_two, Nat.pow_two]
 have e : a * a + b * (a + b) = b * b + a * (a + b) := by grind
 have e1 : (a * a + b * (a + b)) % p = a * a % p := by rw [Nat.add_mod, Nat.mul_mod b, h, Nat.mul_zero, Nat.zero_mod, Nat.add_zero, Nat.mod_mod]
 have e2 : (b * b + a * (a + b)) % p = b * b % p := by rw [Nat.add_mod, Nat.mul_mod a, h, Nat.mul_zero, Nat.zero_mod, Nat.add_zero, Nat.mod_mod]
 rw [← e1, ← e2, e]
theorem twice_ne {p a b : Nat} (hp : Prm p) (h2 : p % 2 = 1) (ha : ¬ p ∣ a) (h : (a + b) % p = 0) (e : a % p = b % p) : False := by
 have h1 : p ∣ 2 * a := by
  refine Nat.dvd_of_mod_eq_zero ?_
  rw [show 2 * a = a + a by omega, Nat.add_mod]
  rw [Nat.add_mod, ← e] at h
  exact h
 rcases hp.mul h1 with h3 | h3
 ·have := Nat.le_of_dvd (by decide) h3
  have := hp.1
  omega
 ·exact ha h3
end NT
end Go.Proofs.YtaomlijondiaoaaGreatDoor
end
section
namespace Go.Proofs.YtaomlijondiaoaaGreatDoor
open Go.RowKit
namespace Rg
def pB : Nat := 4002409555221667393417789825735904156556882819939007885332058136124031650490837864442687629129015664037894272559787
theorem pB_0 : wd pB 0 = 13402431016077863595 := by decide +kernel
theorem pB_1 : wd pB 1 = 2210141511517208575 := by decide +kernel
theorem pB_2 : wd pB 2 = 7435674573564081700 := by decide +kernel
theorem pB_3 : wd pB 3 = 7239337960414712511 := by decide +kernel
theorem pB_4 : wd pB 4 = 5412103778470702295 := by decide +kernel
theorem pB_5 : wd pB 5 = 1873798617647539866 := by decide +kernel
theorem pB_lt : pB < big := by
 have h : 4 * pB < big := by decide +kernel
 omega
theorem pB_ok : Ok pB := ⟨by decide +kernel, by decide +kernel, by decide +kernel⟩
theorem ex_build_pB {ρ : Operand → Value} {o : Oper} {w : World} (ho : o.op = .build 24 #[(0, .const (.int .u64 13402431016077863595)), (1, .const (.int .u64 2210141511517208575)), (2, .const (.int .u64 7435674573564081700)), (3, .const (.int .u64 7239337960414712511)), (4, .const (.int .u64 5412103778470702295)), (5, .const (.int .u64 1873798617647539866))]) (h0 : ρ (.const (.int .u64 13402431016077863595)) = .int .u64 13402431016077863595) (h1 : ρ (.const (.int .u64 2210141511517208575)) = .int .u64 2210141511517208575) (h2 : ρ (.const (.int .u64 7435674573564081700)) = .int .u64 7435674573564081700) (h3 : ρ (.const (.int .u64 7239337960414712511)) = .int .u64 7239337960414712511) (h4 : ρ (.const (.int .u64 5412103778470702295)) = .int .u64 5412103778470702295) (h5 : ρ (.const (.int .u64 1873798617647539866)) = .int .u64 1873798617647539866) : (execOp ρ o).run Tryz.prog w = .ok (.value (N pB)) w := by
 have e : N pB = .agg #[.int .u64 13402431016077863595, .int .u64 2210141511517208575, .int .u64 7435674573564081700, .int .u64 7239337960414712511, .int .u64 5412103778470702295, .int .u64 1873798617647539866] := by simp only [N, pB_0, pB_1, pB_2, pB_3, pB_4, pB_5]
 rw [e]
 clear e
 simp only [execOp, ho]
 go_simp
theorem base_pB (w : World) :
  Calls Tryz.prog 82 #[] w (Rt w (N pB)) := by
 have H0 : Hid (_ ∧ _) := ⟨Mm.nil w, Below.refl w.heap.size w⟩
 go_enter Tryz.func82, Tryz.ntmps82
 refine wp_seq ?_
 refine zC 1 [.made zero6 24] (sB H0) ?ho1 ?he1
 case ho1 => exact am (zJ rfl) trivial
 intro γ w1 l hM hl
 have H1 : Hid (Mm w1 [(γ 0, zero6)] ∧ _) := wB H0 hM hl [0]
 have o1_0 := vB H0 hM hl 0
 clear hM hl l
 generalize γ 0 = γ1_0 at H1 o1_0 ⊢
 clear γ
 refine rN (wp_seq ?_)
 refine zB 1 [.quiet (N pB)] H1 ?ho2 ?he2
 case ho2 => exact ak (fun γ => ⟨rfl, fun w' _ => ex_build_pB rfl rfl rfl rfl rfl rfl rfl ⟩) trivial
 intro _ w2 H2
 clear H1
 refine zF (l := [1]) rfl ?_
 refine sG rfl (fun h => zO h 0 rfl rfl rfl rfl (Nat.le_of_ble_eq_true rfl)) 0 [(_, zD pB)] H2 o1_0 fun w3 H3 => ?_
 clear H2
 refine zE (zA (wp_ret ?_))
 repeat (first | refine zM ?_ | refine zI ?_)
 have c0 := H3.out.1.get 0 rfl 0 rfl
 have c1 := H3.out.1.get 0 rfl 1 rfl
 have c2 := H3.out.1.get 0 rfl 2 rfl
 have c3 := H3.out.1.get 0 rfl 3 rfl
 have c4 := H3.out.1.get 0 rfl 4 rfl
 have c5 := H3.out.1.get 0 rfl 5 rfl
 refine bodyPost_ret (v := N pB) (by simp [results, Tryz.results82, go_sem, *]) rfl ?_
 exact ⟨rfl, H3.out.2⟩
theorem zero_take : (zero6.drop 0).take 6 = zD 0 := by
 rw [show zD 0 = zero6 from cells_zero]
 rfl
abbrev G1 (g : Nat) (tn : Value) (u b : Nat) : List Value := [Value.func (.func 83) #[PT g 0] #[], Value.func (.func 84) #[PT g 0] #[], Value.func (.func 85) #[PT g 0] #[], Value.func (.func 86) #[PT g 0] #[], Value.func (.func 87) #[] #[]] ++ (cel [u, b] ++ [tn, Value.int .i64 2])
structure Fd1 (g : Nat) {α : Type} (en : α → Nat) (fa fs fm : α → α → α) (fi : α → α) (z : α) : Prop where
 ca : ∀ x y w, Mm w [(g, yB pB), (0, dtab)] → Calls Tryz.prog 83 #[PT g 0, N (en x), N (en y)] w (Rt w (N (en (fa x y))))
 cs : ∀ x y w, Mm w [(g, yB pB), (0, dtab)] → Calls Tryz.prog 84 #[PT g 0, N (en x), N (en y)] w (Rt w (N (en (fs x y))))
 cm : ∀ x y w, Mm w [(g, yB pB), (0, dtab)] → Calls Tryz.prog 85 #[PT g 0, N (en x), N (en y)] w (Rt w (N (en (fm x y))))
 cz : ∀ x w, Mm w [(g, yB pB), (0, dtab)] → Calls Tryz.prog 84 #[PT g 0, N 0, N (en x)] w (Rt w (N (en (fs z x))))
 ci : ∀ x w, x ≠ z → Mm w [(g, yB pB), (0, dtab)] → Calls Tryz.prog 86 #[PT g 0, N (en x)] w (Rt w (.tuple #[N (en (fi x)), .int .i64 0]))
theorem Fd1.ka {α : Type} {en : α → Nat} {fa fs fm : α → α → α} {fi : α → α} {z : α} {g : Nat} (C : Fd1 g en fa fs fm fi z) {x y r : α} (e : fa x y = r) (w : World) (hm : Mm w [(g, yB pB), (0, dtab)]) : Calls Tryz.prog 83 #[PT g 0, N (en x), N (en y)] w (Rt w (N (en r))) := by
 subst e
 exact C.ca x y w hm
theorem Fd1.ks {α : Type} {en : α → Nat} {fa fs fm : α → α → α} {fi : α → α} {z : α} {g : Nat} (C : Fd1 g en fa fs fm fi z) {x y r : α} (e : fs x y = r) (w : World) (hm : Mm w [(g, yB pB), (0, dtab)]) : Calls Tryz.prog 84 #[PT g 0, N (en x), N (en y)] w (Rt w (N (en r))) := by
 subst e
 exact C.cs x y w hm
theorem Fd1.km {α : Type} {en : α → Nat} {fa fs fm : α → α → α} {fi : α → α} {z : α} {g : Nat} (C : Fd1 g en fa fs fm fi z) {x y r : α} (e : fm x y = r) (w : World) (hm : Mm w [(g, yB pB), (0, dtab)]) : Calls Tryz.prog 85 #[PT g 0, N (en x), N (en y)] w (Rt w (N (en r))) := by
 subst e
 exact C.cm x y w hm
abbrev G2 (tn : Value) (u0 u1 b0 b1 : Nat) : List Value := [Value.func (.func 103) #[] #[], Value.func (.func 104) #[] #[], Value.func (.func 105) #[] #[], Value.func (.func 106) #[] #[], Value.func (.func 107) #[] #[]] ++ (cel [u0, u1, b0, b1] ++ [tn, Value.int .i64 1])
structure Fd2 {α : Type} (e0 e1 : α → Nat) (fa fs fm : α → α → α) (fi : α → α) (z : α) : Prop where
 ca : ∀ x y w, Mm w [(0, dtab)] → Calls Tryz.prog 103 #[V [e0 x, e1 x], V [e0 y, e1 y]] w (Rt w (V [e0 (fa x y), e1 (fa x y)]))
 cs : ∀ x y w, Mm w [(0, dtab)] → Calls Tryz.prog 104 #[V [e0 x, e1 x], V [e0 y, e1 y]] w (Rt w (V [e0 (fs x y), e1 (fs x y)]))
 cm : ∀ x y w, Mm w [(0, dtab)] → Calls Tryz.prog 105 #[V [e0 x, e1 x], V [e0 y, e1 y]] w (Rt w (V [e0 (fm x y), e1 (fm x y)]))
 cz : ∀ x w, Mm w [(0, dtab)] → Calls Tryz.prog 104 #[V [0, 0], V [e0 x, e1 x]] w (Rt w (V [e0 (fs z x), e1 (fs z x)]))
 ci : ∀ x w, x ≠ z → Mm w [(0, dtab)] → Calls Tryz.prog 106 #[V [e0 x, e1 x]] w (Rt w (.tuple #[V [e0 (fi x), e1 (fi x)], .int .i64 0]))
theorem Fd2.ka {α : Type} {e0 e1 : α → Nat} {fa fs fm : α → α → α} {fi : α → α} {z : α} (C : Fd2 e0 e1 fa fs fm fi z) {x y r : α} (e : fa x y = r) (w : World) (hm : Mm w [(0, dtab)]) : Calls Tryz.prog 103 #[V [e0 x, e1 x], V [e0 y, e1 y]] w (Rt w (V [e0 r, e1 r])) := by
 subst e
 exact C.ca x y w hm
theorem Fd2.ks {α : Type} {e0 e1 : α → Nat} {fa fs fm : α → α → α} {fi : α → α} {z : α} (C : Fd2 e0 e1 fa fs fm fi z) {x y r : α} (e : fs x y = r) (w : World) (hm : Mm w [(0, dtab)]) : Calls Tryz.prog 104 #[V [e0 x, e1 x], V [e0 y, e1 y]] w (Rt w (V [e0 r, e1 r])) := by
 subst e
 exact C.cs x y w hm
theorem Fd2.km {α : Type} {e0 e1 : α → Nat} {fa fs fm : α → α → α} {fi : α → α} {z : α} (C : Fd2 e0 e1 fa fs fm fi z) {x y r : α} (e : fm x y = r) (w : World) (hm : Mm w [(0, dtab)]) : Calls Tryz.prog 105 #[V [e0 x, e1 x], V [e0 y, e1 y]] w (Rt w (V [e0 r, e1 r])) := by
 subst e
 exact C.cm x y w hm
theorem double_1 {α : Type} {en : α → Nat} {fa fs fm : α → α → α} {fi : α → α} {z u b : α} {g : Nat} {tn : Value} (C : Fd1 g en fa fs fm fi z) (x : α) (w : World) (hm : Mm w [(g, yB pB), (0, dtab)]) :
  Calls Tryz.prog 162 #[.agg (G1 g tn (en u) (en b)).toArray, N (en x)] w (Rt w (N (en (fa x x)))) := by
 have H0 : Hid (_ ∧ _) := ⟨hm, Below.refl w.heap.size w⟩
 clear hm
 go_enter Tryz.func162, Tryz.ntmps162
 refine wp_seq ?_
 refine zC 3 [.made (G1 g tn (en u) (en b)) 81, .made (zD (en x)) 24, .made zero6 24] (sB H0) ?ho1 ?he1
 case ho1 => exact am (zW rfl rfl) (am (yF rfl rfl) (am (zJ rfl) trivial))
 intro γ w1 l hM hl
 have H1 : Hid (Mm w1 ([(γ 0, G1 g tn (en u) (en b)), (γ 1, zD (en x)), (γ 2, zero6)] ++ _) ∧ _) := wB H0 hM hl [0, 1, 2]
 have o1_0 := vB H0 hM hl 0
 have o1_1 := vB H0 hM hl 1
 have o1_2 := vB H0 hM hl 2
 clear hM hl l
 generalize γ 0 = γ1_0 at H1 o1_0 ⊢
 generalize γ 1 = γ1_1 at H1 o1_1 ⊢
 generalize γ 2 = γ1_2 at H1 o1_2 ⊢
 clear γ
 refine rN (wp_seq ?_)
 refine zB 6 [.quiet (PT γ1_0 0), .quiet (PT γ1_0 0), .quiet (.func (.func 83) #[PT g 0] #[]), .quiet (N (en x)), .quiet (N (en x)), .call (N (en (fa x x)))] H1 ?ho2 ?he2
 case ho2 => exact ag (ag (bC 0 Tryz.isAgg75 (bN 1 (bN 1 (ac (fun w' h => ⟨83, #[PT g 0, N (en x), N (en x)], zL rfl call83 rfl (mpn rfl) rfl, C.ca _ _ w' (h.two 3 4 rfl rfl (by decide))⟩) trivial)))))
 intro _ w2 H2
 clear H1
 refine zF (l := [6]) rfl ?_
 refine sG rfl (fun h => zO h 2 rfl rfl rfl rfl (Nat.le_of_ble_eq_true rfl)) 2 [_, _, (_, zD (en (fa x x))), _, _] H2 o1_2 fun w3 H3 => ?_
 clear H2
 refine zE (zA (wp_ret ?_))
 repeat (first | refine zM ?_ | refine zI ?_)
 have c0 := H3.out.1.get 2 rfl 0 rfl
 have c1 := H3.out.1.get 2 rfl 1 rfl
 have c2 := H3.out.1.get 2 rfl 2 rfl
 have c3 := H3.out.1.get 2 rfl 3 rfl
 have c4 := H3.out.1.get 2 rfl 4 rfl
 have c5 := H3.out.1.get 2 rfl 5 rfl
 refine bodyPost_ret (v := N (en (fa x x))) (by simp [results, Tryz.results162, go_sem, *]) rfl ?_
 exact ⟨rfl, H3.out.2⟩
theorem thrice_1 {α : Type} {en : α → Nat} {fa fs fm : α → α → α} {fi : α → α} {z u b : α} {g : Nat} {tn : Value} (C : Fd1 g en fa fs fm fi z) (x : α) (w : World) (hm : Mm w [(g, yB pB), (0, dtab)]) :
  Calls Tryz.prog 137 #[.agg (G1 g tn (en u) (en b)).toArray, N (en x)] w (Rt w (N (en (fa (fa x x) x)))) := by
 have H0 : Hid (_ ∧ _) := ⟨hm, Below.refl w.heap.size w⟩
 clear hm
 go_enter Tryz.func137, Tryz.ntmps137
 refine wp_seq ?_
 refine zC 3 [.made (G1 g tn (en u) (en b)) 81, .made (zD (en x)) 24, .made zero6 24] (sB H0) ?ho1 ?he1
 case ho1 => exact am (zW rfl rfl) (am (yF rfl rfl) (am (zJ rfl) trivial))
 intro γ w1 l hM hl
 have H1 : Hid (Mm w1 ([(γ 0, G1 g tn (en u) (en b)), (γ 1, zD (en x)), (γ 2, zero6)] ++ _) ∧ _) := wB H0 hM hl [0, 1, 2]
 have o1_0 := vB H0 hM hl 0
 have o1_1 := vB H0 hM hl 1
 have o1_2 := vB H0 hM hl 2
 clear hM hl l
 generalize γ 0 = γ1_0 at H1 o1_0 ⊢
 generalize γ 1 = γ1_1 at H1 o1_1 ⊢
 generalize γ 2 = γ1_2 at H1 o1_2 ⊢
 clear γ
 refine rN (wp_seq ?_)
 refine zP 8 [.quiet (PT γ1_0 0), .quiet (PT γ1_0 0), .quiet (.func (.func 83) #[PT g 0] #[]), .quiet (.agg (G1 g tn (en u) (en b)).toArray), .quiet (N (en x)), .call (N (en (fa x x))), .quiet (N (en x)), .call (N (en (fa (fa x x) x)))] H1 ?ho2 ?he2
 case ho2 => exact ag (ag (bC 0 Tryz.isAgg75 (bT 0 Tryz.isAgg81 Tryz.sizeOf81 (bN 1 (ac (fun w' h => eC call162 (double_1 C _ w' (h.two 3 4 rfl rfl (by decide)))) (bN 1 (ac (fun w' h => ⟨83, #[PT g 0, N (en (fa x x)), N (en x)], zL rfl call83 rfl (mpn rfl) rfl, C.ca _ _ w' (h.two 3 4 rfl rfl (by decide))⟩) trivial)))))))
 intro _ w2 H2
 clear H1
 refine zF (l := [8]) rfl ?_
 refine sG rfl (fun h => zO h 2 rfl rfl rfl rfl (Nat.le_of_ble_eq_true rfl)) 2 [_, _, (_, zD (en (fa (fa x x) x))), _, _] H2 o1_2 fun w3 H3 => ?_
 clear H2
 refine zE (zA (wp_ret ?_))
 repeat (first | refine zM ?_ | refine zI ?_)
 have c0 := H3.out.1.get 2 rfl 0 rfl
 have c1 := H3.out.1.get 2 rfl 1 rfl
 have c2 := H3.out.1.get 2 rfl 2 rfl
 have c3 := H3.out.1.get 2 rfl 3 rfl
 have c4 := H3.out.1.get 2 rfl 4 rfl
 have c5 := H3.out.1.get 2 rfl 5 rfl
 refine bodyPost_ret (v := N (en (fa (fa x x) x))) (by simp [results, Tryz.results137, go_sem, *]) rfl ?_
 exact ⟨rfl, H3.out.2⟩
theorem doubleN_1 {α : Type} {en : α → Nat} {fa fs fm : α → α → α} {fi : α → α} {z u b : α} {g : Nat} {tn : Value} (C : Fd1 g en fa fs fm fi z) {x r : α} (e : fa x x = r) (w : World) (hm : Mm w [(g, yB pB), (0, dtab)]) : Calls Tryz.prog 162 #[.agg (G1 g tn (en u) (en b)).toArray, N (en x)] w (Rt w (N (en r))) := by
 subst e
 exact double_1 C x w hm
theorem thriceN_1 {α : Type} {en : α → Nat} {fa fs fm : α → α → α} {fi : α → α} {z u b : α} {g : Nat} {tn : Value} (C : Fd1 g en fa fs fm fi z) {x r : α} (e : fa (fa x x) x = r) (w : World) (hm : Mm w [(g, yB pB), (0, dtab)]) : Calls Tryz.prog 137 #[.agg (G1 g tn (en u) (en b)).toArray, N (en x)] w (Rt w (N (en r))) := by
 subst e
 exact thrice_1 C x w hm
theorem double_2 {α : Type} {e0 e1 : α → Nat} {fa fs fm : α → α → α} {fi : α → α} {z u b : α} {tn : Value} (C : Fd2 e0 e1 fa fs fm fi z) (x : α) (w : World) (hm : Mm w [(0, dtab)]) :
  Calls Tryz.prog 169 #[.agg (G2 tn (e0 u) (e1 u) (e0 b) (e1 b)).toArray, V [e0 x, e1 x]] w (Rt w (V [e0 (fa x x), e1 (fa x x)])) := by
 have H0 : Hid (_ ∧ _) := ⟨hm, Below.refl w.heap.size w⟩
 clear hm
 go_enter Tryz.func169, Tryz.ntmps169
 refine wp_seq ?_
 refine zC 3 [.made (G2 tn (e0 u) (e1 u) (e0 b) (e1 b)) 101, .made (cel [e0 x, e1 x]) 40, .made (cel [0, 0]) 40] (sB H0) ?ho1 ?he1
 case ho1 => exact am (zW rfl rfl) (am (ex_boxA rfl rfl) (am (ex_madeE2 rfl) trivial))
 intro γ w1 l hM hl
 have H1 : Hid (Mm w1 ([(γ 0, G2 tn (e0 u) (e1 u) (e0 b) (e1 b)), (γ 1, cel [e0 x, e1 x]), (γ 2, cel [0, 0])] ++ _) ∧ _) := wB H0 hM hl [0, 1, 2]
 have o1_0 := vB H0 hM hl 0
 have o1_1 := vB H0 hM hl 1
 have o1_2 := vB H0 hM hl 2
 clear hM hl l
 generalize γ 0 = γ1_0 at H1 o1_0 ⊢
 generalize γ 1 = γ1_1 at H1 o1_1 ⊢
 generalize γ 2 = γ1_2 at H1 o1_2 ⊢
 clear γ
 refine rN (wp_seq ?_)
 refine zB 6 [.quiet (PT γ1_0 0), .quiet (PT γ1_0 0), .quiet (.func (.func 103) #[] #[]), .quiet (V [e0 x, e1 x]), .quiet (V [e0 x, e1 x]), .call (V [e0 (fa x x), e1 (fa x x)])] H1 ?ho2 ?he2
 case ho2 => exact ag (ag (bC 0 Tryz.isAgg93 (bA 0 2 1 Tryz.isAgg40 Tryz.sizeOf40 (bA 0 2 1 Tryz.isAgg40 Tryz.sizeOf40 (ac (fun w' h => ⟨103, #[V [e0 x, e1 x], V [e0 x, e1 x]], zL rfl call103 rfl (mpn rfl) rfl, C.ca _ _ w' (h.one 3 rfl)⟩) trivial)))))
 intro _ w2 H2
 clear H1
 refine zF (l := [6]) rfl ?_
 refine sF 2 [e0 (fa x x), e1 (fa x x)] [_, _, _, _] H2 o1_2 Tryz.sizeOf40 fun w3 H3 => ?_
 clear H2
 refine zE (zA (wp_ret ?_))
 repeat (first | refine zM ?_ | refine zI ?_)
 have hf0 := cel_var (k := 2) H3.out.1 2 rfl Tryz.isAgg40 Tryz.sizeOf40 rfl
 refine bodyPost_ret (v := V [e0 (fa x x), e1 (fa x x)]) (by simp [results, Tryz.results169, asAddr, hf0]) rfl ?_
 exact ⟨rfl, H3.out.2⟩
theorem thrice_2 {α : Type} {e0 e1 : α → Nat} {fa fs fm : α → α → α} {fi : α → α} {z u b : α} {tn : Value} (C : Fd2 e0 e1 fa fs fm fi z) (x : α) (w : World) (hm : Mm w [(0, dtab)]) :
  Calls Tryz.prog 151 #[.agg (G2 tn (e0 u) (e1 u) (e0 b) (e1 b)).toArray, V [e0 x, e1 x]] w (Rt w (V [e0 (fa (fa x x) x), e1 (fa (fa x x) x)])) := by
 have H0 : Hid (_ ∧ _) := ⟨hm, Below.refl w.heap.size w⟩
 clear hm
 go_enter Tryz.func151, Tryz.ntmps151
 refine wp_seq ?_
 refine zC 3 [.made (G2 tn (e0 u) (e1 u) (e0 b) (e1 b)) 101, .made (cel [e0 x, e1 x]) 40, .made (cel [0, 0]) 40] (sB H0) ?ho1 ?he1
 case ho1 => exact am (zW rfl rfl) (am (ex_boxA rfl rfl) (am (ex_madeE2 rfl) trivial))
 intro γ w1 l hM hl
 have H1 : Hid (Mm w1 ([(γ 0, G2 tn (e0 u) (e1 u) (e0 b) (e1 b)), (γ 1, cel [e0 x, e1 x]), (γ 2, cel [0, 0])] ++ _) ∧ _) := wB H0 hM hl [0, 1, 2]
 have o1_0 := vB H0 hM hl 0
 have o1_1 := vB H0 hM hl 1
 have o1_2 := vB H0 hM hl 2
 clear hM hl l
 generalize γ 0 = γ1_0 at H1 o1_0 ⊢
 generalize γ 1 = γ1_1 at H1 o1_1 ⊢
 generalize γ 2 = γ1_2 at H1 o1_2 ⊢
 clear γ
 refine rN (wp_seq ?_)
 refine zP 8 [.quiet (PT γ1_0 0), .quiet (PT γ1_0 0), .quiet (.func (.func 103) #[] #[]), .quiet (.agg (G2 tn (e0 u) (e1 u) (e0 b) (e1 b)).toArray), .quiet (V [e0 x, e1 x]), .call (V [e0 (fa x x), e1 (fa x x)]), .quiet (V [e0 x, e1 x]), .call (V [e0 (fa (fa x x) x), e1 (fa (fa x x) x)])] H1 ?ho2 ?he2
 case ho2 => exact ag (ag (bC 0 Tryz.isAgg93 (bT 0 Tryz.isAgg101 Tryz.sizeOf101 (bA 0 2 1 Tryz.isAgg40 Tryz.sizeOf40 (ac (fun w' h => eC call169 (double_2 C _ w' (h.one 3 rfl))) (bA 0 2 1 Tryz.isAgg40 Tryz.sizeOf40 (ac (fun w' h => ⟨103, #[V [e0 (fa x x), e1 (fa x x)], V [e0 x, e1 x]], zL rfl call103 rfl (mpn rfl) rfl, C.ca _ _ w' (h.one 3 rfl)⟩) trivial)))))))
 intro _ w2 H2
 clear H1
 refine zF (l := [8]) rfl ?_
 refine sF 2 [e0 (fa (fa x x) x), e1 (fa (fa x x) x)] [_, _, _, _] H2 o1_2 Tryz.sizeOf40 fun w3 H3 => ?_
 clear H2
 refine zE (zA (wp_ret ?_))
 repeat (first | refine zM ?_ | refine zI ?_)
 have hf0 := cel_var (k := 2) H3.out.1 2 rfl Tryz.isAgg40 Tryz.sizeOf40 rfl
 refine bodyPost_ret (v := V [e0 (fa (fa x x) x), e1 (fa (fa x x) x)]) (by simp [results, Tryz.results151, asAddr, hf0]) rfl ?_
 exact ⟨rfl, H3.out.2⟩
theorem doubleN_2 {α : Type} {e0 e1 : α → Nat} {fa fs fm : α → α → α} {fi : α → α} {z u b : α} {tn : Value} (C : Fd2 e0 e1 fa fs fm fi z) {x r : α} (e : fa x x = r) (w : World) (hm : Mm w [(0, dtab)]) : Calls Tryz.prog 169 #[.agg (G2 tn (e0 u) (e1 u) (e0 b) (e1 b)).toArray, V [e0 x, e1 x]] w (Rt w (V [e0 r, e1 r])) := by
 subst e
 exact double_2 C x w hm
theorem thriceN_2 {α : Type} {e0 e1 : α → Nat} {fa fs fm : α → α → α} {fi : α → α} {z u b : α} {tn : Value} (C : Fd2 e0 e1 fa fs fm fi z) {x r : α} (e : fa (fa x x) x = r) (w : World) (hm : Mm w [(0, dtab)]) : Calls Tryz.prog 151 #[.agg (G2 tn (e0 u) (e1 u) (e0 b) (e1 b)).toArray, V [e0 x, e1 x]] w (Rt w (V [e0 r, e1 r])) := by
 subst e
 exact thrice_2 C x w hm
end Rg
end Go.Proofs.YtaomlijondiaoaaGreatDoor
end
section
namespace Go.Proofs.YtaomlijondiaoaaGreatDoor
open Go.RowKit
def dgv (c : Int) : Int := if 48 ≤ c ∧ c ≤ 57 then c - 48 else if 97 ≤ c ∧ c ≤ 102 then c - 87 else 0
def dgk (c : Int) : Bool := decide (48 ≤ c ∧ c ≤ 57) || decide (97 ≤ c ∧ c ≤ 102)
theorem dgv_bd (c : Int) : 0 ≤ dgv c ∧ dgv c < 16 := by unfold dgv; split <;> (try split) <;> omega
set_option maxHeartbeats 400000 in
theorem digit_any (c : Int) (h0 : 0 ≤ c) (h1 : c ≤ 255) (w : World) :
  Calls Tryz.prog 135 #[.int .u8 c] w fun e w' => e = .returned (.tuple #[.int .u64 (dgv c), .bool (dgk c)]) ∧ w' = w := by
 unfold dgv dgk
 by_cases a : 48 ≤ c ∧ c ≤ 57
 ·obtain ⟨a1, a2⟩ := a
  have d1 : decide (48 ≤ c) = true := decide_eq_true a1
  have d2 : decide (c ≤ 57) = true := decide_eq_true a2
  rw [if_pos ⟨a1, a2⟩, decide_eq_true (⟨a1, a2⟩ : 48 ≤ c ∧ c ≤ 57)]
  go_enter Tryz.func135, Tryz.ntmps135
  go_wp2
  go_ret2
  exact ⟨by simp, rfl⟩
 ·rw [if_neg a, decide_eq_false a]
  by_cases b : 97 ≤ c ∧ c ≤ 102
  ·obtain ⟨b1, b2⟩ := b
   have d1 : decide (48 ≤ c) = true := decide_eq_true (by omega)
   have d2 : decide (c ≤ 57) = false := decide_eq_false (by omega)
   have d3 : decide (97 ≤ c) = true := decide_eq_true b1
   have d4 : decide (c ≤ 102) = true := decide_eq_true b2
   rw [if_pos ⟨b1, b2⟩, decide_eq_true (⟨b1, b2⟩ : 97 ≤ c ∧ c ≤ 102)]
   clear a
   go_enter Tryz.func135, Tryz.ntmps135
   go_wp2
   rw [show c - 97 + 10 = c - 87 by omega]
   go_ret2
   exact ⟨by simp, rfl⟩
  ·rw [if_neg b, decide_eq_false b]
   by_cases x1 : 48 ≤ c
   ·have d1 : decide (48 ≤ c) = true := decide_eq_true x1
    have d2 : decide (c ≤ 57) = false := decide_eq_false (by omega)
    by_cases x2 : 97 ≤ c
    ·have d3 : decide (97 ≤ c) = true := decide_eq_true x2
     have d4 : decide (c ≤ 102) = false := decide_eq_false (by omega)
     clear a b
     go_enter Tryz.func135, Tryz.ntmps135
     go_wp2
     go_ret2
     exact ⟨by simp, rfl⟩
    ·have d3 : decide (97 ≤ c) = false := decide_eq_false x2
     clear a b
     go_enter Tryz.func135, Tryz.ntmps135
     go_wp2
     go_ret2
     exact ⟨by simp, rfl⟩
   ·have d1 : decide (48 ≤ c) = false := decide_eq_false x1
    have d3 : decide (97 ≤ c) = false := decide_eq_false (by omega)
    clear a b
    go_enter Tryz.func135, Tryz.ntmps135
    go_wp2
    go_ret2
    exact ⟨by simp, rfl⟩
def ch (s : ByteArray) (i : Nat) : Int := if h : s.size - 1 - i < s.size then ((s[s.size - 1 - i]).toNat : Int) else 0
theorem ch_eq (s : ByteArray) (i : Nat) (h : s.size - 1 - i < s.size) : ch s i = ((s[s.size - 1 - i]).toNat : Int) := dif_pos h
def pvv (s : ByteArray) : Nat → Nat
 | 0 => 0
 | k + 1 => pvv s k + (dgv (ch s k)).toNat * 2 ^ (4 * k)
def okk (s : ByteArray) : Nat → Bool
 | 0 => true
 | k + 1 => okk s k && dgk (ch s k)
theorem pvv_lt (s : ByteArray) : ∀ k, pvv s k < 2 ^ (4 * k)
 | 0 => by simp [pvv]
 | k + 1 => by
  have h1 := pvv_lt s k
  have h2 := dgv_bd (ch s k)
  have h3 : (dgv (ch s k)).toNat * 2 ^ (4 * k) ≤ 15 * 2 ^ (4 * k) := Nat.mul_le_mul_right _ (by omega)
  have e : 2 ^ (4 * (k + 1)) = 16 * 2 ^ (4 * k) := by rw [Nat.mul_add, Nat.pow_add, Nat.mul_comm]
  unfold pvv
  rw [e]
  omega
theorem okk_mono (s : ByteArray) (m : Nat) : ∀ k, okk s (k + m) = true → okk s k = true := by
 induction m with
 | zero => intro k h; exact h
 | succ m ih =>
  intro k h
  have h2 : (okk s (k + m) && dgk (ch s (k + m))) = true := h
  exact ih k (by simp only [Bool.and_eq_true] at h2; exact h2.1)
theorem set_digit (V d k j : Nat) (hV : V < 2 ^ (4 * k)) (hd : d < 16) (hj : j ≠ k / 16) : wd (V + d * 2 ^ (4 * k)) j = wd V j := by
 rw [wd_shr, wd_shr, ← Nat.shiftLeft_eq, Nat.add_comm, Nat.shiftLeft_add_eq_or_of_lt hV]
 congr 1
 apply Nat.eq_of_testBit_eq
 intro i
 simp only [Nat.testBit_or, Nat.testBit_mod_two_pow, Nat.testBit_shiftLeft, Nat.testBit_shiftRight]
 by_cases hi : i < 64
 ·by_cases hk : 4 * k ≤ 64 * j + i
  ·have : d.testBit (64 * j + i - 4 * k) = false := Nat.testBit_lt_two_pow (Nat.lt_of_lt_of_le (show d < 2 ^ 4 from hd) (Nat.pow_le_pow_right (by decide) (by omega)))
   simp [this]
  ·simp [hk]
 ·simp [hi]
theorem or_digit_bits (V d k : Nat) : (V >>> (64 * (k / 16)) % 2 ^ 64) ||| (d <<< (4 * (k % 16)) % 2 ^ 64) = (d <<< (4 * k) ||| V) >>> (64 * (k / 16)) % 2 ^ 64 := by
 apply Nat.eq_of_testBit_eq
 intro i
 simp only [Nat.testBit_or, Nat.testBit_mod_two_pow, Nat.testBit_shiftLeft, Nat.testBit_shiftRight]
 by_cases hi : i < 64
 ·by_cases hk : 4 * (k % 16) ≤ i
  ·have e1 : 4 * k ≤ 64 * (k / 16) + i := by omega
   have e2 : 64 * (k / 16) + i - 4 * k = i - 4 * (k % 16) := by omega
   simp [hi, hk, e1, e2, Bool.or_comm]
  ·have e1 : ¬ 4 * k ≤ 64 * (k / 16) + i := by omega
   simp [hi, hk, e1]
 ·simp [hi]
theorem or_digit (V d k : Nat) (hV : V < 2 ^ (4 * k)) : bits .or .u64 (wd V (k / 16)) (IntKind.u64.wrap ((d : Int) * 2 ^ (4 * (k % 16)))) = wd (V + d * 2 ^ (4 * k)) (k / 16) := by
 rw [wrap_shl, wd_shr, wd_shr, ← Nat.shiftLeft_eq, Nat.add_comm, Nat.shiftLeft_add_eq_or_of_lt hV, ← or_digit_bits]
 exact bits_or_u64_nat _ _ (Nat.mod_lt _ (by decide)) (Nat.mod_lt _ (by decide))
theorem digit_step (s : ByteArray) (k j : Nat) : upd (wd (pvv s k)) (k / 16) (bits .or .u64 (wd (pvv s k) (k / 16)) (IntKind.u64.wrap (dgv (ch s k) * 2 ^ (4 * (k % 16))))) j = wd (pvv s (k + 1)) j := by
 have hd := dgv_bd (ch s k)
 have e : dgv (ch s k) = ((dgv (ch s k)).toNat : Int) := by omega
 have hV := pvv_lt s k
 unfold upd
 by_cases h : j = k / 16
 ·rw [if_pos h, h, e, or_digit _ _ k hV]
  rfl
 ·rw [if_neg h]
  exact (set_digit _ _ k j hV (by omega) h).symm
def prv (s : ByteArray) : Value := if okk s s.size then .tuple #[N (pvv s s.size), .int .i64 0] else .tuple #[N 0, .int .i64 4]
set_option maxHeartbeats 1000000 in
theorem parse_loop (s : ByteArray) (h1 : 1 ≤ s.size) (h2 : s.size ≤ 96) (h3 : (((s[0]'h1).toNat : Int) == 48) = false ∨ s.size = 1) (w : World) :
  Calls Tryz.prog 92 #[.string s] w (Rt w (prv s)) := by
 have he : s.toList.isEmpty = false := by
  cases hl : s.toList with
  | nil =>
   rw [ByteArray.toList_eq] at hl
   have h0 : s.data.size = 0 := by rw [← Array.length_toList, hl]; rfl
   have : s.size = s.data.size := rfl
   omega
  | cons a l => rfl
 have hg : decide ((96 : Int) < (s.size : Int)) = false := decide_eq_false (by omega)
 have hq : ((((s[0]'h1).toNat : Int) == 48) && decide ((1 : Int) < (s.size : Int))) = false := by
  rcases h3 with h3 | h3
  ·rw [h3]; rfl
  ·rw [decide_eq_false (show ¬ (1 : Int) < (s.size : Int) by omega), Bool.and_false]
 have hz : ((((s[0]'h1).toNat : Int) == 48) = true ∧ decide ((1 : Int) < (s.size : Int)) = false) ∨ (((s[0]'h1).toNat : Int) == 48) = false := by
  cases hc : (((s[0]'h1).toNat : Int) == 48) with
  | true => rw [hc, Bool.true_and] at hq; exact Or.inl ⟨rfl, hq⟩
  | false => exact Or.inr rfl
 have H2 : Hid (s.size ≤ 96) := h2
 clear h3 hq
 rcases hz with ⟨hz, hz1⟩ | hz
 all_goals
  go_enter Tryz.func92, Tryz.ntmps92
  go_wp2
  try clear hz1
  clear hz hg he
  go_loopw [27] (fun i wr => ∃ k : Nat, k ≤ s.size ∧ i = .int .i64 k ∧ okk s k = true ∧ Row wr w.heap.size 6 (fun _ => 0) ∧ Row wr (w.heap.size + 1) 6 (wd (pvv s k)) ∧ Below w.heap.size w wr) (fun i _ => s.size - (RowKit.intOf i).toNat)
  case atStart =>
   refine ⟨0, by omega, rfl, rfl, ?_, ?_, ?_⟩
   ·exact (Row.new w _ 24 rfl (six_lt (f := fun _ => 0) rfl)).alloc (by first | omega | (simp <;> omega)) _
   ·exact (Row.new _ _ 24 (by first | omega | (simp <;> omega)) (six_lt (f := fun _ => 0) rfl)).congr (fun j _ => (wd_zero j).symm)
   ·exact ((Below.refl _ _).alloc (Nat.le_refl _) _).alloc (by first | omega | (simp <;> omega)) _
  case round =>
   obtain ⟨k, hk, rfl, hok, hZ, hS, hw⟩ := hrel
   by_cases hlt : k < s.size
   ·have hch := ch_eq s k (by omega)
    have hdig := fun w => digit_any (ch s k) (by rw [hch]; omega) (by rw [hch]; have := (s[s.size - 1 - k]).toNat_lt; omega) w
    rw [hch] at hdig
    have HD : Hid _ := hdig
    have HCH : Hid _ := hch
    have hb := dgv_bd (((s[s.size - 1 - k]'(by omega)).toNat : Int))
    obtain ⟨hb0, hb1⟩ := hb
    clear hdig hch
    cases hkk : dgk (((s[s.size - 1 - k]'(by omega)).toNat : Int)) with
    | true =>
     obtain ⟨k1, k2⟩ := hS (k / 16) (by omega)
     have HM : Hid (_ ∧ _ ∧ _) := ⟨hZ, hS, hw⟩
     have HOK : Hid _ := hok
     clear hZ hS hw hok
     go_wp2_with (go_at_call 135; refine (HD.out _).mono ?_; rintro e w' ⟨rfl, rfl⟩)
     go_region
     go_wp2
     go_roundw
     case rel =>
      obtain ⟨hZ, hS, hw⟩ := HM.out
      refine ⟨k + 1, by omega, by go_num, ?_, (hZ.set_other _ (by simp <;> omega)).drew, ((hS.set _).congr (fun j _ => ?_)).drew, (hw.setCell (by simp <;> omega) _).drew⟩
      ·show (okk s k && dgk (ch s k)) = true
       rw [HOK.out, HCH.out, hkk]; rfl
      ·rw [← HCH.out]; exact digit_step s k j
     case measure => simp [RowKit.intOf] <;> omega
    | false =>
     have hfin : Hid (prv s = .tuple #[N 0, .int .i64 4]) := by
      show prv s = _
      unfold prv
      rw [if_neg]
      intro hh
      have h5 := okk_mono s (s.size - (k + 1)) (k + 1) (by rw [show k + 1 + (s.size - (k + 1)) = s.size by omega]; exact hh)
      have h6 : (okk s k && dgk (ch s k)) = true := h5
      rw [HCH.out, hkk, Bool.and_false] at h6
      exact absurd h6 (by decide)
     obtain ⟨z0, z1, z2, z3, z4, z5⟩ := hZ.writes
     obtain ⟨y0, y1, y2, y3, y4, y5⟩ := hZ.reads
     have HW : Hid _ := hw
     clear hZ hS hw hok
     go_wp2_with (go_at_call 135; refine (HD.out _).mono ?_; rintro e w' ⟨rfl, rfl⟩)
     refine bodyPost_ret (v := .tuple #[N 0, .int .i64 4]) ?_ rfl ⟨by rw [hfin.out], ?_⟩
     ·simp [results, Tryz.results92, go_sem, wd_zero, *]
     ·exact below6 HW.out (by omega) _ _ _ _ _ _
   ·have hks : k = s.size := by omega
    subst hks
    have hfin : Hid (prv s = .tuple #[N (pvv s s.size), .int .i64 0]) := by
     show prv s = _
     unfold prv
     rw [if_pos hok]
    obtain ⟨s0, s1, s2, s3, s4, s5⟩ := hS.reads
    obtain ⟨z0, z1, z2, z3, z4, z5⟩ := hZ.writes
    obtain ⟨y0, y1, y2, y3, y4, y5⟩ := hZ.reads
    have HW : Hid _ := hw
    clear hZ hS hw hok
    go_wp2
    refine bodyPost_ret (v := .tuple #[N (pvv s s.size), .int .i64 0]) ?_ rfl ⟨by rw [hfin.out], ?_⟩
    ·simp [results, Tryz.results92, go_sem, *]
    ·exact below6 HW.out (by omega) _ _ _ _ _ _
end Go.Proofs.YtaomlijondiaoaaGreatDoor
end
section
namespace Go.Proofs.YtaomlijondiaoaaGreatDoor
open Go.RowKit
namespace Rg
set_option maxHeartbeats 1000000 in
theorem left_gen (a p x K : Nat) (f : Nat → Nat) (f0 : f 0 = a)
  (cb : ∀ w, Calls Tryz.prog 82 #[] w (Rt w (N p)))
  (cs : ∀ k, k < K → ∀ w, Calls Tryz.prog 127 #[N (f k), N p] w (Rt w (.tuple #[N (f (k + 1)), .bool false])))
  (ct : ∀ w, Calls Tryz.prog 127 #[N (f K), N p] w (Rt w (.tuple #[N x, .bool true]))) (w : World) :
  Calls Tryz.prog 164 #[N a] w (Rt w (N (f K))) := by
 have H0 : Hid (_ ∧ _) := ⟨Mm.nil w, Below.refl w.heap.size w⟩
 have CB : Hid _ := cb
 have CS : Hid _ := cs
 have CT : Hid _ := ct
 have F0 : Hid _ := f0
 clear cb cs ct f0
 go_enter Tryz.func164, Tryz.ntmps164
 refine wp_seq ?_
 refine zC 2 [.made (zD a) 24, .made zero6 24] (sB H0) ?ho1 ?he1
 case ho1 => exact am (yF rfl rfl) (am (zJ rfl) trivial)
 intro γ w1 l hM hl
 have H1 : Hid (Mm w1 [(γ 0, zD a), (γ 1, zero6)] ∧ _) := wB H0 hM hl [0, 1]
 have o1_0 := vB H0 hM hl 0
 have o1_1 := vB H0 hM hl 1
 clear hM hl l
 generalize γ 0 = γ1_0 at H1 o1_0 ⊢
 generalize γ 1 = γ1_1 at H1 o1_1 ⊢
 clear γ
 refine rN (wp_block ?_)
 refine loop_ghost (α := Nat) (fun k a' w' => ∃ s0 : Nat → Value, a' = ⟨#[N a, PT γ1_0 0, PT γ1_1 0, s0 3, s0 4, s0 5, s0 6, s0 7, s0 8, s0 9, s0 10, s0 11, s0 12, s0 13], []⟩ ∧ (Mm w' [(γ1_0, zD (f k)), (γ1_1, zero6)] ∧ Below w.heap.size w w') ∧ k ≤ K) (fun k => K - k) 0 ?st0 ?rd0
 case st0 => exact ⟨(slotfn [ud, ud, ud, ud, ud, ud, ud, ud, ud, ud, ud, ud, ud, ud]), rfl, ⟨H1.out.1.at0 (by rw [F0.out]), H1.out.2⟩, by omega⟩
 intro k a' w2 hI
 obtain ⟨s0, rfl, hMB, hk0⟩ := hI
 have H2 : Hid (_ ∧ _) := hMB
 clear hMB H1
 by_cases hkK : k = K
 ·have hrd : True := trivial
  clear hrd
  subst hkK
  have CX : Hid _ := CT.out
  refine wp_block (wp_seq ?_)
  refine zS 9 [.quiet (N (f k)), .call (N p), .call (.tuple #[N x, .bool true]), .quiet (.tuple #[N x, .bool true]), .quiet (N x), .quiet (.bool true), .made zero6 24, .laid 6 zero6 (zD x), .quiet (.bool true)] (sB H2) ?ho2 ?he2 (hL := ?hL2)
  case hL2 => exact ⟨⟨_, rfl⟩, trivial⟩
  case ho2 => exact bN 0 (ac (fun w' h => eC call82 (CB.out w')) (ac (fun w' h => eC call127 (CX.out w')) (ar (ag (ag (am (zJ rfl) (ak (fun γ => ⟨rfl, rfl, rfl, fun w' h => zN h rfl rfl rfl⟩) (ar trivial))))))))
  intro γ w3 l hM hl
  have H3 : Hid (Mm w3 ([(γ 6, zD x)] ++ _) ∧ _) := wB H2 hM hl [6]
  have o2_6 := vB H2 hM hl 6
  clear hM hl l H2
  generalize γ 6 = γ2_6 at H3 o2_6 ⊢
  clear γ
  refine rN (wp_seq (wp_seq ?_))
  refine zB 1 [.quiet (.bool true)] H3 ?ho3 ?he3
  case ho3 => exact ar trivial
  intro _ w4 H4
  clear H3
  refine rN (wp_cond_true rfl (wp_seq ?_))
  refine zB 1 [.quiet (N (f k))] H4 ?ho4 ?he4
  case ho4 => exact bN 1 trivial
  intro _ w5 H5
  clear H4
  refine zF (l := [1]) rfl ?_
  refine sG rfl (fun h => zO h 2 rfl rfl rfl rfl (Nat.le_of_ble_eq_true rfl)) 2 [_, _, (_, zD (f k))] H5 o1_1 fun w6 H6 => ?_
  clear H5
  refine zE (zA (wp_ret ?_))
  repeat (first | refine zM ?_ | refine zI ?_)
  have c0 := H6.out.1.get 2 rfl 0 rfl
  have c1 := H6.out.1.get 2 rfl 1 rfl
  have c2 := H6.out.1.get 2 rfl 2 rfl
  have c3 := H6.out.1.get 2 rfl 3 rfl
  have c4 := H6.out.1.get 2 rfl 4 rfl
  have c5 := H6.out.1.get 2 rfl 5 rfl
  refine bodyPost_ret (v := N (f k)) (by simp [results, Tryz.results164, go_sem, *]) rfl ?_
  exact ⟨rfl, H6.out.2⟩
 ·have hrd : True := trivial
  clear hrd
  have hlt : k < K := by omega
  have CX : Hid _ := CS.out k hlt
  refine wp_block (wp_seq ?_)
  refine zS 9 [.quiet (N (f k)), .call (N p), .call (.tuple #[N (f (k + 1)), .bool false]), .quiet (.tuple #[N (f (k + 1)), .bool false]), .quiet (N (f (k + 1))), .quiet (.bool false), .made zero6 24, .laid 6 zero6 (zD (f (k + 1))), .quiet (.bool false)] (sB H2) ?ho5 ?he5 (hL := ?hL5)
  case hL5 => exact ⟨⟨_, rfl⟩, trivial⟩
  case ho5 => exact bN 0 (ac (fun w' h => eC call82 (CB.out w')) (ac (fun w' h => eC call127 (CX.out w')) (ar (ag (ag (am (zJ rfl) (ak (fun γ => ⟨rfl, rfl, rfl, fun w' h => zN h rfl rfl rfl⟩) (ar trivial))))))))
  intro γ w7 l hM hl
  have H7 : Hid (Mm w7 ([(γ 6, zD (f (k + 1)))] ++ _) ∧ _) := wB H2 hM hl [6]
  have o5_6 := vB H2 hM hl 6
  clear hM hl l H2
  generalize γ 6 = γ5_6 at H7 o5_6 ⊢
  clear γ
  refine rN (wp_seq (wp_seq ?_))
  refine zB 1 [.quiet (.bool false)] H7 ?ho6 ?he6
  case ho6 => exact ar trivial
  intro _ w8 H8
  clear H7
  refine rN (wp_cond_false rfl ?_)
  refine wp_skip (zA ?_)
  refine zB 1 [.quiet (N (f (k + 1)))] H8 ?ho7 ?he7
  case ho7 => exact bN 0 trivial
  intro _ w9 H9
  clear H8
  refine zF (l := [1]) rfl ?_
  refine sG rfl (fun h => zO h 1 rfl rfl rfl rfl (Nat.le_of_ble_eq_true rfl)) 1 [_, (_, zD (f (k + 1))), _] H9 o1_0 fun w10 H10 => ?_
  clear H9
  refine zE (zH (zA ?_))
  exact ⟨k + 1, ⟨(slotfn [ud, ud, ud, PT γ5_6 0, .bool false, .tuple #[N (f (k + 1)), .bool false], N (f k), N p, .tuple #[N (f (k + 1)), .bool false], N (f (k + 1)), .bool false, .bool false, s0 12, N (f (k + 1))]), rfl, ⟨H10.out.1.tail, H10.out.2⟩, by omega⟩, by omega⟩
theorem together_gen (a b r : Nat) (cx : Bool)
  (c0 : ∀ w, Calls Tryz.prog 37 #[N a, N b] w (Rt w (.tuple #[N r, .bool cx]))) (w : World) :
  Calls Tryz.prog 165 #[N a, N b] w (Rt w (N r)) := by
 have H0 : Hid (_ ∧ _) := ⟨Mm.nil w, Below.refl w.heap.size w⟩
 have C0 : Hid _ := c0
 clear c0
 go_enter Tryz.func165, Tryz.ntmps165
 refine wp_seq ?_
 refine zC 3 [.made (zD a) 24, .made (zD b) 24, .made zero6 24] (sB H0) ?ho1 ?he1
 case ho1 => exact am (yF rfl rfl) (am (yF rfl rfl) (am (zJ rfl) trivial))
 intro γ w1 l hM hl
 have H1 : Hid (Mm w1 [(γ 0, zD a), (γ 1, zD b), (γ 2, zero6)] ∧ _) := wB H0 hM hl [0, 1, 2]
 have o1_0 := vB H0 hM hl 0
 have o1_1 := vB H0 hM hl 1
 have o1_2 := vB H0 hM hl 2
 clear hM hl l
 generalize γ 0 = γ1_0 at H1 o1_0 ⊢
 generalize γ 1 = γ1_1 at H1 o1_1 ⊢
 generalize γ 2 = γ1_2 at H1 o1_2 ⊢
 clear γ
 refine rN (wp_seq ?_)
 refine zC 9 [.quiet (N a), .quiet (N b), .call (.tuple #[N r, .bool cx]), .quiet (.tuple #[N r, .bool cx]), .quiet (N r), .quiet (.bool cx), .made zero6 24, .laid 6 zero6 (zD r), .quiet (.bool cx)] (sB H1) ?ho2 ?he2 (hL := ?hL2)
 case hL2 => exact ⟨⟨_, rfl⟩, trivial⟩
 case ho2 => exact bN 0 (bN 1 (ac (fun w' h => eC call37 (C0.out w')) (ar (ag (ag (am (zJ rfl) (ak (fun γ => ⟨rfl, rfl, rfl, fun w' h => zN h rfl rfl rfl⟩) (ar trivial))))))))
 intro γ w2 l hM hl
 have H2 : Hid (Mm w2 ([(γ 6, zD r)] ++ _) ∧ _) := wB H1 hM hl [6]
 have o2_6 := vB H1 hM hl 6
 clear hM hl l H1
 generalize γ 6 = γ2_6 at H2 o2_6 ⊢
 clear γ
 refine rN (wp_seq ?_)
 refine zB 1 [.quiet (N r)] H2 ?ho3 ?he3
 case ho3 => exact bN 0 trivial
 intro _ w3 H3
 clear H2
 refine zF (l := [1]) rfl ?_
 refine sG rfl (fun h => zO h 3 rfl rfl rfl rfl (Nat.le_of_ble_eq_true rfl)) 3 [_, _, _, (_, zD r)] H3 o1_2 fun w4 H4 => ?_
 clear H3
 refine zE (zA (wp_ret ?_))
 repeat (first | refine zM ?_ | refine zI ?_)
 have c0 := H4.out.1.get 3 rfl 0 rfl
 have c1 := H4.out.1.get 3 rfl 1 rfl
 have c2 := H4.out.1.get 3 rfl 2 rfl
 have c3 := H4.out.1.get 3 rfl 3 rfl
 have c4 := H4.out.1.get 3 rfl 4 rfl
 have c5 := H4.out.1.get 3 rfl 5 rfl
 refine bodyPost_ret (v := N r) (by simp [results, Tryz.results165, go_sem, *]) rfl ?_
 exact ⟨rfl, H4.out.2⟩
theorem sum_gen (a b r x : Nat)
  (c0 : ∀ w, Calls Tryz.prog 165 #[N a, N b] w (Rt w (N x)))
  (c1 : ∀ w, Calls Tryz.prog 164 #[N x] w (Rt w (N r))) (w : World) :
  Calls Tryz.prog 143 #[N a, N b] w (Rt w (N r)) := by
 have H0 : Hid (_ ∧ _) := ⟨Mm.nil w, Below.refl w.heap.size w⟩
 have C0 : Hid _ := c0
 have C1 : Hid _ := c1
 clear c0 c1
 go_enter Tryz.func143, Tryz.ntmps143
 refine wp_seq ?_
 refine zC 3 [.made (zD a) 24, .made (zD b) 24, .made zero6 24] (sB H0) ?ho1 ?he1
 case ho1 => exact am (yF rfl rfl) (am (yF rfl rfl) (am (zJ rfl) trivial))
 intro γ w1 l hM hl
 have H1 : Hid (Mm w1 [(γ 0, zD a), (γ 1, zD b), (γ 2, zero6)] ∧ _) := wB H0 hM hl [0, 1, 2]
 have o1_0 := vB H0 hM hl 0
 have o1_1 := vB H0 hM hl 1
 have o1_2 := vB H0 hM hl 2
 clear hM hl l
 generalize γ 0 = γ1_0 at H1 o1_0 ⊢
 generalize γ 1 = γ1_1 at H1 o1_1 ⊢
 generalize γ 2 = γ1_2 at H1 o1_2 ⊢
 clear γ
 refine rN (wp_seq ?_)
 refine zB 4 [.quiet (N a), .quiet (N b), .call (N x), .call (N r)] H1 ?ho2 ?he2
 case ho2 => exact bN 0 (bN 1 (ac (fun w' h => eC call165 (C0.out w')) (ac (fun w' h => eC call164 (C1.out w')) trivial)))
 intro _ w2 H2
 clear H1
 refine zF (l := [4]) rfl ?_
 refine sG rfl (fun h => zO h 2 rfl rfl rfl rfl (Nat.le_of_ble_eq_true rfl)) 2 [_, _, (_, zD r)] H2 o1_2 fun w3 H3 => ?_
 clear H2
 refine zE (zA (wp_ret ?_))
 repeat (first | refine zM ?_ | refine zI ?_)
 have c0 := H3.out.1.get 2 rfl 0 rfl
 have c1 := H3.out.1.get 2 rfl 1 rfl
 have c2 := H3.out.1.get 2 rfl 2 rfl
 have c3 := H3.out.1.get 2 rfl 3 rfl
 have c4 := H3.out.1.get 2 rfl 4 rfl
 have c5 := H3.out.1.get 2 rfl 5 rfl
 refine bodyPost_ret (v := N r) (by simp [results, Tryz.results143, go_sem, *]) rfl ?_
 exact ⟨rfl, H3.out.2⟩
theorem diff_1 (a b r : Nat)
  (c0 : ∀ w, Calls Tryz.prog 127 #[N a, N b] w (Rt w (.tuple #[N r, .bool false]))) (w : World) :
  Calls Tryz.prog 144 #[N a, N b] w (Rt w (N r)) := by
 have H0 : Hid (_ ∧ _) := ⟨Mm.nil w, Below.refl w.heap.size w⟩
 have C0 : Hid _ := c0
 clear c0
 go_enter Tryz.func144, Tryz.ntmps144
 refine wp_seq ?_
 refine zC 3 [.made (zD a) 24, .made (zD b) 24, .made zero6 24] (sB H0) ?ho1 ?he1
 case ho1 => exact am (yF rfl rfl) (am (yF rfl rfl) (am (zJ rfl) trivial))
 intro γ w1 l hM hl
 have H1 : Hid (Mm w1 [(γ 0, zD a), (γ 1, zD b), (γ 2, zero6)] ∧ _) := wB H0 hM hl [0, 1, 2]
 have o1_0 := vB H0 hM hl 0
 have o1_1 := vB H0 hM hl 1
 have o1_2 := vB H0 hM hl 2
 clear hM hl l
 generalize γ 0 = γ1_0 at H1 o1_0 ⊢
 generalize γ 1 = γ1_1 at H1 o1_1 ⊢
 generalize γ 2 = γ1_2 at H1 o1_2 ⊢
 clear γ
 refine rN (wp_seq ?_)
 refine zC 9 [.quiet (N a), .quiet (N b), .call (.tuple #[N r, .bool false]), .quiet (.tuple #[N r, .bool false]), .quiet (N r), .quiet (.bool false), .made zero6 24, .laid 6 zero6 (zD r), .quiet (.bool false)] (sB H1) ?ho2 ?he2 (hL := ?hL2)
 case hL2 => exact ⟨⟨_, rfl⟩, trivial⟩
 case ho2 => exact bN 0 (bN 1 (ac (fun w' h => eC call127 (C0.out w')) (ar (ag (ag (am (zJ rfl) (ak (fun γ => ⟨rfl, rfl, rfl, fun w' h => zN h rfl rfl rfl⟩) (ar trivial))))))))
 intro γ w2 l hM hl
 have H2 : Hid (Mm w2 ([(γ 6, zD r)] ++ _) ∧ _) := wB H1 hM hl [6]
 have o2_6 := vB H1 hM hl 6
 clear hM hl l H1
 generalize γ 6 = γ2_6 at H2 o2_6 ⊢
 clear γ
 refine rN (wp_seq (wp_seq ?_))
 refine zB 1 [.quiet (.bool false)] H2 ?ho3 ?he3
 case ho3 => exact ar trivial
 intro _ w3 H3
 clear H2
 refine rN (wp_cond_false rfl ?_)
 refine wp_skip (zA (wp_seq ?_))
 refine zB 1 [.quiet (N r)] H3 ?ho4 ?he4
 case ho4 => exact bN 0 trivial
 intro _ w4 H4
 clear H3
 refine zF (l := [1]) rfl ?_
 refine sG rfl (fun h => zO h 3 rfl rfl rfl rfl (Nat.le_of_ble_eq_true rfl)) 3 [_, _, _, (_, zD r)] H4 o1_2 fun w5 H5 => ?_
 clear H4
 refine zE (zA (wp_ret ?_))
 repeat (first | refine zM ?_ | refine zI ?_)
 have c0 := H5.out.1.get 3 rfl 0 rfl
 have c1 := H5.out.1.get 3 rfl 1 rfl
 have c2 := H5.out.1.get 3 rfl 2 rfl
 have c3 := H5.out.1.get 3 rfl 3 rfl
 have c4 := H5.out.1.get 3 rfl 4 rfl
 have c5 := H5.out.1.get 3 rfl 5 rfl
 refine bodyPost_ret (v := N r) (by simp [results, Tryz.results144, go_sem, *]) rfl ?_
 exact ⟨rfl, H5.out.2⟩
theorem diff_2 (a b r x p : Nat) (cx : Bool)
  (c0 : ∀ w, Calls Tryz.prog 127 #[N a, N b] w (Rt w (.tuple #[N x, .bool true])))
  (c1 : ∀ w, Calls Tryz.prog 82 #[] w (Rt w (N p)))
  (c2 : ∀ w, Calls Tryz.prog 37 #[N x, N p] w (Rt w (.tuple #[N r, .bool cx]))) (w : World) :
  Calls Tryz.prog 144 #[N a, N b] w (Rt w (N r)) := by
 have H0 : Hid (_ ∧ _) := ⟨Mm.nil w, Below.refl w.heap.size w⟩
 have C0 : Hid _ := c0
 have C1 : Hid _ := c1
 have C2 : Hid _ := c2
 clear c0 c1 c2
 go_enter Tryz.func144, Tryz.ntmps144
 refine wp_seq ?_
 refine zC 3 [.made (zD a) 24, .made (zD b) 24, .made zero6 24] (sB H0) ?ho1 ?he1
 case ho1 => exact am (yF rfl rfl) (am (yF rfl rfl) (am (zJ rfl) trivial))
 intro γ w1 l hM hl
 have H1 : Hid (Mm w1 [(γ 0, zD a), (γ 1, zD b), (γ 2, zero6)] ∧ _) := wB H0 hM hl [0, 1, 2]
 have o1_0 := vB H0 hM hl 0
 have o1_1 := vB H0 hM hl 1
 have o1_2 := vB H0 hM hl 2
 clear hM hl l
 generalize γ 0 = γ1_0 at H1 o1_0 ⊢
 generalize γ 1 = γ1_1 at H1 o1_1 ⊢
 generalize γ 2 = γ1_2 at H1 o1_2 ⊢
 clear γ
 refine rN (wp_seq ?_)
 refine zC 9 [.quiet (N a), .quiet (N b), .call (.tuple #[N x, .bool true]), .quiet (.tuple #[N x, .bool true]), .quiet (N x), .quiet (.bool true), .made zero6 24, .laid 6 zero6 (zD x), .quiet (.bool true)] (sB H1) ?ho2 ?he2 (hL := ?hL2)
 case hL2 => exact ⟨⟨_, rfl⟩, trivial⟩
 case ho2 => exact bN 0 (bN 1 (ac (fun w' h => eC call127 (C0.out w')) (ar (ag (ag (am (zJ rfl) (ak (fun γ => ⟨rfl, rfl, rfl, fun w' h => zN h rfl rfl rfl⟩) (ar trivial))))))))
 intro γ w2 l hM hl
 have H2 : Hid (Mm w2 ([(γ 6, zD x)] ++ _) ∧ _) := wB H1 hM hl [6]
 have o2_6 := vB H1 hM hl 6
 clear hM hl l H1
 generalize γ 6 = γ2_6 at H2 o2_6 ⊢
 clear γ
 refine rN (wp_seq (wp_seq ?_))
 refine zB 1 [.quiet (.bool true)] H2 ?ho3 ?he3
 case ho3 => exact ar trivial
 intro _ w3 H3
 clear H2
 refine rN (wp_cond_true rfl ?_)
 refine walk_put (by kernel_rfl) 6 [5] [.quiet (N x), .call (N p), .call (.tuple #[N r, .bool cx]), .quiet (.tuple #[N r, .bool cx]), .quiet (N r), .quiet (.bool cx)] _ ?pre4 ?F4 _ ?hpre4 (fun γ => ?hF4) (by kernel_rfl) rfl trivial (sB H3) ?ho4 ?hla4 ?he4
 case hpre4 => simp only [tk, tz]; rfl
 case hF4 => simp only [fill, Kind.val, Act.put, sa, sz, ss]; rfl
 case ho4 =>
  refine bN 0 ?_
  refine ak (fun γ => ⟨rfl, fun w' h => eC call82 (C1.out w')⟩) ?_
  refine ak (fun γ => ⟨rfl, fun w' h => eC call37 (C2.out w')⟩) ?_
  refine ar ?_
  refine ag ?_
  refine ag ?_
  exact trivial
 case hla4 => exact ⟨⟨_, _, rfl, rfl, fun γ => ⟨rfl, fun w' => by first | rfl | go_simp⟩⟩, trivial⟩
 intro γ w4 l hM hl
 have H4 := keepB H3 hM.below
 clear hM hl l H3 γ
 refine ⟨_, zO H4.out.1 0 rfl rfl rfl rfl (Nat.le_of_ble_eq_true rfl), ?_⟩
 have H5 : Hid (Mm (w4.setCells γ2_6 0 (zD r)) [(γ2_6, zD r), (γ1_0, zD a), (γ1_1, zD b), (γ1_2, zero6)] ∧ Below w.heap.size w (w4.setCells γ2_6 0 (zD r))) := ⟨H4.out.1.put 0 (off := 0) (vs := zD r) rfl (Nat.le_of_ble_eq_true rfl), yA _ o2_6.out _ _ _ H4.out.2⟩
 clear H4
 generalize hgw : World.setCells _ _ _ _ = w5 at H5 ⊢
 clear hgw
 refine rN (wp_seq ?_)
 refine zB 1 [.quiet (N r)] H5 ?ho5 ?he5
 case ho5 => exact bN 0 trivial
 intro _ w6 H6
 clear H5
 refine zF (l := [1]) rfl ?_
 refine sG rfl (fun h => zO h 3 rfl rfl rfl rfl (Nat.le_of_ble_eq_true rfl)) 3 [_, _, _, (_, zD r)] H6 o1_2 fun w7 H7 => ?_
 clear H6
 refine zE (zA (wp_ret ?_))
 repeat (first | refine zM ?_ | refine zI ?_)
 have c0 := H7.out.1.get 3 rfl 0 rfl
 have c1 := H7.out.1.get 3 rfl 1 rfl
 have c2 := H7.out.1.get 3 rfl 2 rfl
 have c3 := H7.out.1.get 3 rfl 3 rfl
 have c4 := H7.out.1.get 3 rfl 4 rfl
 have c5 := H7.out.1.get 3 rfl 5 rfl
 refine bodyPost_ret (v := N r) (by simp [results, Tryz.results144, go_sem, *]) rfl ?_
 exact ⟨rfl, H7.out.2⟩
theorem times_gen (a b u0 u1 : Nat)
  (c0 : ∀ w, Calls Tryz.prog 38 #[N a, N b] w (Rt w (.tuple #[N u0, N u1]))) (w : World) :
  Calls Tryz.prog 173 #[N a, N b] w (Rt w (V [u0, u1])) := by
 have H0 : Hid (_ ∧ _) := ⟨Mm.nil w, Below.refl w.heap.size w⟩
 have C0 : Hid _ := c0
 clear c0
 go_enter Tryz.func173, Tryz.ntmps173
 refine wp_seq ?_
 refine zC 3 [.made (zD a) 24, .made (zD b) 24, .made (cel [0, 0]) 189] (sB H0) ?ho1 ?he1
 case ho1 => exact am (yF rfl rfl) (am (yF rfl rfl) (am (ex_madeWD rfl) trivial))
 intro γ w1 l hM hl
 have H1 : Hid (Mm w1 [(γ 0, zD a), (γ 1, zD b), (γ 2, cel [0, 0])] ∧ _) := wB H0 hM hl [0, 1, 2]
 have o1_0 := vB H0 hM hl 0
 have o1_1 := vB H0 hM hl 1
 have o1_2 := vB H0 hM hl 2
 clear hM hl l
 generalize γ 0 = γ1_0 at H1 o1_0 ⊢
 generalize γ 1 = γ1_1 at H1 o1_1 ⊢
 generalize γ 2 = γ1_2 at H1 o1_2 ⊢
 clear γ
 refine rN (wp_seq ?_)
 refine zC 10 [.quiet (N a), .quiet (N b), .call (.tuple #[N u0, N u1]), .quiet (.tuple #[N u0, N u1]), .quiet (N u0), .quiet (N u1), .made zero6 24, .made zero6 24, .laid 6 zero6 (zD u0), .laid 7 zero6 (zD u1)] (sB H1) ?ho2 ?he2 (hL := ?hL2)
 case hL2 => exact ⟨⟨_, rfl⟩, ⟨_, rfl⟩, trivial⟩
 case ho2 => exact bN 0 (bN 1 (ac (fun w' h => eC call38 (C0.out w')) (ar (ag (ag (am (zJ rfl) (am (zJ rfl) (ak (fun γ => ⟨rfl, rfl, rfl, fun w' h => zN h rfl rfl rfl⟩) (ak (fun γ => ⟨rfl, rfl, rfl, fun w' h => zN h rfl rfl rfl⟩) trivial)))))))))
 intro γ w2 l hM hl
 have H2 : Hid (Mm w2 ([(γ 6, zD u0), (γ 7, zD u1)] ++ _) ∧ _) := wB H1 hM hl [6, 7]
 have o2_6 := vB H1 hM hl 6
 have o2_7 := vB H1 hM hl 7
 clear hM hl l H1
 generalize γ 6 = γ2_6 at H2 o2_6 ⊢
 generalize γ 7 = γ2_7 at H2 o2_7 ⊢
 clear γ
 refine rN (wp_seq ?_)
 refine zB 3 [.quiet (N u0), .quiet (N u1), .quiet (V [u0, u1])] H2 ?ho3 ?he3
 case ho3 => exact bN 0 (bN 1 (ak (fun γ => ⟨rfl, fun w' _ => ex_buildWD rfl rfl rfl⟩) trivial))
 intro _ w3 H3
 clear H2
 refine zF (l := [3]) rfl ?_
 refine sF 4 [u0, u1] [_, _, _, _, _] H3 o1_2 Tryz.sizeOf189 fun w4 H4 => ?_
 clear H3
 refine zE (zA (wp_ret ?_))
 repeat (first | refine zM ?_ | refine zI ?_)
 have hf0 := cel_var (k := 2) H4.out.1 4 rfl Tryz.isAgg189 Tryz.sizeOf189 rfl
 refine bodyPost_ret (v := V [u0, u1]) (by simp [results, Tryz.results173, asAddr, hf0]) rfl ?_
 exact ⟨rfl, H4.out.2⟩
/-! Wide numbers, word by word: twelve words in two halves. -/
abbrev row12 (f : Nat → Int) : List Value := [.int .u64 (f 0), .int .u64 (f 1), .int .u64 (f 2), .int .u64 (f 3), .int .u64 (f 4), .int .u64 (f 5), .int .u64 (f 6), .int .u64 (f 7), .int .u64 (f 8), .int .u64 (f 9), .int .u64 (f 10), .int .u64 (f 11)]
theorem row12_at {f : Nat → Int} {j : Nat} (hj : j < 12) : (row12 f)[j]? = some (.int .u64 (f j)) := by
 match j, hj with
 | 0, _ => rfl
 | 1, _ => rfl
 | 2, _ => rfl
 | 3, _ => rfl
 | 4, _ => rfl
 | 5, _ => rfl
 | 6, _ => rfl
 | 7, _ => rfl
 | 8, _ => rfl
 | 9, _ => rfl
 | 10, _ => rfl
 | 11, _ => rfl
theorem row12_put {f : Nat → Int} {j : Nat} {x : Int} (hj : j < 12) : patch (row12 f) j [.int .u64 x] = row12 (upd f j x) := by
 match j, hj with
 | 0, _ => rfl
 | 1, _ => rfl
 | 2, _ => rfl
 | 3, _ => rfl
 | 4, _ => rfl
 | 5, _ => rfl
 | 6, _ => rfl
 | 7, _ => rfl
 | 8, _ => rfl
 | 9, _ => rfl
 | 10, _ => rfl
 | 11, _ => rfl
theorem row12_put0 {f : Nat → Int} {j : Nat} {x : Int} (hj : j < 12) : patch (row12 f) (0 + j) [.int .u64 x] = row12 (upd f j x) := by rw [Nat.zero_add]; exact row12_put hj
theorem row12_bd {f : Nat → Int} {j : Nat} (hj : j < 12) : j < (row12 f).length := hj
theorem row12_congr {f g : Nat → Int} (h : ∀ j, j < 12 → f j = g j) : row12 f = row12 g := by
 unfold row12
 rw [h 0 (by decide), h 1 (by decide), h 2 (by decide), h 3 (by decide), h 4 (by decide), h 5 (by decide), h 6 (by decide), h 7 (by decide), h 8 (by decide), h 9 (by decide), h 10 (by decide), h 11 (by decide)]
def ww (l h j : Nat) : Int := if j < 6 then wd l j else wd h (j - 6)
theorem cel_row12 (l h : Nat) : cel [l, h] = row12 (ww l h) := by simp [cel, ww]
def mix (f : Nat → Int) (l h k j : Nat) : Int := if j < k then f j else ww l h j
theorem mix_start (f : Nat → Int) (l h : Nat) : cel [l, h] = row12 (mix f l h 0) := by
 rw [cel_row12]
 exact row12_congr fun j _ => by unfold mix; rw [if_neg (by omega)]
theorem mix_at {f : Nat → Int} {l h k : Nat} (hk : k < 12) : (row12 (mix f l h k))[k]? = some (.int .u64 (ww l h k)) := by
 rw [row12_at hk]; unfold mix; rw [if_neg (by omega)]
theorem mix_step {f : Nat → Int} {l h k : Nat} {x : Int} (hx : x = f k) : row12 (upd (mix f l h k) k x) = row12 (mix f l h (k + 1)) := row12_congr fun j _ => by
 unfold upd mix
 by_cases h1 : j = k
 ·subst h1; rw [if_pos rfl, if_pos (by omega), hx]
 ·rw [if_neg h1]
  by_cases h2 : j < k
  ·rw [if_pos h2, if_pos (by omega)]
  ·rw [if_neg h2, if_neg (by omega)]
theorem mix_end {f : Nat → Int} {l h x y : Nat} (hf : ∀ j, j < 12 → f j = ww x y j) : row12 (mix f l h (6 + 6)) = cel [x, y] := by
 rw [cel_row12]
 exact row12_congr fun j hj => by unfold mix; rw [if_pos (show j < 6 + 6 from hj), hf j hj]
theorem off_lo (k : Nat) : 0 + k = k := Nat.zero_add k
theorem Mm.atk {w : World} {l l' : List (Nat × List Value)} (h : Mm w l) (e : l = l') : Mm w l' := e ▸ h
set_option maxHeartbeats 2000000 in
theorem plus_gen (al ah bl bh x y : Nat) (f cr : Nat → Int) (c0 : 0 = cr 0) (hf : ∀ j, j < 12 → f j = ww x y j)
  (ce : ∀ j w, (callFunc 74 #[.int .u64 (ww al ah j), .int .u64 (ww bl bh j), .int .u64 (cr j)]).run Tryz.prog w = .ok (.value (.tuple #[.int .u64 (f j), .int .u64 (cr (j + 1))])) w) (w : World) :
  Calls Tryz.prog 175 #[V [al, ah], V [bl, bh]] w (Rt w (V [x, y])) := by
 have H0 : Hid (_ ∧ _) := ⟨Mm.nil w, Below.refl w.heap.size w⟩
 have C0 : Hid _ := c0
 have CE : Hid _ := ce
 have HF : Hid _ := hf
 clear c0 ce hf
 go_enter Tryz.func175, Tryz.ntmps175
 refine wp_seq ?_
 refine zC 3 [.made (cel [al, ah]) 189, .made (cel [bl, bh]) 189, .made (cel [0, 0]) 189] (sB H0) ?ho1 ?he1
 case ho1 => exact am (ex_boxA rfl rfl) (am (ex_boxA rfl rfl) (am (ex_madeWD rfl) trivial))
 intro γ w1 l hM hl
 have H1 : Hid (Mm w1 [(γ 0, cel [al, ah]), (γ 1, cel [bl, bh]), (γ 2, cel [0, 0])] ∧ _) := wB H0 hM hl [0, 1, 2]
 have o1_0 := vB H0 hM hl 0
 have o1_1 := vB H0 hM hl 1
 have o1_2 := vB H0 hM hl 2
 clear hM hl l
 generalize γ 0 = γ1_0 at H1 o1_0 ⊢
 generalize γ 1 = γ1_1 at H1 o1_1 ⊢
 generalize γ 2 = γ1_2 at H1 o1_2 ⊢
 clear γ
 refine rN (wp_seq ?_)
 refine zB 1 [.quiet (.int .u64 0)] H1 ?ho2 ?he2
 case ho2 => exact ar trivial
 intro _ w2 H2
 clear H1
 refine rN (wp_seq (wp_seq ?_))
 refine zB 1 [.quiet (.int .i64 0)] H2 ?ho3 ?he3
 case ho3 => exact ar trivial
 intro _ w3 H3
 clear H2
 refine rN (wp_block ?_)
 refine loop_ghost (α := Nat) (fun k a' w' => ∃ s0 : Nat → Value, a' = ⟨#[V [al, ah], V [bl, bh], PT γ1_0 0, PT γ1_1 0, PT γ1_2 0, .int .u64 (cr k), s0 6, ud, .int .i64 ((k : Nat) : Int), s0 9, s0 10, s0 11, s0 12, s0 13, s0 14, s0 15, s0 16, s0 17, s0 18, s0 19, s0 20, s0 21, s0 22, s0 23, s0 24, s0 25, s0 26, s0 27, ud, ud, ud, ud, ud, ud, ud, ud, ud, ud, ud, ud, ud, ud, ud, ud, ud, ud, ud, ud, ud], []⟩ ∧ (Mm w' [(γ1_0, row12 (mix f al ah k)), (γ1_1, cel [bl, bh]), (γ1_2, cel [0, 0])] ∧ Below w.heap.size w w') ∧ k ≤ 6) (fun k => 6 - k) 0 ?st0 ?rd0
 case st0 => exact ⟨(slotfn [ud, ud, ud, ud, ud, ud, ud, ud, ud, ud, ud, ud, ud, ud, ud, ud, ud, ud, ud, ud, ud, ud, ud, ud, ud, ud, ud, ud]), by rw [← C0.out]; rfl, ⟨H3.out.1.atk (by rw [mix_start f al ah]), H3.out.2⟩, by omega⟩
 intro k a' w4 hI
 obtain ⟨s0, rfl, hMB, hk0⟩ := hI
 have H4 : Hid (_ ∧ _) := hMB
 clear hMB H3
 by_cases hlt : k < 6
 ·have hrd : True := trivial
  clear hrd
  have hk12 : k < 12 := by omega
  refine wp_seq ?_
  refine zB 1 [.quiet (.bool true)] H4 ?ho4 ?he4
  case ho4 => exact ak (by refine fun γ => ⟨rfl, fun w' h => ?_⟩; clear h; go_simp <;> omega) trivial
  intro _ w5 H5
  clear H4
  refine rN (wp_seq ?_)
  refine wp_cond_true rfl (wp_skip ?_)
  refine zA (wp_seq ?_)
  refine wp_block (wp_seq ?_)
  refine zB 2 [.quiet (.int .i64 ((k : Nat) : Int)), .quiet (.int .i64 ((k : Nat) : Int))] H5 ?ho5 ?he5
  case ho5 => exact ar (ar trivial)
  intro _ w6 H6
  clear H5
  refine rN ?_
  refine walk_put (by kernel_rfl) 16 [13] [.quiet (.int .i64 ((k : Nat) : Int)), .quiet (.int .i64 ((k : Nat) : Int)), .quiet (PT γ1_0 0), .quiet (PT γ1_0 (0 + k)), .quiet (.int .u64 (ww al ah k)), .quiet (.int .i64 ((k : Nat) : Int)), .quiet (PT γ1_1 0), .quiet (PT γ1_1 (0 + k)), .quiet (.int .u64 (ww bl bh k)), .quiet (.int .u64 (cr k)), .quiet (.tuple #[.int .u64 (f k), .int .u64 (cr (k + 1))]), .quiet (.tuple #[.int .u64 (f k), .int .u64 (cr (k + 1))]), .quiet (.int .u64 (f k)), .quiet (.int .u64 (cr (k + 1))), .quiet (PT γ1_0 0), .quiet (PT γ1_0 (0 + k))] _ ?pre6 ?F6 _ ?hpre6 (fun γ => ?hF6) (by kernel_rfl) rfl trivial (sB H6) ?ho6 ?hla6 ?he6
  case hpre6 => simp only [tk, tz]; rfl
  case hF6 => simp only [fill, Kind.val, Act.put, sa, sz, ss]; rfl
  case ho6 =>
   refine ar ?_
   refine ar ?_
   refine ag ?_
   refine ak (fun γ => ⟨rfl, fun w' _ => yE rfl rfl rfl hlt⟩) ?_
   refine aq (fun w' h => yG h 0 rfl rfl rfl (by rw [off_lo]; exact mix_at hk12)) ?_
   refine ar ?_
   refine ag ?_
   refine ak (fun γ => ⟨rfl, fun w' _ => yE rfl rfl rfl hlt⟩) ?_
   refine aq (fun w' h => yG h 1 rfl rfl rfl (by rw [off_lo, cel_row12]; exact row12_at hk12)) ?_
   refine ar ?_
   refine aq (fun w' h => ex_extern rfl (CE.out k w') rfl (mpn rfl)) ?_
   refine ar ?_
   refine ag ?_
   refine ag ?_
   refine ag ?_
   refine ak (fun γ => ⟨rfl, fun w' _ => yE rfl rfl rfl hlt⟩) ?_
   exact trivial
  case hla6 => exact ⟨⟨_, _, rfl, rfl, fun γ => ⟨rfl, fun w' => by first | rfl | go_simp⟩⟩, trivial⟩
  intro γ w7 l hM hl
  have H7 := keepB H6 hM.below
  clear hM hl l H6 γ
  refine ⟨_, ex_storeI H7.out.1 0 rfl rfl Tryz.sizeOf22 rfl rfl (by rw [off_lo]; exact row12_bd hk12), ?_⟩
  have H8 : Hid (Mm (w7.setCells γ1_0 (0 + k) [.int .u64 (f k)]) [(γ1_0, row12 (mix f al ah (k + 1))), (γ1_1, cel [bl, bh]), (γ1_2, cel [0, 0])] ∧ Below w.heap.size w (w7.setCells γ1_0 (0 + k) [.int .u64 (f k)])) := ⟨by
   have h := H7.out.1.put 0 (off := (0 + k)) (vs := [.int .u64 (f k)]) rfl (by rw [off_lo]; exact row12_bd hk12)
   rw [row12_put0 hk12, mix_step rfl] at h
   exact h, yA _ o1_0.out _ _ _ H7.out.2⟩
  clear H7
  generalize hgw : World.setCells _ _ _ _ = w8 at H8 ⊢
  clear hgw
  refine zF (l := [17]) rfl ?_
  refine zG (d := 5) rfl rfl rfl rfl ?_
  simp only [Act.put, sa, sz, ss]
  refine zE (zH (zA ?_))
  refine zB 1 [.quiet (.int .i64 ((k + 1 : Nat) : Int))] H8 ?ho7 ?he7
  case ho7 => exact ak (by refine fun γ => ⟨rfl, fun w' h => ?_⟩; clear h; go_simp; rw [IntKind.wrap_i64]; omega) trivial
  intro _ w9 H9
  clear H8
  refine zF (l := [1]) rfl ?_
  refine zG (d := 8) rfl rfl rfl rfl ?_
  simp only [Act.put, sa, sz, ss]
  refine zE (zA ?_)
  exact ⟨k + 1, ⟨(slotfn [ud, ud, ud, ud, ud, ud, .int .i64 ((k : Nat) : Int), ud, ud, .bool true, .int .i64 ((k : Nat) : Int), .tuple #[.int .u64 (f k), .int .u64 (cr (k + 1))], .int .i64 ((k : Nat) : Int), .int .i64 ((k : Nat) : Int), PT γ1_0 0, PT γ1_0 (0 + k), .int .u64 (ww al ah k), .int .i64 ((k : Nat) : Int), PT γ1_1 0, PT γ1_1 (0 + k), .int .u64 (ww bl bh k), .int .u64 (cr k), .tuple #[.int .u64 (f k), .int .u64 (cr (k + 1))], .int .u64 (f k), .int .u64 (cr (k + 1)), PT γ1_0 0, PT γ1_0 (0 + k), .int .i64 ((k + 1 : Nat) : Int)]), rfl, ⟨H9.out.1, H9.out.2⟩, by omega⟩, by omega⟩
 have hk6 : k = 6 := by omega
 subst hk6
 refine wp_seq ?_
 refine zB 1 [.quiet (.bool false)] H4 ?ho8 ?he8
 case ho8 => exact ak (by refine fun γ => ⟨rfl, fun w' h => ?_⟩; clear h; go_simp <;> omega) trivial
 intro _ w10 H10
 clear H4
 refine rN (wp_seq (wp_cond_false rfl ?_))
 refine wp_exit ?_
 repeat refine zY ?_
 refine zT ?_
 refine zA (wp_seq (wp_seq ?_))
 refine zB 1 [.quiet (.int .i64 0)] H10 ?ho9 ?he9
 case ho9 => exact ar trivial
 intro _ w11 H11
 clear H10
 refine rN (wp_block ?_)
 refine loop_ghost (α := Nat) (fun k a' w' => ∃ s2 : Nat → Value, a' = ⟨#[V [al, ah], V [bl, bh], PT γ1_0 0, PT γ1_1 0, PT γ1_2 0, .int .u64 (cr (6 + k)), s0 6, s2 7, .int .i64 ((6 : Nat) : Int), .bool false, s0 10, s0 11, s0 12, s0 13, s0 14, s0 15, s0 16, s0 17, s0 18, s0 19, s0 20, s0 21, s0 22, s0 23, s0 24, s0 25, s0 26, s0 27, .int .i64 ((k : Nat) : Int), s2 29, s2 30, s2 31, s2 32, s2 33, s2 34, s2 35, s2 36, s2 37, s2 38, s2 39, s2 40, s2 41, s2 42, s2 43, s2 44, s2 45, s2 46, s2 47, undef], []⟩ ∧ (Mm w' [(γ1_0, row12 (mix f al ah (6 + k))), (γ1_1, cel [bl, bh]), (γ1_2, cel [0, 0])] ∧ Below w.heap.size w w') ∧ k ≤ 6) (fun k => 6 - k) 0 ?st2 ?rd2
 case st2 => exact ⟨(slotfn [ud, ud, ud, ud, ud, ud, ud, ud, ud, ud, ud, ud, ud, ud, ud, ud, ud, ud, ud, ud, ud, ud, ud, ud, ud, ud, ud, ud, ud, ud, ud, ud, ud, ud, ud, ud, ud, ud, ud, ud, ud, ud, ud, ud, ud, ud, ud, ud]), rfl, ⟨H11.out.1, H11.out.2⟩, by omega⟩
 intro k a' w12 hI
 obtain ⟨s2, rfl, hMB, hk2⟩ := hI
 have H12 : Hid (_ ∧ _) := hMB
 clear hMB H11
 by_cases hlt : k < 6
 ·have hrd : True := trivial
  clear hrd
  have hk12 : (6 + k) < 12 := by omega
  refine wp_seq ?_
  refine zB 1 [.quiet (.bool true)] H12 ?ho10 ?he10
  case ho10 => exact ak (by refine fun γ => ⟨rfl, fun w' h => ?_⟩; clear h; go_simp <;> omega) trivial
  intro _ w13 H13
  clear H12
  refine rN (wp_seq ?_)
  refine wp_cond_true rfl (wp_skip ?_)
  refine zA (wp_seq ?_)
  refine wp_block (wp_seq ?_)
  refine zB 2 [.quiet (.int .i64 ((k : Nat) : Int)), .quiet (.int .i64 ((k : Nat) : Int))] H13 ?ho11 ?he11
  case ho11 => exact ar (ar trivial)
  intro _ w14 H14
  clear H13
  refine rN ?_
  refine walk_put (by kernel_rfl) 16 [13] [.quiet (.int .i64 ((k : Nat) : Int)), .quiet (.int .i64 ((k : Nat) : Int)), .quiet (PT γ1_0 6), .quiet (PT γ1_0 (6 + k)), .quiet (.int .u64 (ww al ah (6 + k))), .quiet (.int .i64 ((k : Nat) : Int)), .quiet (PT γ1_1 6), .quiet (PT γ1_1 (6 + k)), .quiet (.int .u64 (ww bl bh (6 + k))), .quiet (.int .u64 (cr (6 + k))), .quiet (.tuple #[.int .u64 (f (6 + k)), .int .u64 (cr (6 + (k + 1)))]), .quiet (.tuple #[.int .u64 (f (6 + k)), .int .u64 (cr (6 + (k + 1)))]), .quiet (.int .u64 (f (6 + k))), .quiet (.int .u64 (cr (6 + (k + 1)))), .quiet (PT γ1_0 6), .quiet (PT γ1_0 (6 + k))] _ ?pre12 ?F12 _ ?hpre12 (fun γ => ?hF12) (by kernel_rfl) rfl trivial (sB H14) ?ho12 ?hla12 ?he12
  case hpre12 => simp only [tk, tz]; rfl
  case hF12 => simp only [fill, Kind.val, Act.put, sa, sz, ss]; rfl
  case ho12 =>
   refine ar ?_
   refine ar ?_
   refine ag ?_
   refine ak (fun γ => ⟨rfl, fun w' _ => yE rfl rfl rfl hlt⟩) ?_
   refine aq (fun w' h => yG h 0 rfl rfl rfl (mix_at hk12)) ?_
   refine ar ?_
   refine ag ?_
   refine ak (fun γ => ⟨rfl, fun w' _ => yE rfl rfl rfl hlt⟩) ?_
   refine aq (fun w' h => yG h 1 rfl rfl rfl (by rw [cel_row12]; exact row12_at hk12)) ?_
   refine ar ?_
   refine aq (fun w' h => ex_extern rfl (CE.out (6 + k) w') rfl (mpn rfl)) ?_
   refine ar ?_
   refine ag ?_
   refine ag ?_
   refine ag ?_
   refine ak (fun γ => ⟨rfl, fun w' _ => yE rfl rfl rfl hlt⟩) ?_
   exact trivial
  case hla12 => exact ⟨⟨_, _, rfl, rfl, fun γ => ⟨rfl, fun w' => by first | rfl | go_simp⟩⟩, trivial⟩
  intro γ w15 l hM hl
  have H15 := keepB H14 hM.below
  clear hM hl l H14 γ
  refine ⟨_, ex_storeI H15.out.1 0 rfl rfl Tryz.sizeOf22 rfl rfl (row12_bd hk12), ?_⟩
  have H16 : Hid (Mm (w15.setCells γ1_0 (6 + k) [.int .u64 (f (6 + k))]) [(γ1_0, row12 (mix f al ah (6 + (k + 1)))), (γ1_1, cel [bl, bh]), (γ1_2, cel [0, 0])] ∧ Below w.heap.size w (w15.setCells γ1_0 (6 + k) [.int .u64 (f (6 + k))])) := ⟨by
   have h := H15.out.1.put 0 (off := (6 + k)) (vs := [.int .u64 (f (6 + k))]) rfl (row12_bd hk12)
   rw [row12_put hk12, mix_step rfl] at h
   exact h, yA _ o1_0.out _ _ _ H15.out.2⟩
  clear H15
  generalize hgw : World.setCells _ _ _ _ = w16 at H16 ⊢
  clear hgw
  refine zF (l := [17]) rfl ?_
  refine zG (d := 5) rfl rfl rfl rfl ?_
  simp only [Act.put, sa, sz, ss]
  refine zE (zH (zA ?_))
  refine zB 1 [.quiet (.int .i64 ((k + 1 : Nat) : Int))] H16 ?ho13 ?he13
  case ho13 => exact ak (by refine fun γ => ⟨rfl, fun w' h => ?_⟩; clear h; go_simp; rw [IntKind.wrap_i64]; omega) trivial
  intro _ w17 H17
  clear H16
  refine zF (l := [1]) rfl ?_
  refine zG (d := 28) rfl rfl rfl rfl ?_
  simp only [Act.put, sa, sz, ss]
  refine zE (zA ?_)
  exact ⟨k + 1, ⟨(slotfn [ud, ud, ud, ud, ud, ud, ud, .int .i64 ((k : Nat) : Int), ud, ud, ud, ud, ud, ud, ud, ud, ud, ud, ud, ud, ud, ud, ud, ud, ud, ud, ud, ud, ud, .bool true, .int .i64 ((k : Nat) : Int), .tuple #[.int .u64 (f (6 + k)), .int .u64 (cr (6 + (k + 1)))], .int .i64 ((k : Nat) : Int), .int .i64 ((k : Nat) : Int), PT γ1_0 6, PT γ1_0 (6 + k), .int .u64 (ww al ah (6 + k)), .int .i64 ((k : Nat) : Int), PT γ1_1 6, PT γ1_1 (6 + k), .int .u64 (ww bl bh (6 + k)), .int .u64 (cr (6 + k)), .tuple #[.int .u64 (f (6 + k)), .int .u64 (cr (6 + (k + 1)))], .int .u64 (f (6 + k)), .int .u64 (cr (6 + (k + 1))), PT γ1_0 6, PT γ1_0 (6 + k), .int .i64 ((k + 1 : Nat) : Int)]), rfl, ⟨H17.out.1, H17.out.2⟩, by omega⟩, by omega⟩
 have hk6 : k = 6 := by omega
 subst hk6
 have H18 : Hid (Mm w12 [(γ1_0, cel [x, y]), (γ1_1, cel [bl, bh]), (γ1_2, cel [0, 0])] ∧ Below w.heap.size w w12) := ⟨H12.out.1.atk (by rw [mix_end HF.out]), H12.out.2⟩
 clear H12
 refine wp_seq ?_
 refine zB 1 [.quiet (.bool false)] H18 ?ho14 ?he14
 case ho14 => exact ak (by refine fun γ => ⟨rfl, fun w' h => ?_⟩; clear h; go_simp <;> omega) trivial
 intro _ w19 H19
 clear H18
 refine rN (wp_seq (wp_cond_false rfl ?_))
 refine wp_exit ?_
 repeat refine zY ?_
 refine zT ?_
 refine zA (wp_seq ?_)
 refine zB 1 [.quiet (V [x, y])] H19 ?ho15 ?he15
 case ho15 => exact bA 0 2 0 Tryz.isAgg189 Tryz.sizeOf189 trivial
 intro _ w20 H20
 clear H19
 refine zF (l := [1]) rfl ?_
 refine sF 2 [x, y] [_, _, _] H20 o1_2 Tryz.sizeOf189 fun w21 H21 => ?_
 clear H20
 refine zE (zA (wp_ret ?_))
 repeat (first | refine zM ?_ | refine zI ?_)
 have hf0 := cel_var (k := 2) H21.out.1 2 rfl Tryz.isAgg189 Tryz.sizeOf189 rfl
 refine bodyPost_ret (v := V [x, y]) (by simp [results, Tryz.results175, asAddr, hf0]) rfl ?_
 exact ⟨rfl, H21.out.2⟩
set_option maxHeartbeats 2000000 in
theorem less_gen (al ah bl bh x y : Nat) (f cr : Nat → Int) (c0 : 0 = cr 0) (hf : ∀ j, j < 12 → f j = ww x y j)
  (ce : ∀ j w, (callFunc 158 #[.int .u64 (ww al ah j), .int .u64 (ww bl bh j), .int .u64 (cr j)]).run Tryz.prog w = .ok (.value (.tuple #[.int .u64 (f j), .int .u64 (cr (j + 1))])) w) (w : World) :
  Calls Tryz.prog 174 #[V [al, ah], V [bl, bh]] w (Rt w (V [x, y])) := by
 have H0 : Hid (_ ∧ _) := ⟨Mm.nil w, Below.refl w.heap.size w⟩
 have C0 : Hid _ := c0
 have CE : Hid _ := ce
 have HF : Hid _ := hf
 clear c0 ce hf
 go_enter Tryz.func174, Tryz.ntmps174
 refine wp_seq ?_
 refine zC 3 [.made (cel [al, ah]) 189, .made (cel [bl, bh]) 189, .made (cel [0, 0]) 189] (sB H0) ?ho1 ?he1
 case ho1 => exact am (ex_boxA rfl rfl) (am (ex_boxA rfl rfl) (am (ex_madeWD rfl) trivial))
 intro γ w1 l hM hl
 have H1 : Hid (Mm w1 [(γ 0, cel [al, ah]), (γ 1, cel [bl, bh]), (γ 2, cel [0, 0])] ∧ _) := wB H0 hM hl [0, 1, 2]
 have o1_0 := vB H0 hM hl 0
 have o1_1 := vB H0 hM hl 1
 have o1_2 := vB H0 hM hl 2
 clear hM hl l
 generalize γ 0 = γ1_0 at H1 o1_0 ⊢
 generalize γ 1 = γ1_1 at H1 o1_1 ⊢
 generalize γ 2 = γ1_2 at H1 o1_2 ⊢
 clear γ
 refine rN (wp_seq ?_)
 refine zB 1 [.quiet (.int .u64 0)] H1 ?ho2 ?he2
 case ho2 => exact ar trivial
 intro _ w2 H2
 clear H1
 refine rN (wp_seq (wp_seq ?_))
 refine zB 1 [.quiet (.int .i64 0)] H2 ?ho3 ?he3
 case ho3 => exact ar trivial
 intro _ w3 H3
 clear H2
 refine rN (wp_block ?_)
 refine loop_ghost (α := Nat) (fun k a' w' => ∃ s0 : Nat → Value, a' = ⟨#[V [al, ah], V [bl, bh], PT γ1_0 0, PT γ1_1 0, PT γ1_2 0, .int .u64 (cr k), s0 6, ud, .int .i64 ((k : Nat) : Int), s0 9, s0 10, s0 11, s0 12, s0 13, s0 14, s0 15, s0 16, s0 17, s0 18, s0 19, s0 20, s0 21, s0 22, s0 23, s0 24, s0 25, s0 26, s0 27, ud, ud, ud, ud, ud, ud, ud, ud, ud, ud, ud, ud, ud, ud, ud, ud, ud, ud, ud, ud, ud], []⟩ ∧ (Mm w' [(γ1_0, row12 (mix f al ah k)), (γ1_1, cel [bl, bh]), (γ1_2, cel [0, 0])] ∧ Below w.heap.size w w') ∧ k ≤ 6) (fun k => 6 - k) 0 ?st0 ?rd0
 case st0 => exact ⟨(slotfn [ud, ud, ud, ud, ud, ud, ud, ud, ud, ud, ud, ud, ud, ud, ud, ud, ud, ud, ud, ud, ud, ud, ud, ud, ud, ud, ud, ud]), by rw [← C0.out]; rfl, ⟨H3.out.1.atk (by rw [mix_start f al ah]), H3.out.2⟩, by omega⟩
 intro k a' w4 hI
 obtain ⟨s0, rfl, hMB, hk0⟩ := hI
 have H4 : Hid (_ ∧ _) := hMB
 clear hMB H3
 by_cases hlt : k < 6
 ·have hrd : True := trivial
  clear hrd
  have hk12 : k < 12 := by omega
  refine wp_seq ?_
  refine zB 1 [.quiet (.bool true)] H4 ?ho4 ?he4
  case ho4 => exact ak (by refine fun γ => ⟨rfl, fun w' h => ?_⟩; clear h; go_simp <;> omega) trivial
  intro _ w5 H5
  clear H4
  refine rN (wp_seq ?_)
  refine wp_cond_true rfl (wp_skip ?_)
  refine zA (wp_seq ?_)
  refine wp_block (wp_seq ?_)
  refine zB 2 [.quiet (.int .i64 ((k : Nat) : Int)), .quiet (.int .i64 ((k : Nat) : Int))] H5 ?ho5 ?he5
  case ho5 => exact ar (ar trivial)
  intro _ w6 H6
  clear H5
  refine rN ?_
  refine walk_put (by kernel_rfl) 16 [13] [.quiet (.int .i64 ((k : Nat) : Int)), .quiet (.int .i64 ((k : Nat) : Int)), .quiet (PT γ1_0 0), .quiet (PT γ1_0 (0 + k)), .quiet (.int .u64 (ww al ah k)), .quiet (.int .i64 ((k : Nat) : Int)), .quiet (PT γ1_1 0), .quiet (PT γ1_1 (0 + k)), .quiet (.int .u64 (ww bl bh k)), .quiet (.int .u64 (cr k)), .quiet (.tuple #[.int .u64 (f k), .int .u64 (cr (k + 1))]), .quiet (.tuple #[.int .u64 (f k), .int .u64 (cr (k + 1))]), .quiet (.int .u64 (f k)), .quiet (.int .u64 (cr (k + 1))), .quiet (PT γ1_0 0), .quiet (PT γ1_0 (0 + k))] _ ?pre6 ?F6 _ ?hpre6 (fun γ => ?hF6) (by kernel_rfl) rfl trivial (sB H6) ?ho6 ?hla6 ?he6
  case hpre6 => simp only [tk, tz]; rfl
  case hF6 => simp only [fill, Kind.val, Act.put, sa, sz, ss]; rfl
  case ho6 =>
   refine ar ?_
   refine ar ?_
   refine ag ?_
   refine ak (fun γ => ⟨rfl, fun w' _ => yE rfl rfl rfl hlt⟩) ?_
   refine aq (fun w' h => yG h 0 rfl rfl rfl (by rw [off_lo]; exact mix_at hk12)) ?_
   refine ar ?_
   refine ag ?_
   refine ak (fun γ => ⟨rfl, fun w' _ => yE rfl rfl rfl hlt⟩) ?_
   refine aq (fun w' h => yG h 1 rfl rfl rfl (by rw [off_lo, cel_row12]; exact row12_at hk12)) ?_
   refine ar ?_
   refine aq (fun w' h => ex_extern rfl (CE.out k w') rfl (mpn rfl)) ?_
   refine ar ?_
   refine ag ?_
   refine ag ?_
   refine ag ?_
   refine ak (fun γ => ⟨rfl, fun w' _ => yE rfl rfl rfl hlt⟩) ?_
   exact trivial
  case hla6 => exact ⟨⟨_, _, rfl, rfl, fun γ => ⟨rfl, fun w' => by first | rfl | go_simp⟩⟩, trivial⟩
  intro γ w7 l hM hl
  have H7 := keepB H6 hM.below
  clear hM hl l H6 γ
  refine ⟨_, ex_storeI H7.out.1 0 rfl rfl Tryz.sizeOf22 rfl rfl (by rw [off_lo]; exact row12_bd hk12), ?_⟩
  have H8 : Hid (Mm (w7.setCells γ1_0 (0 + k) [.int .u64 (f k)]) [(γ1_0, row12 (mix f al ah (k + 1))), (γ1_1, cel [bl, bh]), (γ1_2, cel [0, 0])] ∧ Below w.heap.size w (w7.setCells γ1_0 (0 + k) [.int .u64 (f k)])) := ⟨by
   have h := H7.out.1.put 0 (off := (0 + k)) (vs := [.int .u64 (f k)]) rfl (by rw [off_lo]; exact row12_bd hk12)
   rw [row12_put0 hk12, mix_step rfl] at h
   exact h, yA _ o1_0.out _ _ _ H7.out.2⟩
  clear H7
  generalize hgw : World.setCells _ _ _ _ = w8 at H8 ⊢
  clear hgw
  refine zF (l := [17]) rfl ?_
  refine zG (d := 5) rfl rfl rfl rfl ?_
  simp only [Act.put, sa, sz, ss]
  refine zE (zH (zA ?_))
  refine zB 1 [.quiet (.int .i64 ((k + 1 : Nat) : Int))] H8 ?ho7 ?he7
  case ho7 => exact ak (by refine fun γ => ⟨rfl, fun w' h => ?_⟩; clear h; go_simp; rw [IntKind.wrap_i64]; omega) trivial
  intro _ w9 H9
  clear H8
  refine zF (l := [1]) rfl ?_
  refine zG (d := 8) rfl rfl rfl rfl ?_
  simp only [Act.put, sa, sz, ss]
  refine zE (zA ?_)
  exact ⟨k + 1, ⟨(slotfn [ud, ud, ud, ud, ud, ud, .int .i64 ((k : Nat) : Int), ud, ud, .bool true, .int .i64 ((k : Nat) : Int), .tuple #[.int .u64 (f k), .int .u64 (cr (k + 1))], .int .i64 ((k : Nat) : Int), .int .i64 ((k : Nat) : Int), PT γ1_0 0, PT γ1_0 (0 + k), .int .u64 (ww al ah k), .int .i64 ((k : Nat) : Int), PT γ1_1 0, PT γ1_1 (0 + k), .int .u64 (ww bl bh k), .int .u64 (cr k), .tuple #[.int .u64 (f k), .int .u64 (cr (k + 1))], .int .u64 (f k), .int .u64 (cr (k + 1)), PT γ1_0 0, PT γ1_0 (0 + k), .int .i64 ((k + 1 : Nat) : Int)]), rfl, ⟨H9.out.1, H9.out.2⟩, by omega⟩, by omega⟩
 have hk6 : k = 6 := by omega
 subst hk6
 refine wp_seq ?_
 refine zB 1 [.quiet (.bool false)] H4 ?ho8 ?he8
 case ho8 => exact ak (by refine fun γ => ⟨rfl, fun w' h => ?_⟩; clear h; go_simp <;> omega) trivial
 intro _ w10 H10
 clear H4
 refine rN (wp_seq (wp_cond_false rfl ?_))
 refine wp_exit ?_
 repeat refine zY ?_
 refine zT ?_
 refine zA (wp_seq (wp_seq ?_))
 refine zB 1 [.quiet (.int .i64 0)] H10 ?ho9 ?he9
 case ho9 => exact ar trivial
 intro _ w11 H11
 clear H10
 refine rN (wp_block ?_)
 refine loop_ghost (α := Nat) (fun k a' w' => ∃ s2 : Nat → Value, a' = ⟨#[V [al, ah], V [bl, bh], PT γ1_0 0, PT γ1_1 0, PT γ1_2 0, .int .u64 (cr (6 + k)), s0 6, s2 7, .int .i64 ((6 : Nat) : Int), .bool false, s0 10, s0 11, s0 12, s0 13, s0 14, s0 15, s0 16, s0 17, s0 18, s0 19, s0 20, s0 21, s0 22, s0 23, s0 24, s0 25, s0 26, s0 27, .int .i64 ((k : Nat) : Int), s2 29, s2 30, s2 31, s2 32, s2 33, s2 34, s2 35, s2 36, s2 37, s2 38, s2 39, s2 40, s2 41, s2 42, s2 43, s2 44, s2 45, s2 46, s2 47, undef], []⟩ ∧ (Mm w' [(γ1_0, row12 (mix f al ah (6 + k))), (γ1_1, cel [bl, bh]), (γ1_2, cel [0, 0])] ∧ Below w.heap.size w w') ∧ k ≤ 6) (fun k => 6 - k) 0 ?st2 ?rd2
 case st2 => exact ⟨(slotfn [ud, ud, ud, ud, ud, ud, ud, ud, ud, ud, ud, ud, ud, ud, ud, ud, ud, ud, ud, ud, ud, ud, ud, ud, ud, ud, ud, ud, ud, ud, ud, ud, ud, ud, ud, ud, ud, ud, ud, ud, ud, ud, ud, ud, ud, ud, ud, ud]), rfl, ⟨H11.out.1, H11.out.2⟩, by omega⟩
 intro k a' w12 hI
 obtain ⟨s2, rfl, hMB, hk2⟩ := hI
 have H12 : Hid (_ ∧ _) := hMB
 clear hMB H11
 by_cases hlt : k < 6
 ·have hrd : True := trivial
  clear hrd
  have hk12 : (6 + k) < 12 := by omega
  refine wp_seq ?_
  refine zB 1 [.quiet (.bool true)] H12 ?ho10 ?he10
  case ho10 => exact ak (by refine fun γ => ⟨rfl, fun w' h => ?_⟩; clear h; go_simp <;> omega) trivial
  intro _ w13 H13
  clear H12
  refine rN (wp_seq ?_)
  refine wp_cond_true rfl (wp_skip ?_)
  refine zA (wp_seq ?_)
  refine wp_block (wp_seq ?_)
  refine zB 2 [.quiet (.int .i64 ((k : Nat) : Int)), .quiet (.int .i64 ((k : Nat) : Int))] H13 ?ho11 ?he11
  case ho11 => exact ar (ar trivial)
  intro _ w14 H14
  clear H13
  refine rN ?_
  refine walk_put (by kernel_rfl) 16 [13] [.quiet (.int .i64 ((k : Nat) : Int)), .quiet (.int .i64 ((k : Nat) : Int)), .quiet (PT γ1_0 6), .quiet (PT γ1_0 (6 + k)), .quiet (.int .u64 (ww al ah (6 + k))), .quiet (.int .i64 ((k : Nat) : Int)), .quiet (PT γ1_1 6), .quiet (PT γ1_1 (6 + k)), .quiet (.int .u64 (ww bl bh (6 + k))), .quiet (.int .u64 (cr (6 + k))), .quiet (.tuple #[.int .u64 (f (6 + k)), .int .u64 (cr (6 + (k + 1)))]), .quiet (.tuple #[.int .u64 (f (6 + k)), .int .u64 (cr (6 + (k + 1)))]), .quiet (.int .u64 (f (6 + k))), .quiet (.int .u64 (cr (6 + (k + 1)))), .quiet (PT γ1_0 6), .quiet (PT γ1_0 (6 + k))] _ ?pre12 ?F12 _ ?hpre12 (fun γ => ?hF12) (by kernel_rfl) rfl trivial (sB H14) ?ho12 ?hla12 ?he12
  case hpre12 => simp only [tk, tz]; rfl
  case hF12 => simp only [fill, Kind.val, Act.put, sa, sz, ss]; rfl
  case ho12 =>
   refine ar ?_
   refine ar ?_
   refine ag ?_
   refine ak (fun γ => ⟨rfl, fun w' _ => yE rfl rfl rfl hlt⟩) ?_
   refine aq (fun w' h => yG h 0 rfl rfl rfl (mix_at hk12)) ?_
   refine ar ?_
   refine ag ?_
   refine ak (fun γ => ⟨rfl, fun w' _ => yE rfl rfl rfl hlt⟩) ?_
   refine aq (fun w' h => yG h 1 rfl rfl rfl (by rw [cel_row12]; exact row12_at hk12)) ?_
   refine ar ?_
   refine aq (fun w' h => ex_extern rfl (CE.out (6 + k) w') rfl (mpn rfl)) ?_
   refine ar ?_
   refine ag ?_
   refine ag ?_
   refine ag ?_
   refine ak (fun γ => ⟨rfl, fun w' _ => yE rfl rfl rfl hlt⟩) ?_
   exact trivial
  case hla12 => exact ⟨⟨_, _, rfl, rfl, fun γ => ⟨rfl, fun w' => by first | rfl | go_simp⟩⟩, trivial⟩
  intro γ w15 l hM hl
  have H15 := keepB H14 hM.below
  clear hM hl l H14 γ
  refine ⟨_, ex_storeI H15.out.1 0 rfl rfl Tryz.sizeOf22 rfl rfl (row12_bd hk12), ?_⟩
  have H16 : Hid (Mm (w15.setCells γ1_0 (6 + k) [.int .u64 (f (6 + k))]) [(γ1_0, row12 (mix f al ah (6 + (k + 1)))), (γ1_1, cel [bl, bh]), (γ1_2, cel [0, 0])] ∧ Below w.heap.size w (w15.setCells γ1_0 (6 + k) [.int .u64 (f (6 + k))])) := ⟨by
   have h := H15.out.1.put 0 (off := (6 + k)) (vs := [.int .u64 (f (6 + k))]) rfl (row12_bd hk12)
   rw [row12_put hk12, mix_step rfl] at h
   exact h, yA _ o1_0.out _ _ _ H15.out.2⟩
  clear H15
  generalize hgw : World.setCells _ _ _ _ = w16 at H16 ⊢
  clear hgw
  refine zF (l := [17]) rfl ?_
  refine zG (d := 5) rfl rfl rfl rfl ?_
  simp only [Act.put, sa, sz, ss]
  refine zE (zH (zA ?_))
  refine zB 1 [.quiet (.int .i64 ((k + 1 : Nat) : Int))] H16 ?ho13 ?he13
  case ho13 => exact ak (by refine fun γ => ⟨rfl, fun w' h => ?_⟩; clear h; go_simp; rw [IntKind.wrap_i64]; omega) trivial
  intro _ w17 H17
  clear H16
  refine zF (l := [1]) rfl ?_
  refine zG (d := 28) rfl rfl rfl rfl ?_
  simp only [Act.put, sa, sz, ss]
  refine zE (zA ?_)
  exact ⟨k + 1, ⟨(slotfn [ud, ud, ud, ud, ud, ud, ud, .int .i64 ((k : Nat) : Int), ud, ud, ud, ud, ud, ud, ud, ud, ud, ud, ud, ud, ud, ud, ud, ud, ud, ud, ud, ud, ud, .bool true, .int .i64 ((k : Nat) : Int), .tuple #[.int .u64 (f (6 + k)), .int .u64 (cr (6 + (k + 1)))], .int .i64 ((k : Nat) : Int), .int .i64 ((k : Nat) : Int), PT γ1_0 6, PT γ1_0 (6 + k), .int .u64 (ww al ah (6 + k)), .int .i64 ((k : Nat) : Int), PT γ1_1 6, PT γ1_1 (6 + k), .int .u64 (ww bl bh (6 + k)), .int .u64 (cr (6 + k)), .tuple #[.int .u64 (f (6 + k)), .int .u64 (cr (6 + (k + 1)))], .int .u64 (f (6 + k)), .int .u64 (cr (6 + (k + 1))), PT γ1_0 6, PT γ1_0 (6 + k), .int .i64 ((k + 1 : Nat) : Int)]), rfl, ⟨H17.out.1, H17.out.2⟩, by omega⟩, by omega⟩
 have hk6 : k = 6 := by omega
 subst hk6
 have H18 : Hid (Mm w12 [(γ1_0, cel [x, y]), (γ1_1, cel [bl, bh]), (γ1_2, cel [0, 0])] ∧ Below w.heap.size w w12) := ⟨H12.out.1.atk (by rw [mix_end HF.out]), H12.out.2⟩
 clear H12
 refine wp_seq ?_
 refine zB 1 [.quiet (.bool false)] H18 ?ho14 ?he14
 case ho14 => exact ak (by refine fun γ => ⟨rfl, fun w' h => ?_⟩; clear h; go_simp <;> omega) trivial
 intro _ w19 H19
 clear H18
 refine rN (wp_seq (wp_cond_false rfl ?_))
 refine wp_exit ?_
 repeat refine zY ?_
 refine zT ?_
 refine zA (wp_seq ?_)
 refine zB 1 [.quiet (V [x, y])] H19 ?ho15 ?he15
 case ho15 => exact bA 0 2 0 Tryz.isAgg189 Tryz.sizeOf189 trivial
 intro _ w20 H20
 clear H19
 refine zF (l := [1]) rfl ?_
 refine sF 2 [x, y] [_, _, _] H20 o1_2 Tryz.sizeOf189 fun w21 H21 => ?_
 clear H20
 refine zE (zA (wp_ret ?_))
 repeat (first | refine zM ?_ | refine zI ?_)
 have hf0 := cel_var (k := 2) H21.out.1 2 rfl Tryz.isAgg189 Tryz.sizeOf189 rfl
 refine bodyPost_ret (v := V [x, y]) (by simp [results, Tryz.results174, asAddr, hf0]) rfl ?_
 exact ⟨rfl, H21.out.2⟩
theorem sub_wordn (a b k n : Nat) (hk : k < n) (hb : b < 2 ^ (64 * n)) : subLo (wd a k) (wd b k) (brw a b k) = wd (a + 2 ^ (64 * n) - b) k := by
 unfold subLo wd brw
 have e : 2 ^ (64 * n) = 2 ^ (64 * k) * (18446744073709551616 * 2 ^ (64 * (n - 1 - k))) := by
  have : 64 * n = 64 * k + (64 + 64 * (n - 1 - k)) := by omega
  rw [this, Nat.pow_add, Nat.pow_add]
 have hp := pow_pos' k
 rw [e] at hb ⊢
 generalize 2 ^ (64 * (n - 1 - k)) = R at hb ⊢
 generalize 2 ^ (64 * k) = B at hp hb ⊢
 have hbh : b / B < 18446744073709551616 * R := (Nat.div_lt_iff_lt_mul hp).2 (by rw [Nat.mul_comm]; exact hb)
 have da := Nat.div_add_mod a B
 have db := Nat.div_add_mod b B
 have la := Nat.mod_lt a hp
 have lb := Nat.mod_lt b hp
 generalize a / B = x at da ⊢
 generalize b / B = y at db hbh ⊢
 generalize a % B = p at da la ⊢
 generalize b % B = q at db lb ⊢
 by_cases h : p < q
 ·have e2 : a + B * (18446744073709551616 * R) - b = (p + B - q) + B * (x + 18446744073709551616 * R - y - 1) := by
   have h3 : B * (x + 18446744073709551616 * R - y - 1) = B * x + B * (18446744073709551616 * R) - B * y - B := by
    rw [Nat.mul_sub, Nat.mul_sub, Nat.mul_add, Nat.mul_one]
   have h4 : B * y + B ≤ B * (18446744073709551616 * R) := by rw [← Nat.mul_succ]; exact Nat.mul_le_mul_left B hbh
   rw [h3]; omega
  rw [e2, Nat.add_mul_div_left _ _ hp, Nat.div_eq_of_lt (by omega : p + B - q < B), if_pos h]
  omega
 ·have e2 : a + B * (18446744073709551616 * R) - b = (p - q) + B * (x + 18446744073709551616 * R - y) := by
   have h3 : B * (x + 18446744073709551616 * R - y) = B * x + B * (18446744073709551616 * R) - B * y := by
    rw [Nat.mul_sub, Nat.mul_add]
   have h4 : B * y + B ≤ B * (18446744073709551616 * R) := by rw [← Nat.mul_succ]; exact Nat.mul_le_mul_left B hbh
   rw [h3]; omega
  rw [e2, Nat.add_mul_div_left _ _ hp, Nat.div_eq_of_lt (by omega : p - q < B), if_neg h]
  omega
/-! Wide numbers stand for integers. -/
def bb : Nat := big * big
theorem bb_pow : ∃ n, n = 12 ∧ bb = 2 ^ (64 * n) := by
 obtain ⟨m, hm, e⟩ := big_pow
 refine ⟨m + m, by omega, ?_⟩
 unfold bb
 rw [e, ← Nat.pow_add, Nat.mul_add]
theorem bb_pos : 0 < bb := Nat.mul_pos big_pos big_pos
theorem bbI : (0 : Int) < (bb : Int) := by have := bb_pos; omega
def wz (z : Int) : Nat := (z % (bb : Int)).toNat
theorem wz_cast (z : Int) : ((wz z : Nat) : Int) = z % (bb : Int) := Int.toNat_of_nonneg (Int.emod_nonneg _ (by have := bbI; omega))
theorem wz_lt (z : Int) : wz z < bb := by
 have h := wz_cast z
 have h2 := Int.emod_lt_of_pos z bbI
 omega
theorem wz_nat (n : Nat) (h : n < bb) : wz n = n := by
 have e := wz_cast n
 rw [Int.emod_eq_of_lt (by omega) (by omega)] at e
 omega
theorem wz_add (x y : Int) : wz (x + y) = (wz x + wz y) % bb := by
 have h : ((wz (x + y) : Nat) : Int) = (((wz x + wz y) % bb : Nat) : Int) := by
  rw [wz_cast, Int.natCast_emod, Int.natCast_add, wz_cast, wz_cast, ← Int.add_emod]
 omega
theorem wz_sub (x y : Int) : wz (x - y) = (wz x + bb - wz y) % bb := by
 have hy := wz_lt y
 have h : ((wz (x - y) : Nat) : Int) = (((wz x + bb - wz y) % bb : Nat) : Int) := by
  rw [wz_cast, Int.natCast_emod, show ((wz x + bb - wz y : Nat) : Int) = (wz x : Int) - (wz y : Int) + (bb : Int) by omega, Int.add_emod_right, wz_cast, wz_cast, ← Int.sub_emod]
 omega
abbrev lo (z : Int) : Nat := wz z % big
abbrev hi (z : Int) : Nat := wz z / big
theorem ww_wd (X j : Nat) : ww (X % big) (X / big) j = wd X j := by
 unfold ww
 by_cases h : j < 6
 ·rw [if_pos h, wd_mod _ _ h]
 ·rw [if_neg h, ← wd_hi, show j - 6 + 6 = j by omega]
theorem wd_modn (v j n : Nat) (h : j < n) : wd (v % 2 ^ (64 * n)) j = wd v j := by
 unfold wd
 have e : 2 ^ (64 * n) = 2 ^ (64 * j) * (18446744073709551616 * 2 ^ (64 * (n - 1 - j))) := by
  have : 64 * n = 64 * j + (64 + 64 * (n - 1 - j)) := by omega
  rw [this, Nat.pow_add, Nat.pow_add]
 rw [e, Nat.mod_mul_right_div_self, Nat.mod_mul_right_mod]
theorem plusZ_any (x y : Int) (w : World) : Calls Tryz.prog 175 #[V [lo x, hi x], V [lo y, hi y]] w (Rt w (V [lo (x + y), hi (x + y)])) := by
 obtain ⟨n, hn, eb⟩ := bb_pow
 refine plus_gen (lo x) (hi x) (lo y) (hi y) (lo (x + y)) (hi (x + y)) (fun j => wd (wz x + wz y) j) (fun j => cry (wz x) (wz y) j) ?_ (fun j hj => ?_) (fun j w => ?_) w
 ·unfold cry; simp [Nat.mod_one]
 ·rw [ww_wd, wz_add, eb, wd_modn _ _ _ (by omega)]
 ·rw [ww_wd, ww_wd]
  have h := add64' (wd (wz x) j) (wd (wz y) j) (cry (wz x) (wz y) j) (wd_bd _ _).1 (wd_bd _ _).1 (cry_bd _ _ _).1 (cry_bd _ _ _).2 w
  rw [add_word, add_cry] at h
  exact h
theorem lessZ_any (x y : Int) (w : World) : Calls Tryz.prog 174 #[V [lo x, hi x], V [lo y, hi y]] w (Rt w (V [lo (x - y), hi (x - y)])) := by
 obtain ⟨n, hn, eb⟩ := bb_pow
 refine less_gen (lo x) (hi x) (lo y) (hi y) (lo (x - y)) (hi (x - y)) (fun j => subLo (wd (wz x) j) (wd (wz y) j) (brw (wz x) (wz y) j)) (fun j => brw (wz x) (wz y) j) ?_ (fun j hj => ?_) (fun j w => ?_) w
 ·unfold brw; simp [Nat.mod_one]
 ·have hy := wz_lt y
  show subLo (wd (wz x) j) (wd (wz y) j) (brw (wz x) (wz y) j) = _
  rw [ww_wd, wz_sub, eb, wd_modn _ _ _ (by omega)]
  rw [eb] at hy
  exact sub_wordn _ _ _ n (by omega) hy
 ·rw [ww_wd, ww_wd]
  have h := sub64' (wd (wz x) j) (wd (wz y) j) (brw (wz x) (wz y) j) (wd_bd _ _).1 (wd_bd _ _).1 (wd_bd _ _).2 (brw_bd _ _ _).1 (brw_bd _ _ _).2 w
  rw [sub_cry] at h
  exact h
theorem timesZ_any (a b : Nat) (ha : a < big) (hb : b < big) (w : World) : Calls Tryz.prog 173 #[N a, N b] w (Rt w (V [lo ((a : Int) * b), hi ((a : Int) * b)])) := by
 have h : wz ((a : Int) * b) = a * b := by
  rw [← Int.natCast_mul]
  exact wz_nat _ (Nat.mul_lt_mul'' ha hb)
 have ht := times_gen a b (a * b % big) (a * b / big) (fun w => mul_any a b ha hb w) w
 unfold lo hi
 rw [h]
 exact ht
/-! Numbers by p. -/
theorem left_any (a : Nat) (ha : a < big) (w : World) : Calls Tryz.prog 164 #[N a] w (Rt w (N (a % pB))) := by
 have hp := pB_lt
 have hpos : 0 < pB := pB_ok.pos
 have cb := base_pB
 generalize pB = p at *
 have hdm := Nat.div_add_mod a p
 have hlt := Nat.mod_lt a hpos
 have e : a - a / p * p = a % p := by rw [Nat.mul_comm]; omega
 have hk : ∀ k, k ≤ a / p → k * p ≤ a := fun k hk => Nat.le_trans (Nat.mul_le_mul hk (Nat.le_refl p)) (by rw [Nat.mul_comm]; omega)
 have h := left_gen a p ((a % p + big - p) % big) (a / p) (fun k => a - k * p) (by simp) cb (fun k hk' w => ?_) (fun w => ?_) w
 ·rw [e] at h
  exact h
 ·have h1 := hk (k + 1) hk'
  rw [Nat.add_mul, Nat.one_mul] at h1
  have h := sub_any (a - k * p) p (by omega) hp w
  rw [decide_eq_false (by omega), show a - k * p + big - p = a - (k + 1) * p + big by rw [Nat.add_mul, Nat.one_mul]; omega, Nat.add_mod_right, Nat.mod_eq_of_lt (by omega)] at h
  exact h
 ·rw [e]
  have h := sub_any (a % p) p (by omega) hp w
  rw [decide_eq_true hlt] at h
  exact h
theorem together_any (a b : Nat) (h : a + b < big) (w : World) : Calls Tryz.prog 165 #[N a, N b] w (Rt w (N (a + b))) := by
 have c := fun w => add_any a b (by omega) (by omega) w
 rw [Nat.mod_eq_of_lt h] at c
 exact together_gen a b _ _ c w
theorem sumP_any (a b : Nat) (h : a + b < big) (w : World) : Calls Tryz.prog 143 #[N a, N b] w (Rt w (N ((a + b) % pB))) :=
 sum_gen a b _ _ (fun w => together_any a b h w) (fun w => left_any (a + b) h w) w
theorem diffP_any (a b : Nat) (ha : a < pB) (hb : b < pB) (w : World) : Calls Tryz.prog 144 #[N a, N b] w (Rt w (N (subm pB a b))) := by
 have hp := pB_lt
 have cb := base_pB
 have ht := pB_ok.top
 generalize pB = p at *
 have c := fun w => sub_any a b (by omega) (by omega) w
 have hm : b % p = b := Nat.mod_eq_of_lt hb
 by_cases h : a < b
 ·rw [decide_eq_true h, Nat.mod_eq_of_lt (show a + big - b < big by omega)] at c
  have c2 := fun w => add_any (a + big - b) p (by omega) hp w
  have e : (a + big - b + p) % big = subm p a b := by
   unfold subm
   rw [hm, show a + big - b + p = a + (p - b) + big by omega, Nat.add_mod_right, Nat.mod_eq_of_lt (by omega), Nat.mod_eq_of_lt (by omega)]
  rw [e] at c2
  exact diff_2 a b _ _ _ _ c cb c2 w
 ·have e : (a + big - b) % big = subm p a b := by
   unfold subm
   rw [hm, show a + big - b = a - b + big by omega, Nat.add_mod_right, Nat.mod_eq_of_lt (by omega), show a + (p - b) = a - b + p by omega, Nat.add_mod_right, Nat.mod_eq_of_lt (by omega)]
  rw [decide_eq_false h, e] at c
  exact diff_1 a b _ c w
theorem Mm.over {u w : World} {l : List (Nat × List Value)} {g : Nat} {cs : List Value} (h0 : Mm u l) (hge : u.heap.size ≤ g) (h1 : Mm w l) (hb : Blk w g cs) (hlt : g < w.heap.size) : Mm w ((g, cs) :: l) :=
 h1.cons hb hlt (fun p hp => by have := (h0.blk p hp).1; omega)
theorem ex_madeF {ρ : Operand → Value} {o : Oper} {w : World} (ho : o.op = .alloc 167) :
  (execOp ρ o).run Tryz.prog w = .ok (.value (.pointer (some ⟨w.heap.size, 0, none⟩))) (w.alloc (.cells [.pointer none].toArray 167)) := by
 simp only [execOp, ho]
 go_simp
theorem ex_buildF {ρ : Operand → Value} {o : Oper} {x : Operand} {g : Nat} {w : World} (ho : o.op = .build 167 #[(0, x)]) (hx : ρ x = PT g 0) : (execOp ρ o).run Tryz.prog w = .ok (.value (.agg #[PT g 0])) w := by
 simp only [execOp, ho]
 go_simp
theorem ex_storeF {ρ : Operand → Value} {o : Oper} {x y : Operand} {g b : Nat} {cs : List Value} {w : World} {l : List (Nat × List Value)} (h : Mm w l) (k : Nat) (hk : l[k]? = some (g, cs)) (ho : o.op = .store 167 x y) (hx : ρ x = PT g 0) (hy : ρ y = .agg #[PT b 0]) (hc : 0 < cs.length) :
  (execOp ρ o).run Tryz.prog w = .ok .skip (w.setCells g 0 [PT b 0]) := by
 have hm := List.mem_of_getElem? hk
 have e : cs[0]? = some (cs[0]'hc) := List.getElem?_eq_getElem _
 have c0 := h.cell hm e
 have f0 := h.free hm e
 clear h hm hk
 simp only [execOp, ho, hx, hy]
 go_simp
 simp [World.setCells]
set_option maxHeartbeats 1000000 in
theorem great_gen (n : Nat)
  (c0 : ∀ w, Calls Tryz.prog 82 #[] w (Rt w (N n)))
  (c1 : ∀ w, Calls Tryz.prog 81 #[N n] w fun e w' => Below w.heap.size w w' ∧ ∃ g, e = .returned (.tuple #[PT g 0, .int .i64 0]) ∧ w.heap.size ≤ g ∧ g < w'.heap.size ∧ Blk w' g (yB n)) (w : World) :
  Calls Tryz.prog 145 #[] w fun e w' => Below w.heap.size w w' ∧ ∃ g, e = .returned (.agg #[PT g 0]) ∧ w.heap.size ≤ g ∧ g < w'.heap.size ∧ Blk w' g (yB n) := by
 have H0 : Hid (_ ∧ _) := ⟨Mm.nil w, Below.refl w.heap.size w⟩
 have C0 : Hid _ := c0
 have C1 : Hid _ := c1
 clear c0 c1
 go_enter Tryz.func145, Tryz.ntmps145
 refine wp_seq ?_
 refine zC 1 [.made [.pointer none] 167] (sB H0) ?ho1 ?he1
 case ho1 => exact am (ex_madeF rfl) trivial
 intro γ w1 l hM hl
 have H1 : Hid (Mm w1 [(γ 0, [.pointer none])] ∧ _) := wB H0 hM hl [0]
 have o1_0 := vB H0 hM hl 0
 clear hM hl l
 generalize γ 0 = γ1_0 at H1 o1_0 ⊢
 clear γ
 refine rN (wp_seq ?_)
 refine zC 2 [.call (N n), .born (fun g => .tuple #[PT g 0, .int .i64 0]) (yB n)] (sB H1) ?ho2 ?he2
 case ho2 => exact ak (fun γ => ⟨rfl, fun w' h => eC call82 (C0.out w')⟩) (ak (fun γ => ⟨rfl, fun w' h => eC call81 (C1.out w')⟩) trivial)
 intro γ w2 l hM hl
 have H2 : Hid (Mm w2 ([(γ 1, yB n)] ++ _) ∧ _) := wB H1 hM hl [1]
 have o2_1 := vB H1 hM hl 1
 clear hM hl l H1
 generalize γ 1 = γ2_1 at H2 o2_1 ⊢
 clear γ
 refine zF (l := [2, 3, 4, 5, 6]) rfl ?_
 refine zG (d := 3) rfl rfl rfl rfl ?_
 simp only [Act.put, sa, sz, ss]
 refine zG (d := 6) (v := PT γ2_1 0) (w' := w2) rfl rfl rfl (by go_simp) ?_
 simp only [Act.put, sa, sz, ss]
 refine zG (d := 7) (v := .int .i64 0) (w' := w2) rfl rfl rfl (by go_simp) ?_
 simp only [Act.put, sa, sz, ss]
 refine zG (d := 1) rfl rfl rfl rfl ?_
 simp only [Act.put, sa, sz, ss]
 refine zG (d := 2) rfl rfl rfl rfl ?_
 simp only [Act.put, sa, sz, ss]
 refine zE (zA (wp_seq ?_))
 refine zB 2 [.quiet (PT γ2_1 0), .quiet (.agg #[PT γ2_1 0])] H2 ?ho3 ?he3
 case ho3 => exact ar (ak (fun γ => ⟨rfl, fun w' _ => ex_buildF rfl rfl⟩) trivial)
 intro _ w3 H3
 clear H2
 refine zF (l := [2]) rfl ?_
 refine sG rfl (fun h => ex_storeF h 1 rfl rfl rfl rfl (Nat.le_of_ble_eq_true rfl)) 1 [_, (_, [PT γ2_1 0])] H3 o1_0 fun w4 H4 => ?_
 clear H3
 refine zE (zA (wp_ret ?_))
 repeat (first | refine zM ?_ | refine zI ?_)
 have hf0 := H4.out.1.get 1 rfl 0 rfl
 refine bodyPost_ret (v := .agg #[PT γ2_1 0]) (by simp [results, Tryz.results145, go_sem, *]) rfl ?_
 exact ⟨H4.out.2, γ2_1, rfl, o2_1.out, H4.out.1.lt (List.mem_of_getElem? (i := 0) rfl), (H4.out.1.blk _ (List.mem_of_getElem? (i := 0) rfl)).2⟩
set_option maxHeartbeats 1000000 in
theorem rest_gen (g n o s u0 u1 d x r : Nat) (cx : Bool)
  (c0 : ∀ w, Mm w [(g, zZ n o s)] → Calls Tryz.prog 179 #[PT g 0] w (Rt w (N n)))
  (c1 : ∀ w, Calls Tryz.prog 36 #[N n, .int .i64 1] w (Rt w (N d)))
  (c2 : ∀ w, Calls Tryz.prog 37 #[N u1, N d] w (Rt w (.tuple #[N x, .bool cx])))
  (c3 : ∀ w, Mm w [(g, zZ n o s)] → Calls Tryz.prog 180 #[PT g 0, N u0, N x] w (Rt w (N r))) (w : World) (hm : Mm w [(g, zZ n o s)]) :
  Calls Tryz.prog 172 #[.agg #[PT g 0], V [u0, u1]] w (Rt w (N r)) := by
 have H0 : Hid (_ ∧ _) := ⟨hm, Below.refl w.heap.size w⟩
 clear hm
 have C0 : Hid _ := c0
 have C1 : Hid _ := c1
 have C2 : Hid _ := c2
 have C3 : Hid _ := c3
 clear c0 c1 c2 c3
 go_enter Tryz.func172, Tryz.ntmps172
 refine wp_seq ?_
 refine zC 3 [.made [PT g 0] 167, .made (cel [u0, u1]) 189, .made zero6 24] (sB H0) ?ho1 ?he1
 case ho1 => exact am (ex_boxF rfl rfl) (am (ex_boxA rfl rfl) (am (zJ rfl) trivial))
 intro γ w1 l hM hl
 have H1 : Hid (Mm w1 ([(γ 0, [PT g 0]), (γ 1, cel [u0, u1]), (γ 2, zero6)] ++ _) ∧ _) := wB H0 hM hl [0, 1, 2]
 have o1_0 := vB H0 hM hl 0
 have o1_1 := vB H0 hM hl 1
 have o1_2 := vB H0 hM hl 2
 clear hM hl l
 generalize γ 0 = γ1_0 at H1 o1_0 ⊢
 generalize γ 1 = γ1_1 at H1 o1_1 ⊢
 generalize γ 2 = γ1_2 at H1 o1_2 ⊢
 clear γ
 refine rN (wp_seq ?_)
 refine zS 13 [.quiet (PT γ1_1 6), .quiet (N u1), .quiet (PT γ1_0 0), .quiet (PT g 0), .call (N n), .call (N d), .call (.tuple #[N x, .bool cx]), .quiet (.tuple #[N x, .bool cx]), .quiet (N x), .quiet (.bool cx), .made zero6 24, .laid 10 zero6 (zD x), .quiet (.bool cx)] (sB H1) ?ho2 ?he2 (hL := ?hL2)
 case hL2 => exact ⟨⟨_, rfl⟩, trivial⟩
 case ho2 => exact ag (aq (fun w' h => zX (i := 1) h 1 rfl rfl rfl rfl) (ag (aq (fun w' h => ex_loadQ h 0 rfl rfl rfl rfl) (ac (fun w' h => eC call179 (C0.out w' (h.one 3 rfl))) (ac (fun w' h => eC call36 (C1.out w')) (ac (fun w' h => eC call37 (C2.out w')) (ar (ag (ag (am (zJ rfl) (ak (fun γ => ⟨rfl, rfl, rfl, fun w' h => zN h rfl rfl rfl⟩) (ar trivial))))))))))))
 intro γ w2 l hM hl
 have H2 : Hid (Mm w2 ([(γ 10, zD x)] ++ _) ∧ _) := wB H1 hM hl [10]
 have o2_10 := vB H1 hM hl 10
 clear hM hl l H1
 generalize γ 10 = γ2_10 at H2 o2_10 ⊢
 clear γ
 refine rN (wp_seq ?_)
 refine zB 6 [.quiet (PT γ1_0 0), .quiet (PT g 0), .quiet (PT γ1_1 0), .quiet (N u0), .quiet (N x), .call (N r)] H2 ?ho3 ?he3
 case ho3 => exact ag (aq (fun w' h => ex_loadQ h 1 rfl rfl rfl rfl) (ag (aq (fun w' h => zX (i := 0) h 2 rfl rfl rfl rfl) (bN 0 (ac (fun w' h => eC call180 (C3.out w' (h.one 4 rfl))) trivial)))))
 intro _ w3 H3
 clear H2
 refine zF (l := [6]) rfl ?_
 refine sG rfl (fun h => zO h 3 rfl rfl rfl rfl (Nat.le_of_ble_eq_true rfl)) 3 [_, _, _, (_, zD r), _] H3 o1_2 fun w4 H4 => ?_
 clear H3
 refine zE (zA (wp_ret ?_))
 repeat (first | refine zM ?_ | refine zI ?_)
 have c0 := H4.out.1.get 3 rfl 0 rfl
 have c1 := H4.out.1.get 3 rfl 1 rfl
 have c2 := H4.out.1.get 3 rfl 2 rfl
 have c3 := H4.out.1.get 3 rfl 3 rfl
 have c4 := H4.out.1.get 3 rfl 4 rfl
 have c5 := H4.out.1.get 3 rfl 5 rfl
 refine bodyPost_ret (v := N r) (by simp [results, Tryz.results172, go_sem, *]) rfl ?_
 exact ⟨rfl, H4.out.2⟩
set_option maxHeartbeats 1000000 in
theorem times2_gen (a0 a1 b0 b1 ta tb f0 f1 g0 g1 t0 t1 x0 x1 y0 y1 z0 z1 : Nat)
  (c0 : ∀ w, Calls Tryz.prog 173 #[N a0, N b0] w (Rt w (V [f0, f1])))
  (c1 : ∀ w, Calls Tryz.prog 173 #[N a1, N b1] w (Rt w (V [g0, g1])))
  (c2 : ∀ w, Calls Tryz.prog 165 #[N a0, N a1] w (Rt w (N ta)))
  (c3 : ∀ w, Calls Tryz.prog 165 #[N b0, N b1] w (Rt w (N tb)))
  (c4 : ∀ w, Calls Tryz.prog 173 #[N ta, N tb] w (Rt w (V [t0, t1])))
  (c5 : ∀ w, Calls Tryz.prog 174 #[V [f0, f1], V [g0, g1]] w (Rt w (V [x0, x1])))
  (c6 : ∀ w, Calls Tryz.prog 174 #[V [t0, t1], V [f0, f1]] w (Rt w (V [y0, y1])))
  (c7 : ∀ w, Calls Tryz.prog 174 #[V [y0, y1], V [g0, g1]] w (Rt w (V [z0, z1]))) (w : World) :
  Calls Tryz.prog 167 #[V [a0, a1], V [b0, b1]] w (Rt w (V [x0, x1, z0, z1])) := by
 have H0 : Hid (_ ∧ _) := ⟨Mm.nil w, Below.refl w.heap.size w⟩
 have C0 : Hid _ := c0
 have C1 : Hid _ := c1
 have C2 : Hid _ := c2
 have C3 : Hid _ := c3
 have C4 : Hid _ := c4
 have C5 : Hid _ := c5
 have C6 : Hid _ := c6
 have C7 : Hid _ := c7
 clear c0 c1 c2 c3 c4 c5 c6 c7
 go_enter Tryz.func167, Tryz.ntmps167
 refine wp_seq ?_
 refine zC 3 [.made (cel [a0, a1]) 40, .made (cel [b0, b1]) 40, .made (cel [0, 0, 0, 0]) 191] (sB H0) ?ho1 ?he1
 case ho1 => exact am (ex_boxA rfl rfl) (am (ex_boxA rfl rfl) (am (ex_madeW2 rfl) trivial))
 intro γ w1 l hM hl
 have H1 : Hid (Mm w1 [(γ 0, cel [a0, a1]), (γ 1, cel [b0, b1]), (γ 2, cel [0, 0, 0, 0])] ∧ _) := wB H0 hM hl [0, 1, 2]
 have o1_0 := vB H0 hM hl 0
 have o1_1 := vB H0 hM hl 1
 have o1_2 := vB H0 hM hl 2
 clear hM hl l
 generalize γ 0 = γ1_0 at H1 o1_0 ⊢
 generalize γ 1 = γ1_1 at H1 o1_1 ⊢
 generalize γ 2 = γ1_2 at H1 o1_2 ⊢
 clear γ
 refine rN (wp_seq ?_)
 refine zS 14 [.quiet (PT γ1_0 0), .quiet (N a0), .quiet (PT γ1_1 0), .quiet (N b0), .call (V [f0, f1]), .quiet (PT γ1_0 6), .quiet (N a1), .quiet (PT γ1_1 6), .quiet (N b1), .call (V [g0, g1]), .made (cel [0, 0]) 189, .made (cel [0, 0]) 189, .laid 10 (cel [0, 0]) (cel [f0, f1]), .laid 11 (cel [0, 0]) (cel [g0, g1])] (sB H1) ?ho2 ?he2 (hL := ?hL2)
 case hL2 => exact ⟨⟨_, rfl⟩, ⟨_, rfl⟩, trivial⟩
 case ho2 => exact ag (aq (fun w' h => zX (i := 0) h 0 rfl rfl rfl rfl) (ag (aq (fun w' h => zX (i := 0) h 1 rfl rfl rfl rfl) (ac (fun w' h => eC call173 (C0.out w')) (ag (aq (fun w' h => zX (i := 1) h 0 rfl rfl rfl rfl) (ag (aq (fun w' h => zX (i := 1) h 1 rfl rfl rfl rfl) (ac (fun w' h => eC call173 (C1.out w')) (am (ex_madeWD rfl) (am (ex_madeWD rfl) (ak (fun γ => ⟨rfl, rfl, rfl, fun w' h => ex_laidA h rfl Tryz.sizeOf189 rfl rfl rfl⟩) (ak (fun γ => ⟨rfl, rfl, rfl, fun w' h => ex_laidA h rfl Tryz.sizeOf189 rfl rfl rfl⟩) trivial)))))))))))))
 intro γ w2 l hM hl
 have H2 : Hid (Mm w2 ([(γ 10, cel [f0, f1]), (γ 11, cel [g0, g1])] ++ _) ∧ _) := wB H1 hM hl [10, 11]
 have o2_10 := vB H1 hM hl 10
 have o2_11 := vB H1 hM hl 11
 clear hM hl l H1
 generalize γ 10 = γ2_10 at H2 o2_10 ⊢
 generalize γ 11 = γ2_11 at H2 o2_11 ⊢
 clear γ
 refine rN (wp_seq ?_)
 refine zS 13 [.quiet (PT γ1_0 0), .quiet (N a0), .quiet (PT γ1_0 6), .quiet (N a1), .call (N ta), .quiet (PT γ1_1 0), .quiet (N b0), .quiet (PT γ1_1 6), .quiet (N b1), .call (N tb), .call (V [t0, t1]), .made (cel [0, 0]) 189, .laid 11 (cel [0, 0]) (cel [t0, t1])] (sB H2) ?ho3 ?he3 (hL := ?hL3)
 case hL3 => exact ⟨⟨_, rfl⟩, trivial⟩
 case ho3 => exact ag (aq (fun w' h => zX (i := 0) h 2 rfl rfl rfl rfl) (ag (aq (fun w' h => zX (i := 1) h 2 rfl rfl rfl rfl) (ac (fun w' h => eC call165 (C2.out w')) (ag (aq (fun w' h => zX (i := 0) h 3 rfl rfl rfl rfl) (ag (aq (fun w' h => zX (i := 1) h 3 rfl rfl rfl rfl) (ac (fun w' h => eC call165 (C3.out w')) (ac (fun w' h => eC call173 (C4.out w')) (am (ex_madeWD rfl) (ak (fun γ => ⟨rfl, rfl, rfl, fun w' h => ex_laidA h rfl Tryz.sizeOf189 rfl rfl rfl⟩) trivial))))))))))))
 intro γ w3 l hM hl
 have H3 : Hid (Mm w3 ([(γ 11, cel [t0, t1])] ++ _) ∧ _) := wB H2 hM hl [11]
 have o3_11 := vB H2 hM hl 11
 clear hM hl l H2
 generalize γ 11 = γ3_11 at H3 o3_11 ⊢
 clear γ
 refine rN (wp_seq ?_)
 refine zP 9 [.quiet (V [f0, f1]), .quiet (V [g0, g1]), .call (V [x0, x1]), .quiet (V [t0, t1]), .quiet (V [f0, f1]), .call (V [y0, y1]), .quiet (V [g0, g1]), .call (V [z0, z1]), .quiet (V [x0, x1, z0, z1])] H3 ?ho4 ?he4
 case ho4 => exact bA 0 2 1 Tryz.isAgg189 Tryz.sizeOf189 (bA 0 2 2 Tryz.isAgg189 Tryz.sizeOf189 (ac (fun w' h => eC call174 (C5.out w')) (bA 0 2 0 Tryz.isAgg189 Tryz.sizeOf189 (bA 0 2 1 Tryz.isAgg189 Tryz.sizeOf189 (ac (fun w' h => eC call174 (C6.out w')) (bA 0 2 2 Tryz.isAgg189 Tryz.sizeOf189 (ac (fun w' h => eC call174 (C7.out w')) (ak (fun γ => ⟨rfl, fun w' _ => ex_buildW2 rfl rfl rfl⟩) trivial))))))))
 intro _ w4 H4
 clear H3
 refine zF (l := [9]) rfl ?_
 refine sF 5 [x0, x1, z0, z1] [_, _, _, _, _, _] H4 o1_2 Tryz.sizeOf191 fun w5 H5 => ?_
 clear H4
 refine zE (zA (wp_ret ?_))
 repeat (first | refine zM ?_ | refine zI ?_)
 have hf0 := cel_var (k := 4) H5.out.1 5 rfl Tryz.isAgg191 Tryz.sizeOf191 rfl
 refine bodyPost_ret (v := V [x0, x1, z0, z1]) (by simp [results, Tryz.results167, asAddr, hf0]) rfl ?_
 exact ⟨rfl, H5.out.2⟩
set_option maxHeartbeats 1000000 in
theorem rest2_gen (g n o s u0 u1 v0 v1 r0 r1 : Nat)
  (c0 : ∀ w, Mm w [(g, zZ n o s)] → Calls Tryz.prog 172 #[.agg #[PT g 0], V [u0, u1]] w (Rt w (N r0)))
  (c1 : ∀ w, Mm w [(g, zZ n o s)] → Calls Tryz.prog 172 #[.agg #[PT g 0], V [v0, v1]] w (Rt w (N r1))) (w : World) (hm : Mm w [(g, zZ n o s)]) :
  Calls Tryz.prog 166 #[.agg #[PT g 0], V [u0, u1, v0, v1]] w (Rt w (V [r0, r1])) := by
 have H0 : Hid (_ ∧ _) := ⟨hm, Below.refl w.heap.size w⟩
 clear hm
 have C0 : Hid _ := c0
 have C1 : Hid _ := c1
 clear c0 c1
 go_enter Tryz.func166, Tryz.ntmps166
 refine wp_seq ?_
 refine zC 3 [.made [PT g 0] 167, .made (cel [u0, u1, v0, v1]) 191, .made (cel [0, 0]) 40] (sB H0) ?ho1 ?he1
 case ho1 => exact am (ex_boxF rfl rfl) (am (ex_boxA rfl rfl) (am (ex_madeE2 rfl) trivial))
 intro γ w1 l hM hl
 have H1 : Hid (Mm w1 ([(γ 0, [PT g 0]), (γ 1, cel [u0, u1, v0, v1]), (γ 2, cel [0, 0])] ++ _) ∧ _) := wB H0 hM hl [0, 1, 2]
 have o1_0 := vB H0 hM hl 0
 have o1_1 := vB H0 hM hl 1
 have o1_2 := vB H0 hM hl 2
 clear hM hl l
 generalize γ 0 = γ1_0 at H1 o1_0 ⊢
 generalize γ 1 = γ1_1 at H1 o1_1 ⊢
 generalize γ 2 = γ1_2 at H1 o1_2 ⊢
 clear γ
 refine rN (wp_seq ?_)
 refine zP 9 [.quiet (.agg #[PT g 0]), .quiet (PT γ1_1 0), .quiet (V [u0, u1]), .call (N r0), .quiet (.agg #[PT g 0]), .quiet (PT γ1_1 12), .quiet (V [v0, v1]), .call (N r1), .quiet (V [r0, r1])] H1 ?ho2 ?he2
 case ho2 => exact aq (fun w' h => ex_loadF h 0 rfl rfl rfl rfl) (ag (bA 0 2 1 Tryz.isAgg189 Tryz.sizeOf189 (ac (fun w' h => eC call172 (C0.out w' (h.one 3 rfl))) (aq (fun w' h => ex_loadF h 0 rfl rfl rfl rfl) (ag (bA 2 2 1 Tryz.isAgg189 Tryz.sizeOf189 (ac (fun w' h => eC call172 (C1.out w' (h.one 3 rfl))) (ak (fun γ => ⟨rfl, fun w' _ => ex_buildE2 rfl rfl rfl⟩) trivial))))))))
 intro _ w2 H2
 clear H1
 refine zF (l := [9]) rfl ?_
 refine sF 2 [r0, r1] [_, _, _, _] H2 o1_2 Tryz.sizeOf40 fun w3 H3 => ?_
 clear H2
 refine zE (zA (wp_ret ?_))
 repeat (first | refine zM ?_ | refine zI ?_)
 have hf0 := cel_var (k := 2) H3.out.1 2 rfl Tryz.isAgg40 Tryz.sizeOf40 rfl
 refine bodyPost_ret (v := V [r0, r1]) (by simp [results, Tryz.results166, asAddr, hf0]) rfl ?_
 exact ⟨rfl, H3.out.2⟩
set_option maxHeartbeats 1000000 in
theorem mul2_gen (g n o s a0 a1 b0 b1 u0 u1 v0 v1 r0 r1 : Nat)
  (c0 : ∀ w, Calls Tryz.prog 167 #[V [a0, a1], V [b0, b1]] w (Rt w (V [u0, u1, v0, v1])))
  (c1 : ∀ w, Mm w [(g, zZ n o s)] → Calls Tryz.prog 166 #[.agg #[PT g 0], V [u0, u1, v0, v1]] w (Rt w (V [r0, r1]))) (w : World) (hm : Mm w [(g, zZ n o s)]) :
  Calls Tryz.prog 146 #[.agg #[PT g 0], V [a0, a1], V [b0, b1]] w (Rt w (V [r0, r1])) := by
 have H0 : Hid (_ ∧ _) := ⟨hm, Below.refl w.heap.size w⟩
 clear hm
 have C0 : Hid _ := c0
 have C1 : Hid _ := c1
 clear c0 c1
 go_enter Tryz.func146, Tryz.ntmps146
 refine wp_seq ?_
 refine zC 4 [.made [PT g 0] 167, .made (cel [a0, a1]) 40, .made (cel [b0, b1]) 40, .made (cel [0, 0]) 40] (sB H0) ?ho1 ?he1
 case ho1 => exact am (ex_boxF rfl rfl) (am (ex_boxA rfl rfl) (am (ex_boxA rfl rfl) (am (ex_madeE2 rfl) trivial)))
 intro γ w1 l hM hl
 have H1 : Hid (Mm w1 ([(γ 0, [PT g 0]), (γ 1, cel [a0, a1]), (γ 2, cel [b0, b1]), (γ 3, cel [0, 0])] ++ _) ∧ _) := wB H0 hM hl [0, 1, 2, 3]
 have o1_0 := vB H0 hM hl 0
 have o1_1 := vB H0 hM hl 1
 have o1_2 := vB H0 hM hl 2
 have o1_3 := vB H0 hM hl 3
 clear hM hl l
 generalize γ 0 = γ1_0 at H1 o1_0 ⊢
 generalize γ 1 = γ1_1 at H1 o1_1 ⊢
 generalize γ 2 = γ1_2 at H1 o1_2 ⊢
 generalize γ 3 = γ1_3 at H1 o1_3 ⊢
 clear γ
 refine rN (wp_seq ?_)
 refine zP 5 [.quiet (.agg #[PT g 0]), .quiet (V [a0, a1]), .quiet (V [b0, b1]), .call (V [u0, u1, v0, v1]), .call (V [r0, r1])] H1 ?ho2 ?he2
 case ho2 => exact aq (fun w' h => ex_loadF h 0 rfl rfl rfl rfl) (bA 0 2 1 Tryz.isAgg40 Tryz.sizeOf40 (bA 0 2 2 Tryz.isAgg40 Tryz.sizeOf40 (ac (fun w' h => eC call167 (C0.out w')) (ac (fun w' h => eC call166 (C1.out w' (h.one 4 rfl))) trivial))))
 intro _ w2 H2
 clear H1
 refine zF (l := [5]) rfl ?_
 refine sF 3 [r0, r1] [_, _, _, _, _] H2 o1_3 Tryz.sizeOf40 fun w3 H3 => ?_
 clear H2
 refine zE (zA (wp_ret ?_))
 repeat (first | refine zM ?_ | refine zI ?_)
 have hf0 := cel_var (k := 2) H3.out.1 3 rfl Tryz.isAgg40 Tryz.sizeOf40 rfl
 refine bodyPost_ret (v := V [r0, r1]) (by simp [results, Tryz.results146, asAddr, hf0]) rfl ?_
 exact ⟨rfl, H3.out.2⟩
set_option maxHeartbeats 1000000 in
theorem left2_gen (a0 a1 r0 r1 : Nat)
  (c0 : ∀ w, Calls Tryz.prog 164 #[N a0] w (Rt w (N r0)))
  (c1 : ∀ w, Calls Tryz.prog 164 #[N a1] w (Rt w (N r1))) (w : World) :
  Calls Tryz.prog 142 #[V [a0, a1]] w (Rt w (V [r0, r1])) := by
 have H0 : Hid (_ ∧ _) := ⟨Mm.nil w, Below.refl w.heap.size w⟩
 have C0 : Hid _ := c0
 have C1 : Hid _ := c1
 clear c0 c1
 go_enter Tryz.func142, Tryz.ntmps142
 refine wp_seq ?_
 refine zC 2 [.made (cel [a0, a1]) 40, .made (cel [0, 0]) 40] (sB H0) ?ho1 ?he1
 case ho1 => exact am (ex_boxA rfl rfl) (am (ex_madeE2 rfl) trivial)
 intro γ w1 l hM hl
 have H1 : Hid (Mm w1 [(γ 0, cel [a0, a1]), (γ 1, cel [0, 0])] ∧ _) := wB H0 hM hl [0, 1]
 have o1_0 := vB H0 hM hl 0
 have o1_1 := vB H0 hM hl 1
 clear hM hl l
 generalize γ 0 = γ1_0 at H1 o1_0 ⊢
 generalize γ 1 = γ1_1 at H1 o1_1 ⊢
 clear γ
 refine rN (wp_seq ?_)
 refine zP 7 [.quiet (PT γ1_0 0), .quiet (N a0), .call (N r0), .quiet (PT γ1_0 6), .quiet (N a1), .call (N r1), .quiet (V [r0, r1])] H1 ?ho2 ?he2
 case ho2 => exact ag (aq (fun w' h => zX (i := 0) h 0 rfl rfl rfl rfl) (ac (fun w' h => eC call164 (C0.out w')) (ag (aq (fun w' h => zX (i := 1) h 0 rfl rfl rfl rfl) (ac (fun w' h => eC call164 (C1.out w')) (ak (fun γ => ⟨rfl, fun w' _ => ex_buildE2 rfl rfl rfl⟩) trivial))))))
 intro _ w2 H2
 clear H1
 refine zF (l := [7]) rfl ?_
 refine sF 1 [r0, r1] [_, _] H2 o1_1 Tryz.sizeOf40 fun w3 H3 => ?_
 clear H2
 refine zE (zA (wp_ret ?_))
 repeat (first | refine zM ?_ | refine zI ?_)
 have hf0 := cel_var (k := 2) H3.out.1 1 rfl Tryz.isAgg40 Tryz.sizeOf40 rfl
 refine bodyPost_ret (v := V [r0, r1]) (by simp [results, Tryz.results142, asAddr, hf0]) rfl ?_
 exact ⟨rfl, H3.out.2⟩
set_option maxHeartbeats 1000000 in
theorem add2_gen (a0 a1 b0 b1 m0 m1 q0 q1 r0 r1 : Nat)
  (c0 : ∀ w, Calls Tryz.prog 142 #[V [a0, a1]] w (Rt w (V [m0, m1])))
  (c1 : ∀ w, Calls Tryz.prog 142 #[V [b0, b1]] w (Rt w (V [q0, q1])))
  (c2 : ∀ w, Calls Tryz.prog 143 #[N m0, N q0] w (Rt w (N r0)))
  (c3 : ∀ w, Calls Tryz.prog 143 #[N m1, N q1] w (Rt w (N r1))) (w : World) :
  Calls Tryz.prog 103 #[V [a0, a1], V [b0, b1]] w (Rt w (V [r0, r1])) := by
 have H0 : Hid (_ ∧ _) := ⟨Mm.nil w, Below.refl w.heap.size w⟩
 have C0 : Hid _ := c0
 have C1 : Hid _ := c1
 have C2 : Hid _ := c2
 have C3 : Hid _ := c3
 clear c0 c1 c2 c3
 go_enter Tryz.func103, Tryz.ntmps103
 refine wp_seq ?_
 refine zC 3 [.made (cel [a0, a1]) 40, .made (cel [b0, b1]) 40, .made (cel [0, 0]) 40] (sB H0) ?ho1 ?he1
 case ho1 => exact am (ex_boxA rfl rfl) (am (ex_boxA rfl rfl) (am (ex_madeE2 rfl) trivial))
 intro γ w1 l hM hl
 have H1 : Hid (Mm w1 [(γ 0, cel [a0, a1]), (γ 1, cel [b0, b1]), (γ 2, cel [0, 0])] ∧ _) := wB H0 hM hl [0, 1, 2]
 have o1_0 := vB H0 hM hl 0
 have o1_1 := vB H0 hM hl 1
 have o1_2 := vB H0 hM hl 2
 clear hM hl l
 generalize γ 0 = γ1_0 at H1 o1_0 ⊢
 generalize γ 1 = γ1_1 at H1 o1_1 ⊢
 generalize γ 2 = γ1_2 at H1 o1_2 ⊢
 clear γ
 refine rN (wp_seq ?_)
 refine walk_put (by kernel_rfl) 4 [] [.quiet (V [a0, a1]), .call (V [m0, m1]), .quiet (V [b0, b1]), .call (V [q0, q1])] _ ?pre2 ?F2 _ ?hpre2 (fun γ => ?hF2) (by kernel_rfl) rfl trivial (sB H1) ?ho2 ?hla2 ?he2
 case hpre2 => simp only [tk, tz]; rfl
 case hF2 => simp only [fill, Kind.val, Act.put, sa, sz, ss]; rfl
 case ho2 =>
  refine bA 0 2 0 Tryz.isAgg40 Tryz.sizeOf40 ?_
  refine ak (fun γ => ⟨rfl, fun w' h => eC call142 (C0.out w')⟩) ?_
  refine bA 0 2 1 Tryz.isAgg40 Tryz.sizeOf40 ?_
  refine ak (fun γ => ⟨rfl, fun w' h => eC call142 (C1.out w')⟩) ?_
  exact trivial
 case hla2 => exact trivial
 intro γ w2 l hM hl
 have H2 := keepB H1 hM.below
 clear hM hl l H1 γ
 refine ⟨_, ex_storeA (i := 0) (ms := [m0, m1]) H2.out.1 0 rfl rfl rfl rfl Tryz.sizeOf40 (Nat.le_of_ble_eq_true rfl), ?_⟩
 have H3 : Hid (Mm (w2.setCells γ1_0 (6 * 0) (cel [m0, m1])) [(γ1_0, cel [m0, m1]), (γ1_1, cel [b0, b1]), (γ1_2, cel [0, 0])] ∧ Below w.heap.size w (w2.setCells γ1_0 (6 * 0) (cel [m0, m1]))) := ⟨by
  have h := H2.out.1.put 0 (off := 6 * 0) (vs := cel [m0, m1]) rfl (by simp only [cel_len]; exact Nat.le_of_ble_eq_true rfl)
  rw [cel_patch] at h
  exact h, yA _ o1_0.out _ _ _ H2.out.2⟩
 clear H2
 generalize hgw : World.setCells _ _ _ _ = w3 at H3 ⊢
 clear hgw
 refine zF (l := [5]) rfl ?_
 refine sF 1 [q0, q1] [_, _, _] H3 o1_1 Tryz.sizeOf40 fun w4 H4 => ?_
 clear H3
 refine zE (zA (wp_seq ?_))
 refine zP 11 [.quiet (PT γ1_0 0), .quiet (N m0), .quiet (PT γ1_1 0), .quiet (N q0), .call (N r0), .quiet (PT γ1_0 6), .quiet (N m1), .quiet (PT γ1_1 6), .quiet (N q1), .call (N r1), .quiet (V [r0, r1])] H4 ?ho3 ?he3
 case ho3 => exact ag (aq (fun w' h => zX (i := 0) h 0 rfl rfl rfl rfl) (ag (aq (fun w' h => zX (i := 0) h 1 rfl rfl rfl rfl) (ac (fun w' h => eC call143 (C2.out w')) (ag (aq (fun w' h => zX (i := 1) h 0 rfl rfl rfl rfl) (ag (aq (fun w' h => zX (i := 1) h 1 rfl rfl rfl rfl) (ac (fun w' h => eC call143 (C3.out w')) (ak (fun γ => ⟨rfl, fun w' _ => ex_buildE2 rfl rfl rfl⟩) trivial))))))))))
 intro _ w5 H5
 clear H4
 refine zF (l := [11]) rfl ?_
 refine sF 2 [r0, r1] [_, _, _] H5 o1_2 Tryz.sizeOf40 fun w6 H6 => ?_
 clear H5
 refine zE (zA (wp_ret ?_))
 repeat (first | refine zM ?_ | refine zI ?_)
 have hf0 := cel_var (k := 2) H6.out.1 2 rfl Tryz.isAgg40 Tryz.sizeOf40 rfl
 refine bodyPost_ret (v := V [r0, r1]) (by simp [results, Tryz.results103, asAddr, hf0]) rfl ?_
 exact ⟨rfl, H6.out.2⟩
set_option maxHeartbeats 1000000 in
theorem sub2_gen (a0 a1 b0 b1 m0 m1 q0 q1 r0 r1 : Nat)
  (c0 : ∀ w, Calls Tryz.prog 142 #[V [a0, a1]] w (Rt w (V [m0, m1])))
  (c1 : ∀ w, Calls Tryz.prog 142 #[V [b0, b1]] w (Rt w (V [q0, q1])))
  (c2 : ∀ w, Calls Tryz.prog 144 #[N m0, N q0] w (Rt w (N r0)))
  (c3 : ∀ w, Calls Tryz.prog 144 #[N m1, N q1] w (Rt w (N r1))) (w : World) :
  Calls Tryz.prog 104 #[V [a0, a1], V [b0, b1]] w (Rt w (V [r0, r1])) := by
 have H0 : Hid (_ ∧ _) := ⟨Mm.nil w, Below.refl w.heap.size w⟩
 have C0 : Hid _ := c0
 have C1 : Hid _ := c1
 have C2 : Hid _ := c2
 have C3 : Hid _ := c3
 clear c0 c1 c2 c3
 go_enter Tryz.func104, Tryz.ntmps104
 refine wp_seq ?_
 refine zC 3 [.made (cel [a0, a1]) 40, .made (cel [b0, b1]) 40, .made (cel [0, 0]) 40] (sB H0) ?ho1 ?he1
 case ho1 => exact am (ex_boxA rfl rfl) (am (ex_boxA rfl rfl) (am (ex_madeE2 rfl) trivial))
 intro γ w1 l hM hl
 have H1 : Hid (Mm w1 [(γ 0, cel [a0, a1]), (γ 1, cel [b0, b1]), (γ 2, cel [0, 0])] ∧ _) := wB H0 hM hl [0, 1, 2]
 have o1_0 := vB H0 hM hl 0
 have o1_1 := vB H0 hM hl 1
 have o1_2 := vB H0 hM hl 2
 clear hM hl l
 generalize γ 0 = γ1_0 at H1 o1_0 ⊢
 generalize γ 1 = γ1_1 at H1 o1_1 ⊢
 generalize γ 2 = γ1_2 at H1 o1_2 ⊢
 clear γ
 refine rN (wp_seq ?_)
 refine walk_put (by kernel_rfl) 4 [] [.quiet (V [a0, a1]), .call (V [m0, m1]), .quiet (V [b0, b1]), .call (V [q0, q1])] _ ?pre2 ?F2 _ ?hpre2 (fun γ => ?hF2) (by kernel_rfl) rfl trivial (sB H1) ?ho2 ?hla2 ?he2
 case hpre2 => simp only [tk, tz]; rfl
 case hF2 => simp only [fill, Kind.val, Act.put, sa, sz, ss]; rfl
 case ho2 =>
  refine bA 0 2 0 Tryz.isAgg40 Tryz.sizeOf40 ?_
  refine ak (fun γ => ⟨rfl, fun w' h => eC call142 (C0.out w')⟩) ?_
  refine bA 0 2 1 Tryz.isAgg40 Tryz.sizeOf40 ?_
  refine ak (fun γ => ⟨rfl, fun w' h => eC call142 (C1.out w')⟩) ?_
  exact trivial
 case hla2 => exact trivial
 intro γ w2 l hM hl
 have H2 := keepB H1 hM.below
 clear hM hl l H1 γ
 refine ⟨_, ex_storeA (i := 0) (ms := [m0, m1]) H2.out.1 0 rfl rfl rfl rfl Tryz.sizeOf40 (Nat.le_of_ble_eq_true rfl), ?_⟩
 have H3 : Hid (Mm (w2.setCells γ1_0 (6 * 0) (cel [m0, m1])) [(γ1_0, cel [m0, m1]), (γ1_1, cel [b0, b1]), (γ1_2, cel [0, 0])] ∧ Below w.heap.size w (w2.setCells γ1_0 (6 * 0) (cel [m0, m1]))) := ⟨by
  have h := H2.out.1.put 0 (off := 6 * 0) (vs := cel [m0, m1]) rfl (by simp only [cel_len]; exact Nat.le_of_ble_eq_true rfl)
  rw [cel_patch] at h
  exact h, yA _ o1_0.out _ _ _ H2.out.2⟩
 clear H2
 generalize hgw : World.setCells _ _ _ _ = w3 at H3 ⊢
 clear hgw
 refine zF (l := [5]) rfl ?_
 refine sF 1 [q0, q1] [_, _, _] H3 o1_1 Tryz.sizeOf40 fun w4 H4 => ?_
 clear H3
 refine zE (zA (wp_seq ?_))
 refine zP 11 [.quiet (PT γ1_0 0), .quiet (N m0), .quiet (PT γ1_1 0), .quiet (N q0), .call (N r0), .quiet (PT γ1_0 6), .quiet (N m1), .quiet (PT γ1_1 6), .quiet (N q1), .call (N r1), .quiet (V [r0, r1])] H4 ?ho3 ?he3
 case ho3 => exact ag (aq (fun w' h => zX (i := 0) h 0 rfl rfl rfl rfl) (ag (aq (fun w' h => zX (i := 0) h 1 rfl rfl rfl rfl) (ac (fun w' h => eC call144 (C2.out w')) (ag (aq (fun w' h => zX (i := 1) h 0 rfl rfl rfl rfl) (ag (aq (fun w' h => zX (i := 1) h 1 rfl rfl rfl rfl) (ac (fun w' h => eC call144 (C3.out w')) (ak (fun γ => ⟨rfl, fun w' _ => ex_buildE2 rfl rfl rfl⟩) trivial))))))))))
 intro _ w5 H5
 clear H4
 refine zF (l := [11]) rfl ?_
 refine sF 2 [r0, r1] [_, _, _] H5 o1_2 Tryz.sizeOf40 fun w6 H6 => ?_
 clear H5
 refine zE (zA (wp_ret ?_))
 repeat (first | refine zM ?_ | refine zI ?_)
 have hf0 := cel_var (k := 2) H6.out.1 2 rfl Tryz.isAgg40 Tryz.sizeOf40 rfl
 refine bodyPost_ret (v := V [r0, r1]) (by simp [results, Tryz.results104, asAddr, hf0]) rfl ?_
 exact ⟨rfl, H6.out.2⟩
set_option maxHeartbeats 1000000 in
theorem negated_gen (a r : Nat)
  (c0 : ∀ w, Calls Tryz.prog 144 #[N 0, N a] w (Rt w (N r))) (w : World) :
  Calls Tryz.prog 148 #[N a] w (Rt w (N r)) := by
 have H0 : Hid (_ ∧ _) := ⟨Mm.nil w, Below.refl w.heap.size w⟩
 have C0 : Hid _ := c0
 clear c0
 go_enter Tryz.func148, Tryz.ntmps148
 refine wp_seq ?_
 refine zC 2 [.made (zD a) 24, .made zero6 24] (sB H0) ?ho1 ?he1
 case ho1 => exact am (yF rfl rfl) (am (zJ rfl) trivial)
 intro γ w1 l hM hl
 have H1 : Hid (Mm w1 [(γ 0, zD a), (γ 1, zero6)] ∧ _) := wB H0 hM hl [0, 1]
 have o1_0 := vB H0 hM hl 0
 have o1_1 := vB H0 hM hl 1
 clear hM hl l
 generalize γ 0 = γ1_0 at H1 o1_0 ⊢
 generalize γ 1 = γ1_1 at H1 o1_1 ⊢
 clear γ
 refine rN (wp_seq ?_)
 refine zB 3 [.quiet (N 0), .quiet (N a), .call (N r)] H1 ?ho2 ?he2
 case ho2 => exact ak (by refine fun γ => ⟨rfl, fun w' h => ?_⟩; clear h; exact ex_zero6 rfl) (bN 0 (ac (fun w' h => eC call144 (C0.out w')) trivial))
 intro _ w2 H2
 clear H1
 refine zF (l := [3]) rfl ?_
 refine sG rfl (fun h => zO h 1 rfl rfl rfl rfl (Nat.le_of_ble_eq_true rfl)) 1 [_, (_, zD r)] H2 o1_1 fun w3 H3 => ?_
 clear H2
 refine zE (zA (wp_ret ?_))
 repeat (first | refine zM ?_ | refine zI ?_)
 have c0 := H3.out.1.get 1 rfl 0 rfl
 have c1 := H3.out.1.get 1 rfl 1 rfl
 have c2 := H3.out.1.get 1 rfl 2 rfl
 have c3 := H3.out.1.get 1 rfl 3 rfl
 have c4 := H3.out.1.get 1 rfl 4 rfl
 have c5 := H3.out.1.get 1 rfl 5 rfl
 refine bodyPost_ret (v := N r) (by simp [results, Tryz.results148, go_sem, *]) rfl ?_
 exact ⟨rfl, H3.out.2⟩
set_option maxHeartbeats 1000000 in
theorem mulT_gen (n a0 a1 b0 b1 m0 m1 q0 q1 r0 r1 : Nat)
  (c0 : ∀ w, Calls Tryz.prog 145 #[] w fun e w' => Below w.heap.size w w' ∧ ∃ g, e = .returned (.agg #[PT g 0]) ∧ w.heap.size ≤ g ∧ g < w'.heap.size ∧ Blk w' g (yB n))
  (c1 : ∀ w, Calls Tryz.prog 142 #[V [a0, a1]] w (Rt w (V [m0, m1])))
  (c2 : ∀ w, Calls Tryz.prog 142 #[V [b0, b1]] w (Rt w (V [q0, q1])))
  (c3 : ∀ g w, Mm w [(g, yB n)] → Calls Tryz.prog 146 #[.agg #[PT g 0], V [m0, m1], V [q0, q1]] w (Rt w (V [r0, r1]))) (w : World) :
  Calls Tryz.prog 105 #[V [a0, a1], V [b0, b1]] w (Rt w (V [r0, r1])) := by
 have H0 : Hid (_ ∧ _) := ⟨Mm.nil w, Below.refl w.heap.size w⟩
 have C0 : Hid _ := c0
 have C1 : Hid _ := c1
 have C2 : Hid _ := c2
 have C3 : Hid _ := c3
 clear c0 c1 c2 c3
 go_enter Tryz.func105, Tryz.ntmps105
 refine wp_seq ?_
 refine zC 3 [.made (cel [a0, a1]) 40, .made (cel [b0, b1]) 40, .made (cel [0, 0]) 40] (sB H0) ?ho1 ?he1
 case ho1 => exact am (ex_boxA rfl rfl) (am (ex_boxA rfl rfl) (am (ex_madeE2 rfl) trivial))
 intro γ w1 l hM hl
 have H1 : Hid (Mm w1 [(γ 0, cel [a0, a1]), (γ 1, cel [b0, b1]), (γ 2, cel [0, 0])] ∧ _) := wB H0 hM hl [0, 1, 2]
 have o1_0 := vB H0 hM hl 0
 have o1_1 := vB H0 hM hl 1
 have o1_2 := vB H0 hM hl 2
 clear hM hl l
 generalize γ 0 = γ1_0 at H1 o1_0 ⊢
 generalize γ 1 = γ1_1 at H1 o1_1 ⊢
 generalize γ 2 = γ1_2 at H1 o1_2 ⊢
 clear γ
 refine rN (wp_seq ?_)
 refine zS 6 [.born (fun g => .agg #[PT g 0]) (yB n), .quiet (V [a0, a1]), .call (V [m0, m1]), .quiet (V [b0, b1]), .call (V [q0, q1]), .over (V [r0, r1]) 0 (yB n)] (sB H1) ?ho2 ?he2 (hL := ?hL2)
 case hL2 => exact ⟨⟨_, rfl⟩, trivial⟩
 case ho2 => exact ak (fun γ => ⟨rfl, fun w' h => eC call145 (C0.out w')⟩) (bA 0 2 0 Tryz.isAgg40 Tryz.sizeOf40 (ak (fun γ => ⟨rfl, fun w' h => eC call142 (C1.out w')⟩) (bA 0 2 1 Tryz.isAgg40 Tryz.sizeOf40 (ak (fun γ => ⟨rfl, fun w' h => eC call142 (C2.out w')⟩) (ak (fun γ => ⟨rfl, fun u w' h0 hge h1 hb hlt => by have h := Mm.over h0 hge h1 hb hlt; exact eC call146 (C3.out _ w' (h.one 0 rfl))⟩) trivial)))))
 intro γ w2 l hM hl
 have H2 : Hid (Mm w2 ([(γ 0, yB n)] ++ _) ∧ _) := wB H1 hM hl [0]
 have o2_0 := vB H1 hM hl 0
 clear hM hl l H1
 generalize γ 0 = γ2_0 at H2 o2_0 ⊢
 clear γ
 refine zF (l := [6]) rfl ?_
 refine sF 3 [r0, r1] [_, _, _, _] H2 o1_2 Tryz.sizeOf40 fun w3 H3 => ?_
 clear H2
 refine zE (zA (wp_ret ?_))
 repeat (first | refine zM ?_ | refine zI ?_)
 have hf0 := cel_var (k := 2) H3.out.1 3 rfl Tryz.isAgg40 Tryz.sizeOf40 rfl
 refine bodyPost_ret (v := V [r0, r1]) (by simp [results, Tryz.results105, asAddr, hf0]) rfl ?_
 exact ⟨rfl, H3.out.2⟩
/-! Numbers by p stand for integers. -/
def pz (z : Int) : Nat := (z % (pB : Int)).toNat
theorem pBI : (0 : Int) < (pB : Int) := by have := pB_ok.pos; omega
theorem pz_cast (z : Int) : ((pz z : Nat) : Int) = z % (pB : Int) := Int.toNat_of_nonneg (Int.emod_nonneg _ (by have := pBI; omega))
theorem pz_lt (z : Int) : pz z < pB := by
 have h := pz_cast z
 have h2 := Int.emod_lt_of_pos z pBI
 omega
theorem pz_congr {x y : Int} (h : x % (pB : Int) = y % (pB : Int)) : pz x = pz y := by unfold pz; rw [h]
theorem pz_nat (n : Nat) : pz (n : Int) = n % pB := by
 have h := pz_cast (n : Int)
 rw [← Int.natCast_emod] at h
 omega
theorem pz_add (x y : Int) : pz ((pz x : Int) + (pz y : Int)) = pz (x + y) := pz_congr (by rw [pz_cast, pz_cast, ← Int.add_emod])
theorem pz_mul (x y : Int) : pz ((pz x : Int) * (pz y : Int)) = pz (x * y) := pz_congr (by rw [pz_cast, pz_cast, ← Int.mul_emod])
theorem pz_sub (x y : Int) : pz ((pz x : Int) - (pz y : Int)) = pz (x - y) := pz_congr (by rw [pz_cast, pz_cast, ← Int.sub_emod])
theorem pz_addmul (a b c d : Int) : pz ((pz a : Int) * (pz b : Int) + (pz c : Int) * (pz d : Int)) = pz (a * b + c * d) := by
 rw [← pz_add, pz_mul, pz_mul, pz_add]
theorem pz_submul (a b c d : Int) : pz ((pz a : Int) * (pz b : Int) - (pz c : Int) * (pz d : Int)) = pz (a * b - c * d) := by
 rw [← pz_sub, pz_mul, pz_mul, pz_sub]
theorem subm_pz (x y : Int) : subm pB (pz x) (pz y) = pz (x - y) := by
 have hy := pz_lt y
 rw [← pz_sub]
 unfold subm
 rw [Nat.mod_eq_of_lt hy, ← pz_nat]
 refine pz_congr ?_
 rw [show ((pz x + (pB - pz y) : Nat) : Int) = (pz x : Int) - (pz y : Int) + (pB : Int) by omega, Int.add_emod_right]
theorem nine_p : 9 * pB < big := by decide +kernel
theorem great_any (w : World) : Calls Tryz.prog 145 #[] w fun e w' => Below w.heap.size w w' ∧ ∃ g, e = .returned (.agg #[PT g 0]) ∧ w.heap.size ≤ g ∧ g < w'.heap.size ∧ Blk w' g (yB pB) :=
 great_gen pB base_pB (fun w => new_ok pB_ok w) w
def Wi (z : Int) : Prop := -(12 * ((pB : Int) * pB)) ≤ z ∧ z ≤ 12 * ((pB : Int) * pB)
theorem rest_num (z : Int) (h : Wi z) : (lo z + (hi z + 2 * pB) % big * big) % pB = pz z := by
 have hpos := pB_ok.pos
 have h9 := nine_p
 obtain ⟨h1, h2⟩ := h
 unfold pz
 generalize pB = p at *
 have e1 : wz z % big + (wz z / big + 2 * p) % big * big = (wz z + 2 * p * big) % bb := by
  unfold bb
  rw [Nat.mod_mul, Nat.add_mul_mod_self_right, Nat.add_mul_div_right _ _ big_pos, Nat.mul_comm big]
 have e2 : (((wz z + 2 * p * big) % bb : Nat) : Int) = z + 2 * p * big := by
  rw [Int.natCast_emod, Int.natCast_add, wz_cast, Int.natCast_mul, Int.natCast_mul, Int.emod_add_emod]
  refine Int.emod_eq_of_lt ?_ ?_
  ·have h3 : 6 * (p * p) ≤ p * big := by
    have : p * (6 * p) ≤ p * big := Nat.mul_le_mul (Nat.le_refl p) (by omega)
    rw [Nat.mul_left_comm] at this; exact this
   have h4 : 6 * ((p : Int) * p) ≤ (p : Int) * big := by
    have := Int.ofNat_le.2 h3
    simpa using this
   have h5 : ((2 : Nat) : Int) * (p : Int) * (big : Int) = 2 * ((p : Int) * big) := by rw [Int.mul_assoc]; rfl
   omega
  ·have h3 : 6 * (p * p) ≤ p * big := by
    have : p * (6 * p) ≤ p * big := Nat.mul_le_mul (Nat.le_refl p) (by omega)
    rw [Nat.mul_left_comm] at this; exact this
   have h4 : 6 * ((p : Int) * p) ≤ (p : Int) * big := by
    have := Int.ofNat_le.2 h3
    simpa using this
   have h6 : 4 * (p * big) < bb := by
    unfold bb
    rw [← Nat.mul_assoc]
    exact Nat.mul_lt_mul_of_pos_right (by omega) big_pos
   have h7 : 4 * ((p : Int) * big) < (bb : Int) := by
    have := Int.ofNat_lt.2 h6
    simpa using this
   have h5 : ((2 : Nat) : Int) * (p : Int) * (big : Int) = 2 * ((p : Int) * big) := by rw [Int.mul_assoc]; rfl
   omega
 have e3 : (((lo z + (hi z + 2 * p) % big * big) % p : Nat) : Int) = z % (p : Int) := by
  rw [e1, Int.natCast_emod, e2, show z + 2 * (p : Int) * big = z + (p : Int) * (2 * big) by rw [Int.mul_comm 2 (p : Int), Int.mul_assoc], Int.add_mul_emod_self_left]
 omega
theorem restF_any {g : Nat} (z : Int) (h : Wi z) (w : World) (hm : Mm w [(g, yB pB)]) : Calls Tryz.prog 172 #[.agg #[PT g 0], V [lo z, hi z]] w (Rt w (N (pz z))) := by
 have ok := pB_ok
 have h9 := nine_p
 have hr := rest_num z h
 have hlo : lo z < big := Nat.mod_lt _ big_pos
 have hhi : hi z < big := by
  have := wz_lt z
  unfold bb at this
  exact Nat.div_lt_of_lt_mul this
 have c1 := fun w hm => n_any (g := g) ok w hm
 have c2 := fun w => shift_up pB 1 (by decide) w
 have e2 : pB * 2 ^ 1 % big = 2 * pB := by rw [Nat.pow_one, Nat.mul_comm, Nat.mod_eq_of_lt (by omega)]
 rw [e2] at c2
 have c3 := fun w => add_any (hi z) (2 * pB) hhi (by omega) w
 have c4 := fun w hm => wide_any (g := g) ok hlo (Nat.mod_lt (hi z + 2 * pB) big_pos) w hm
 rw [hr] at c4
 exact rest_gen g pB _ _ (lo z) (hi z) _ _ _ _ c1 c2 c3 c4 w hm
theorem times2_any (a0 a1 b0 b1 : Nat) (ha : a0 + a1 < big) (hb : b0 + b1 < big) (w : World) : Calls Tryz.prog 167 #[V [a0, a1], V [b0, b1]] w (Rt w (V [lo ((a0 : Int) * b0 - (a1 : Int) * b1), hi ((a0 : Int) * b0 - (a1 : Int) * b1), lo ((a0 : Int) * b1 + (a1 : Int) * b0), hi ((a0 : Int) * b1 + (a1 : Int) * b0)])) := by
 have c8 := fun w => lessZ_any (((a0 + a1 : Nat) : Int) * ((b0 + b1 : Nat) : Int) - (a0 : Int) * b0) ((a1 : Int) * b1) w
 have e : ((a0 + a1 : Nat) : Int) * ((b0 + b1 : Nat) : Int) - (a0 : Int) * b0 - (a1 : Int) * b1 = (a0 : Int) * b1 + (a1 : Int) * b0 := by
  rw [Int.natCast_add, Int.natCast_add]
  grind
 rw [e] at c8
 exact times2_gen a0 a1 b0 b1 (a0 + a1) (b0 + b1) _ _ _ _ _ _ _ _ _ _ _ _ (fun w => timesZ_any a0 b0 (by omega) (by omega) w) (fun w => timesZ_any a1 b1 (by omega) (by omega) w) (fun w => together_any a0 a1 ha w) (fun w => together_any b0 b1 hb w) (fun w => timesZ_any (a0 + a1) (b0 + b1) ha hb w) (fun w => lessZ_any _ _ w) (fun w => lessZ_any _ _ w) c8 w
theorem mulF_any {g : Nat} (a0 a1 b0 b1 : Int) (w : World) (hm : Mm w [(g, yB pB)]) : Calls Tryz.prog 146 #[.agg #[PT g 0], V [pz a0, pz a1], V [pz b0, pz b1]] w (Rt w (V [pz (a0 * b0 - a1 * b1), pz (a0 * b1 + a1 * b0)])) := by
 have h9 := nine_p
 have la0 := pz_lt a0
 have la1 := pz_lt a1
 have lb0 := pz_lt b0
 have lb1 := pz_lt b1
 have hp : ∀ x y : Int, 0 ≤ (pz x : Int) * (pz y : Int) ∧ (pz x : Int) * (pz y : Int) ≤ (pB : Int) * pB := fun x y => by
  have h := Nat.mul_le_mul (Nat.le_of_lt (pz_lt x)) (Nat.le_of_lt (pz_lt y))
  rw [← Int.natCast_mul, ← Int.natCast_mul]
  omega
 have w0 : Wi ((pz a0 : Int) * pz b0 - (pz a1 : Int) * pz b1) := by have := hp a0 b0; have := hp a1 b1; unfold Wi; omega
 have w1 : Wi ((pz a0 : Int) * pz b1 + (pz a1 : Int) * pz b0) := by have := hp a0 b1; have := hp a1 b0; unfold Wi; omega
 have c2 := fun w hm => rest2_gen g pB (big % pB) (big * big % pB) _ _ _ _ _ _ (fun w hm => restF_any (g := g) _ w0 w hm) (fun w hm => restF_any (g := g) _ w1 w hm) w hm
 rw [pz_submul, pz_addmul] at c2
 exact mul2_gen g pB _ _ (pz a0) (pz a1) (pz b0) (pz b1) _ _ _ _ _ _ (fun w => times2_any (pz a0) (pz a1) (pz b0) (pz b1) (by omega) (by omega) w) c2 w hm
theorem left2_any (a0 a1 : Nat) (h0 : a0 < big) (h1 : a1 < big) (w : World) : Calls Tryz.prog 142 #[V [a0, a1]] w (Rt w (V [pz a0, pz a1])) := by
 rw [pz_nat, pz_nat]
 exact left2_gen a0 a1 _ _ (fun w => left_any a0 h0 w) (fun w => left_any a1 h1 w) w
theorem add2_any (a0 a1 b0 b1 : Nat) (h0 : a0 < big) (h1 : a1 < big) (k0 : b0 < big) (k1 : b1 < big) (w : World) : Calls Tryz.prog 103 #[V [a0, a1], V [b0, b1]] w (Rt w (V [pz ((a0 : Int) + b0), pz ((a1 : Int) + b1)])) := by
 have h9 := nine_p
 have s : ∀ x y : Int, ∀ w, Calls Tryz.prog 143 #[N (pz x), N (pz y)] w (Rt w (N (pz (x + y)))) := fun x y w => by
  have hx := pz_lt x
  have hy := pz_lt y
  have h := sumP_any (pz x) (pz y) (by omega) w
  rw [← pz_nat, Int.natCast_add, pz_add] at h
  exact h
 exact add2_gen a0 a1 b0 b1 _ _ _ _ _ _ (fun w => left2_any a0 a1 h0 h1 w) (fun w => left2_any b0 b1 k0 k1 w) (s _ _) (s _ _) w
theorem diffZ_any (x y : Int) (w : World) : Calls Tryz.prog 144 #[N (pz x), N (pz y)] w (Rt w (N (pz (x - y)))) := by
 have h := diffP_any (pz x) (pz y) (pz_lt x) (pz_lt y) w
 rw [subm_pz] at h
 exact h
theorem sub2_any (a0 a1 b0 b1 : Nat) (h0 : a0 < big) (h1 : a1 < big) (k0 : b0 < big) (k1 : b1 < big) (w : World) : Calls Tryz.prog 104 #[V [a0, a1], V [b0, b1]] w (Rt w (V [pz ((a0 : Int) - b0), pz ((a1 : Int) - b1)])) :=
 sub2_gen a0 a1 b0 b1 _ _ _ _ _ _ (fun w => left2_any a0 a1 h0 h1 w) (fun w => left2_any b0 b1 k0 k1 w) (fun w => diffZ_any _ _ w) (fun w => diffZ_any _ _ w) w
theorem pz_zero : pz 0 = 0 := by unfold pz; rw [Int.zero_emod]; rfl
theorem negated_any (x : Int) (w : World) : Calls Tryz.prog 148 #[N (pz x)] w (Rt w (N (pz (-x)))) := by
 have c := fun w => diffZ_any 0 x w
 rw [pz_zero, Int.zero_sub] at c
 exact negated_gen (pz x) _ c w
theorem mulT_any (a0 a1 b0 b1 : Nat) (h0 : a0 < big) (h1 : a1 < big) (k0 : b0 < big) (k1 : b1 < big) (w : World) : Calls Tryz.prog 105 #[V [a0, a1], V [b0, b1]] w (Rt w (V [pz ((a0 : Int) * b0 - (a1 : Int) * b1), pz ((a0 : Int) * b1 + (a1 : Int) * b0)])) :=
 mulT_gen pB a0 a1 b0 b1 _ _ _ _ _ _ great_any (fun w => left2_any a0 a1 h0 h1 w) (fun w => left2_any b0 b1 k0 k1 w) (fun g w hm => mulF_any (g := g) _ _ _ _ w hm) w
end Rg
end Go.Proofs.YtaomlijondiaoaaGreatDoor
end
