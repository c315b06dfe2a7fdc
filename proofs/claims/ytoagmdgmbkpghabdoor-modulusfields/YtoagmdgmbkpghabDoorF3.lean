/- The law ModulusFields -/
import Derived.Test.YtoagmdgmbkpghabDoorF1
import Derived.Test.YtoagmdgmbkpghabDoorF2
import Derived.Test.YtoagmdgmbkpghabDoorN1
namespace Go.Proofs.YtoagmdgmbkpghabDoor
open Go.RowKit
namespace Rg

open NT
theorem prm_pB : Prm pB := prm_p
theorem prm_rB : Prm rB := prm_r
theorem pB_m4 : pB % 4 = 3 := by decide +kernel
theorem rB_m4 : rB % 4 = 1 := by decide +kernel
theorem mod_zero {p a : Nat} : ¬ p ∣ a ↔ ¬ a % p = 0 := ⟨fun h e => h (Nat.dvd_of_mod_eq_zero e), fun h d => h (Nat.mod_eq_zero_of_dvd d)⟩
theorem neg_add {p a : Nat} (hp : 0 < p) : (a + subm p 0 a) % p = 0 := by
  unfold subm
  have h1 := Nat.mod_lt a hp
  rw [Nat.add_mod, Nat.mod_mod, ← Nat.add_mod, Nat.zero_add, Nat.add_mod a, ← Nat.add_mod]
  have e : a + (p - a % p) = p * (a / p + 1) := by
    have := Nat.div_add_mod a p
    rw [Nat.mul_add, Nat.mul_one]; omega
  rw [e, Nat.mul_mod_right]
theorem rtc_sq {p a j : Nat} (h4 : p + 1 = 4 * (j + 1)) : rtc p a * rtc p a % p = a ^ (2 * j + 2) % p := by
  unfold rtc
  rw [show (p + 1) / 4 = j + 1 by omega, ← Nat.mul_mod, ← Nat.pow_add, show j + 1 + (j + 1) = 2 * j + 2 by omega]
theorem rtv_sq {p a : Nat} (hp : 0 < p) (h4 : ¬ p % 4 = 1) (h : rtc p a * rtc p a % p = a % p) : rtv p a < p ∧ rtv p a * rtv p a % p = a % p := by
  unfold rtv
  rw [if_neg h4, if_pos h]
  have hc : rtc p a < p := Nat.mod_lt _ hp
  split
  · refine ⟨subm_lt_n hp _ _, ?_⟩
    have h1 := even_pow (neg_add (a := rtc p a) hp) 1
    rw [Nat.mul_one, Nat.pow_two, Nat.pow_two] at h1
    rw [← h1]; exact h
  · exact ⟨hc, h⟩
theorem root_way {p a : Nat} (hp : Prm p) (h4 : p % 4 = 3) (ha : ¬ a % p = 0) :
    (rte p a = 0 ∧ rte p (subm p 0 a) = 6 ∧ rtv p a < p ∧ rtv p a * rtv p a % p = a % p) ∨ (rte p a = 6 ∧ rte p (subm p 0 a) = 0 ∧ rtv p (subm p 0 a) < p ∧ rtv p (subm p 0 a) * rtv p (subm p 0 a) % p = subm p 0 a) := by
  obtain ⟨j, hj⟩ : ∃ j, p + 1 = 4 * (j + 1) := ⟨(p + 1) / 4 - 1, by omega⟩
  have hpos := hp.pos
  have hn := neg_add (a := a) hpos
  have hev := even_pow hn (j + 1)
  rw [show 2 * (j + 1) = 2 * j + 2 by omega] at hev
  have ha' := mod_zero.2 ha
  have h41 : ¬ p % 4 = 1 := by omega
  have hsl := subm_lt_n hpos 0 a
  have hne : ¬ a % p = subm p 0 a % p := fun e => twice_ne hp (by omega) ha' hn e
  have q1 := rtc_sq (a := a) hj
  have q2 := rtc_sq (a := subm p 0 a) hj
  rw [← hev] at q2
  rcases half_pow hp hj ha' with h | h
  · left
    rw [h] at q1 q2
    have e1 : rte p a = 0 := by unfold rte; rw [if_neg h41, if_pos q1]
    have e2 : rte p (subm p 0 a) = 6 := by unfold rte; rw [if_neg h41, if_neg (by rw [q2]; exact hne)]
    exact ⟨e1, e2, rtv_sq hpos h41 q1⟩
  · right
    have h' : a ^ (2 * j + 2) % p = subm p 0 a % p := by
      have e : (a ^ (2 * j + 2) + (a + subm p 0 a)) % p = (subm p 0 a + (a ^ (2 * j + 2) + a)) % p := by
        rw [Nat.add_comm (subm p 0 a), Nat.add_assoc]
      rw [Nat.add_mod, hn, Nat.add_zero, Nat.mod_mod] at e
      rw [e, Nat.add_mod, h, Nat.add_zero, Nat.mod_mod]
    rw [h'] at q1 q2
    have e1 : rte p a = 6 := by unfold rte; rw [if_neg h41, if_neg (by rw [q1]; exact fun e => hne e.symm)]
    have e2 : rte p (subm p 0 a) = 0 := by unfold rte; rw [if_neg h41, if_pos q2]
    have e3 := rtv_sq hpos h41 q2
    rw [Nat.mod_eq_of_lt hsl] at e3
    exact ⟨e1, e2, e3⟩
theorem eq_refl8 {x : Nat} (hx : x < big) (w : World) : (Op.equalIn 10000 24 (N x) (N x)).run Tryd.prog w = .ok true w := by rw [run_eqN x x hx hx, decide_eq_true rfl]
theorem eq_zero8 {x : Nat} (hx : x < big) (h : x = 0) (w : World) : (Op.equalIn 10000 24 (N x) (N 0)).run Tryd.prog w = .ok true w := by rw [run_eqN x 0 hx big_pos, decide_eq_true h]
theorem ne_zero8 {x : Nat} (hx : x < big) (h : ¬ x = 0) (w : World) : (Op.equalIn 10000 24 (N x) (N 0)).run Tryd.prog w = .ok false w := by rw [run_eqN x 0 hx big_pos, decide_eq_false h]
theorem cop_of {p a : Nat} (hp : Prm p) (ha : ¬ a % p = 0) : Nat.gcd p a = 1 := hp.cop (mod_zero.2 ha)
/-- What both primes have in common. -/
theorem field_facts {p a : Nat} (hp : Prm p) (ok : Ok p) (hab : a < big) (ha : ¬ a % p = 0) :
    (∀ w, Calls Tryd.prog 10 #[N p, N 1] w fun e w' => e = .returned (.tuple #[N (p - 1), .bool (decide (p < 1))]) ∧ Below w.heap.size w w') ∧
    (∀ g w, Mm w [(g, modc p), (0, dtab)] → Calls Tryd.prog 12 #[PT g 0, N a] w fun e w' => e = .returned (.tuple #[N (invm p a), .int .i64 0]) ∧ Below w.heap.size w w') ∧
    (∀ g w, Mm w [(g, modc p)] → Calls Tryd.prog 13 #[PT g 0, N (invm p a), N a] w fun e w' => e = .returned (N 1) ∧ Below w.heap.size w w') ∧
    (∀ g w, Mm w [(g, modc p)] → Calls Tryd.prog 14 #[PT g 0, N a, N (p - 1)] w fun e w' => e = .returned (N 1) ∧ Below w.heap.size w w') ∧
    (∀ g w, Mm w [(g, modc p)] → Calls Tryd.prog 16 #[PT g 0, N a] w fun e w' => e = .returned (N (subm p 0 a)) ∧ Below w.heap.size w w') := by
  have hb := ok.big
  have hg := cop_of hp ha
  have hi := invm_spec ok hg
  refine ⟨fun w => ?_, fun g w hm => inv_ok ok hab hg w hm, fun g w hm => ?_, fun g w hm => ?_, fun g w hm => negm_any ok hab w hm⟩
  · have h := sub_any p 1 hb (small_big 1 (by decide)) w
    have e : (p + big - 1) % big = p - 1 := by
      have := ok.three
      rw [show p + big - 1 = p - 1 + big by omega, Nat.add_mod_right, Nat.mod_eq_of_lt (by omega)]
    rw [e] at h
    exact h
  · have h := mulm_any (g := g) ok (Nat.lt_trans hi.1 hb) hab w hm
    rw [hi.2] at h
    exact h
  · have h := powm_any (g := g) ok hab (show p - 1 < big by omega) w hm
    rw [fermat1 hp a (mod_zero.2 ha)] at h
    exact h
theorem fields_any (a : Nat) (hab : a < big) (w : World) (hm : Mm w [(0, dtab)]) :
    Calls Tryd.prog 3 #[N a] w fun e w' => e = .returned (.bool true) ∧ Below w.heap.size w w' := by
  have okp := pB_ok
  have okr := rB_ok
  have hp := prm_pB
  have hr := prm_rB
  have hp4 := pB_m4
  have hr4 := rB_m4
  have cb := base_pB
  have co := base_rB
  generalize pB = p at *
  generalize rB = r at *
  have hpos := hp.pos
  have hsl := subm_lt_n hpos 0 a
  have hslr := subm_lt_n hr.pos 0 a
  have hpb := okp.big
  have hrb := okr.big
  refine fields_gen a p r 1 (a % p) (a % r) (p - 1) (invm p a) (subm p 0 a) (rtv p a) (rtv p (subm p 0 a)) (r - 1) (invm r a) (subm r 0 a) (rtv r a) (rtv r (subm r 0 a)) (decide (p < 1)) (decide (r < 1))
    (fun w => eq_refl8 (small_big 1 (by decide)) w) (fun w => eq_refl8 (okLt okp a) w) (fun w => eq_refl8 (by omega) w) awake_any cb co (fun w => of_any 1 (by decide) w) (fun w => new_ok okp w) (fun g w hm => reduce_any okp hab w hm) (fun w => new_ok okr w) (fun g w hm => reduce_any okr hab w hm) ?_ w hm
  intro i hi
  rcases (by omega : i = 0 ∨ i = 1) with rfl | rfl
  · by_cases h0 : a % p = 0
    · exact Or.inl ⟨rfl, fun w => eq_zero8 (okLt okp a) h0 w⟩
    · obtain ⟨c1, c2, c3, c4, c5⟩ := field_facts hp okp hab h0
      have c6 := fun g w hm => root_any (g := g) okp hab w hm
      have c7 := fun g w hm => root_any (g := g) okp (show subm p 0 a < big by omega) w hm
      rcases root_way hp hp4 h0 with ⟨e1, e2, e3, e4⟩ | ⟨e1, e2, e3, e4⟩
      · rw [e1] at c6
        rw [e2] at c7
        have c8 := fun g w hm => mulm_any (g := g) okp (show rtv p a < big by omega) (show rtv p a < big by omega) w hm
        rw [e4] at c8
        exact Or.inr (Or.inl ⟨rfl, fun w => ne_zero8 (okLt okp a) h0 w, c1, c2, c3, c4, c5, c6, c7, c8⟩)
      · rw [e1] at c6
        rw [e2] at c7
        have c8 := fun g w hm => mulm_any (g := g) okp (show rtv p (subm p 0 a) < big by omega) (show rtv p (subm p 0 a) < big by omega) w hm
        rw [e4] at c8
        exact Or.inr (Or.inr (Or.inl ⟨rfl, fun w => ne_zero8 (okLt okp a) h0 w, c1, c2, c3, c4, c5, c6, c7, c8⟩))
  · by_cases h0 : a % r = 0
    · exact Or.inr (Or.inr (Or.inr (Or.inl ⟨rfl, fun w => eq_zero8 (okLt okr a) h0 w⟩)))
    · obtain ⟨c1, c2, c3, c4, c5⟩ := field_facts hr okr hab h0
      have c6 := fun g w hm => root_any (g := g) okr hab w hm
      have c7 := fun g w hm => root_any (g := g) okr (show subm r 0 a < big by omega) w hm
      have e1 : ∀ x, rte r x = 2 := fun x => by unfold rte; rw [if_pos hr4]
      rw [e1] at c6
      rw [e1] at c7
      exact Or.inr (Or.inr (Or.inr (Or.inr ⟨rfl, fun w => ne_zero8 (okLt okr a) h0 w, c1, c2, c3, c4, c5, c6, c7⟩)))
end Rg
end Go.Proofs.YtoagmdgmbkpghabDoor
