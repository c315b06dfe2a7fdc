/- Texts of the proof, joined. -/
import Derived.Test.YtaomlijondiaoaaGreatDoorP8
set_option maxRecDepth 100000
section
namespace Go.Proofs.YtaomlijondiaoaaGreatDoor
open Go.RowKit
namespace Rg
open NT
def dgt (v k : Nat) : Nat := v * 16 ^ k % 18446744073709551616 / 1152921504606846976
def wof (v k : Nat) : Int := ((v * 16 ^ k % 18446744073709551616 : Nat) : Int)
theorem dgt_lt (v k : Nat) : dgt v k < 16 := by
 unfold dgt
 have := Nat.mod_lt (v * 16 ^ k) (show 0 < 18446744073709551616 by decide)
 omega
theorem wof_0 {v : Nat} (h : v < 18446744073709551616) : wof v 0 = ((v : Nat) : Int) := by
 unfold wof
 rw [Nat.pow_zero, Nat.mul_one, Nat.mod_eq_of_lt h]
theorem wof_16 (v : Nat) : wof v 16 = 0 := by
 unfold wof
 rw [show (16 : Nat) ^ 16 = 18446744073709551616 by decide, Nat.mul_mod_left]
 rfl
theorem wof_d (v k : Nat) : wof v k / 2 ^ 60 = ((dgt v k : Nat) : Int) := by
 unfold wof dgt
 rw [show (2 : Int) ^ 60 = ((1152921504606846976 : Nat) : Int) by decide, ← Int.natCast_ediv]
theorem wof_w (v k : Nat) : IntKind.u64.wrap (wof v k * 2 ^ 4) = wof v (k + 1) := by
 unfold wof
 rw [IntKind.wrap_u64, Nat.pow_succ, ← Nat.mul_assoc, show (2 : Int) ^ 4 = ((16 : Nat) : Int) by decide, ← Int.natCast_mul, show (18446744073709551616 : Int) = ((18446744073709551616 : Nat) : Int) from rfl, ← Int.natCast_emod, Nat.mod_mul_mod]
theorem hi_next (v k : Nat) : v * 16 ^ (k + 1) / 18446744073709551616 = 16 * (v * 16 ^ k / 18446744073709551616) + dgt v k := by
 unfold dgt
 rw [Nat.pow_succ, ← Nat.mul_assoc]
 generalize v * 16 ^ k = X
 omega
theorem hi_word (nn j : Nat) : nn / 2 ^ (64 * (j + 1)) * 18446744073709551616 + wn nn j = nn / 2 ^ (64 * j) := by
 unfold wn
 rw [Nat.mul_add, Nat.pow_add, ← Nat.div_div_eq_div_mul]
 generalize nn / 2 ^ (64 * j) = X
 rw [show 2 ^ (64 * 1) = 18446744073709551616 by decide]
 omega
theorem hi_top {nn : Nat} (h : nn < big) : nn / 2 ^ (64 * (6 - 0)) = 0 := by
 obtain ⟨m, hm, hb⟩ := big_pow
 rw [show 6 - 0 = m by omega, ← hb]
 exact Nat.div_eq_of_lt h
def tab1 {I : Fp → Fp} (hI : yC I) (P : Option (Fp × Fp)) : Nat → EC.Tri Fp
 | 0 => (K1 hI).lift none
 | 1 => (K1 hI).lift P
 | 2 => (K1 hI).twice ((K1 hI).lift P)
 | 3 => (K1 hI).tog ((K1 hI).twice ((K1 hI).lift P)) ((K1 hI).lift P)
 | 4 => (K1 hI).twice ((K1 hI).twice ((K1 hI).lift P))
 | 5 => (K1 hI).tog ((K1 hI).twice ((K1 hI).twice ((K1 hI).lift P))) ((K1 hI).lift P)
 | 6 => (K1 hI).twice ((K1 hI).tog ((K1 hI).twice ((K1 hI).lift P)) ((K1 hI).lift P))
 | 7 => (K1 hI).tog ((K1 hI).twice ((K1 hI).tog ((K1 hI).twice ((K1 hI).lift P)) ((K1 hI).lift P))) ((K1 hI).lift P)
 | 8 => (K1 hI).twice ((K1 hI).twice ((K1 hI).twice ((K1 hI).lift P)))
 | 9 => (K1 hI).tog ((K1 hI).twice ((K1 hI).twice ((K1 hI).twice ((K1 hI).lift P)))) ((K1 hI).lift P)
 | 10 => (K1 hI).twice ((K1 hI).tog ((K1 hI).twice ((K1 hI).twice ((K1 hI).lift P))) ((K1 hI).lift P))
 | 11 => (K1 hI).tog ((K1 hI).twice ((K1 hI).tog ((K1 hI).twice ((K1 hI).twice ((K1 hI).lift P))) ((K1 hI).lift P))) ((K1 hI).lift P)
 | 12 => (K1 hI).twice ((K1 hI).twice ((K1 hI).tog ((K1 hI).twice ((K1 hI).lift P)) ((K1 hI).lift P)))
 | 13 => (K1 hI).tog ((K1 hI).twice ((K1 hI).twice ((K1 hI).tog ((K1 hI).twice ((K1 hI).lift P)) ((K1 hI).lift P)))) ((K1 hI).lift P)
 | 14 => (K1 hI).twice ((K1 hI).tog ((K1 hI).twice ((K1 hI).tog ((K1 hI).twice ((K1 hI).lift P)) ((K1 hI).lift P))) ((K1 hI).lift P))
 | 15 => (K1 hI).tog ((K1 hI).twice ((K1 hI).tog ((K1 hI).twice ((K1 hI).tog ((K1 hI).twice ((K1 hI).lift P)) ((K1 hI).lift P))) ((K1 hI).lift P))) ((K1 hI).lift P)
 | _ => (K1 hI).lift none
def fn1 {I : Fp → Fp} (hI : yC I) (P : Option (Fp × Fp)) (k : Nat) : Nat :=
 match k % 3 with
 | 0 => p0 (tab1 hI P (k / 3)).1
 | 1 => p0 (tab1 hI P (k / 3)).2.1
 | _ => p0 (tab1 hI P (k / 3)).2.2
theorem fn1_0 {I : Fp → Fp} (hI : yC I) (P : Option (Fp × Fp)) (d : Nat) : fn1 hI P (3 * d) = p0 (tab1 hI P d).1 := by
 unfold fn1
 rw [show (3 * d) % 3 = 0 by omega, show (3 * d) / 3 = d by omega]
 rfl
theorem fn1_1 {I : Fp → Fp} (hI : yC I) (P : Option (Fp × Fp)) (d : Nat) : fn1 hI P (3 * d + 1) = p0 (tab1 hI P d).2.1 := by
 unfold fn1
 rw [show (3 * d + 1) % 3 = 1 by omega, show (3 * d + 1) / 3 = d by omega]
 rfl
theorem fn1_2 {I : Fp → Fp} (hI : yC I) (P : Option (Fp × Fp)) (d : Nat) : fn1 hI P (3 * d + 2) = p0 (tab1 hI P d).2.2 := by
 unfold fn1
 rw [show (3 * d + 2) % 3 = 2 by omega, show (3 * d + 2) / 3 = d by omega]
 rfl
theorem tabrep1 {I : Fp → Fp} (hI : yC I) {P : Option (Fp × Fp)} (h : (K1 hI).on P) : ∀ j, j < 16 → (K1 hI).rep (tab1 hI P j) ((K1 hI).times P j) := by
 have o := fun k => (K1 hI).times_on h k
 have rp : (K1 hI).rep ((K1 hI).lift P) P := (K1 hI).rep_lift P
 have r1 : (K1 hI).rep ((K1 hI).lift P) ((K1 hI).times P 1) := by rw [(K1 hI).times_one h]; exact rp
 have two : ∀ k (A : EC.Tri Fp), (K1 hI).rep A ((K1 hI).times P k) → (K1 hI).rep ((K1 hI).twice A) ((K1 hI).times P (2 * k)) := fun k A hk => by
  rw [← (K1 hI).times_two h]
  exact (K1 hI).rep_twice hk (o k)
 have odd : ∀ k (A : EC.Tri Fp), (K1 hI).rep A ((K1 hI).times P k) → (K1 hI).rep ((K1 hI).tog A ((K1 hI).lift P)) ((K1 hI).times P (k + 1)) := fun k A hk => (K1 hI).rep_tog hk rp (o k) h
 have r2 : (K1 hI).rep (tab1 hI P 2) ((K1 hI).times P 2) := two 1 _ r1
 have r3 : (K1 hI).rep (tab1 hI P 3) ((K1 hI).times P 3) := odd 2 _ r2
 have r4 : (K1 hI).rep (tab1 hI P 4) ((K1 hI).times P 4) := two 2 _ r2
 have r5 : (K1 hI).rep (tab1 hI P 5) ((K1 hI).times P 5) := odd 4 _ r4
 have r6 : (K1 hI).rep (tab1 hI P 6) ((K1 hI).times P 6) := two 3 _ r3
 have r7 : (K1 hI).rep (tab1 hI P 7) ((K1 hI).times P 7) := odd 6 _ r6
 have r8 : (K1 hI).rep (tab1 hI P 8) ((K1 hI).times P 8) := two 4 _ r4
 have r9 : (K1 hI).rep (tab1 hI P 9) ((K1 hI).times P 9) := odd 8 _ r8
 have r10 : (K1 hI).rep (tab1 hI P 10) ((K1 hI).times P 10) := two 5 _ r5
 have r11 : (K1 hI).rep (tab1 hI P 11) ((K1 hI).times P 11) := odd 10 _ r10
 have r12 : (K1 hI).rep (tab1 hI P 12) ((K1 hI).times P 12) := two 6 _ r6
 have r13 : (K1 hI).rep (tab1 hI P 13) ((K1 hI).times P 13) := odd 12 _ r12
 have r14 : (K1 hI).rep (tab1 hI P 14) ((K1 hI).times P 14) := two 7 _ r7
 have r15 : (K1 hI).rep (tab1 hI P 15) ((K1 hI).times P 15) := odd 14 _ r14
 intro j hj
 match j, hj with
 | 0, _ => exact (K1 hI).rep_lift none
 | 1, _ => exact r1
 | 2, _ => exact r2
 | 3, _ => exact r3
 | 4, _ => exact r4
 | 5, _ => exact r5
 | 6, _ => exact r6
 | 7, _ => exact r7
 | 8, _ => exact r8
 | 9, _ => exact r9
 | 10, _ => exact r10
 | 11, _ => exact r11
 | 12, _ => exact r12
 | 13, _ => exact r13
 | 14, _ => exact r14
 | 15, _ => exact r15
 | _ + 16, h => exact absurd h (by omega)
theorem fnl1 {I : Fp → Fp} (hI : yC I) (P : Option (Fp × Fp)) (d : Nat) : [fn1 hI P (3 * d), fn1 hI P (3 * d + 1), fn1 hI P (3 * d + 2)] = t1 (tab1 hI P d) := by rw [fn1_0, fn1_1, fn1_2]
theorem fl1_0 {I : Fp → Fp} (hI : yC I) (P : Option (Fp × Fp)) : [fn1 hI P 0, fn1 hI P 1, fn1 hI P 2] = t1 (tab1 hI P 0) := fnl1 hI P 0
theorem fl1_1 {I : Fp → Fp} (hI : yC I) (P : Option (Fp × Fp)) : [fn1 hI P 3, fn1 hI P 4, fn1 hI P 5] = t1 (tab1 hI P 1) := fnl1 hI P 1
theorem fl1_2 {I : Fp → Fp} (hI : yC I) (P : Option (Fp × Fp)) : [fn1 hI P 6, fn1 hI P 7, fn1 hI P 8] = t1 (tab1 hI P 2) := fnl1 hI P 2
theorem fl1_3 {I : Fp → Fp} (hI : yC I) (P : Option (Fp × Fp)) : [fn1 hI P 9, fn1 hI P 10, fn1 hI P 11] = t1 (tab1 hI P 3) := fnl1 hI P 3
theorem fl1_4 {I : Fp → Fp} (hI : yC I) (P : Option (Fp × Fp)) : [fn1 hI P 12, fn1 hI P 13, fn1 hI P 14] = t1 (tab1 hI P 4) := fnl1 hI P 4
theorem fl1_5 {I : Fp → Fp} (hI : yC I) (P : Option (Fp × Fp)) : [fn1 hI P 15, fn1 hI P 16, fn1 hI P 17] = t1 (tab1 hI P 5) := fnl1 hI P 5
theorem fl1_6 {I : Fp → Fp} (hI : yC I) (P : Option (Fp × Fp)) : [fn1 hI P 18, fn1 hI P 19, fn1 hI P 20] = t1 (tab1 hI P 6) := fnl1 hI P 6
theorem fl1_7 {I : Fp → Fp} (hI : yC I) (P : Option (Fp × Fp)) : [fn1 hI P 21, fn1 hI P 22, fn1 hI P 23] = t1 (tab1 hI P 7) := fnl1 hI P 7
theorem fl1_8 {I : Fp → Fp} (hI : yC I) (P : Option (Fp × Fp)) : [fn1 hI P 24, fn1 hI P 25, fn1 hI P 26] = t1 (tab1 hI P 8) := fnl1 hI P 8
theorem fl1_9 {I : Fp → Fp} (hI : yC I) (P : Option (Fp × Fp)) : [fn1 hI P 27, fn1 hI P 28, fn1 hI P 29] = t1 (tab1 hI P 9) := fnl1 hI P 9
theorem fl1_10 {I : Fp → Fp} (hI : yC I) (P : Option (Fp × Fp)) : [fn1 hI P 30, fn1 hI P 31, fn1 hI P 32] = t1 (tab1 hI P 10) := fnl1 hI P 10
theorem fl1_11 {I : Fp → Fp} (hI : yC I) (P : Option (Fp × Fp)) : [fn1 hI P 33, fn1 hI P 34, fn1 hI P 35] = t1 (tab1 hI P 11) := fnl1 hI P 11
theorem fl1_12 {I : Fp → Fp} (hI : yC I) (P : Option (Fp × Fp)) : [fn1 hI P 36, fn1 hI P 37, fn1 hI P 38] = t1 (tab1 hI P 12) := fnl1 hI P 12
theorem fl1_13 {I : Fp → Fp} (hI : yC I) (P : Option (Fp × Fp)) : [fn1 hI P 39, fn1 hI P 40, fn1 hI P 41] = t1 (tab1 hI P 13) := fnl1 hI P 13
theorem fl1_14 {I : Fp → Fp} (hI : yC I) (P : Option (Fp × Fp)) : [fn1 hI P 42, fn1 hI P 43, fn1 hI P 44] = t1 (tab1 hI P 14) := fnl1 hI P 14
theorem fl1_15 {I : Fp → Fp} (hI : yC I) (P : Option (Fp × Fp)) : [fn1 hI P 45, fn1 hI P 46, fn1 hI P 47] = t1 (tab1 hI P 15) := fnl1 hI P 15
theorem ts1_2 {I : Fp → Fp} (hI : yC I) (P : Option (Fp × Fp)) : tab1 hI P 2 = (K1 hI).twice (tab1 hI P 1) := rfl
theorem ts1_3 {I : Fp → Fp} (hI : yC I) (P : Option (Fp × Fp)) : tab1 hI P 3 = (K1 hI).tog (tab1 hI P 2) (tab1 hI P 1) := rfl
theorem ts1_4 {I : Fp → Fp} (hI : yC I) (P : Option (Fp × Fp)) : tab1 hI P 4 = (K1 hI).twice (tab1 hI P 2) := rfl
theorem ts1_5 {I : Fp → Fp} (hI : yC I) (P : Option (Fp × Fp)) : tab1 hI P 5 = (K1 hI).tog (tab1 hI P 4) (tab1 hI P 1) := rfl
theorem ts1_6 {I : Fp → Fp} (hI : yC I) (P : Option (Fp × Fp)) : tab1 hI P 6 = (K1 hI).twice (tab1 hI P 3) := rfl
theorem ts1_7 {I : Fp → Fp} (hI : yC I) (P : Option (Fp × Fp)) : tab1 hI P 7 = (K1 hI).tog (tab1 hI P 6) (tab1 hI P 1) := rfl
theorem ts1_8 {I : Fp → Fp} (hI : yC I) (P : Option (Fp × Fp)) : tab1 hI P 8 = (K1 hI).twice (tab1 hI P 4) := rfl
theorem ts1_9 {I : Fp → Fp} (hI : yC I) (P : Option (Fp × Fp)) : tab1 hI P 9 = (K1 hI).tog (tab1 hI P 8) (tab1 hI P 1) := rfl
theorem ts1_10 {I : Fp → Fp} (hI : yC I) (P : Option (Fp × Fp)) : tab1 hI P 10 = (K1 hI).twice (tab1 hI P 5) := rfl
theorem ts1_11 {I : Fp → Fp} (hI : yC I) (P : Option (Fp × Fp)) : tab1 hI P 11 = (K1 hI).tog (tab1 hI P 10) (tab1 hI P 1) := rfl
theorem ts1_12 {I : Fp → Fp} (hI : yC I) (P : Option (Fp × Fp)) : tab1 hI P 12 = (K1 hI).twice (tab1 hI P 6) := rfl
theorem ts1_13 {I : Fp → Fp} (hI : yC I) (P : Option (Fp × Fp)) : tab1 hI P 13 = (K1 hI).tog (tab1 hI P 12) (tab1 hI P 1) := rfl
theorem ts1_14 {I : Fp → Fp} (hI : yC I) (P : Option (Fp × Fp)) : tab1 hI P 14 = (K1 hI).twice (tab1 hI P 7) := rfl
theorem ts1_15 {I : Fp → Fp} (hI : yC I) (P : Option (Fp × Fp)) : tab1 hI P 15 = (K1 hI).tog (tab1 hI P 14) (tab1 hI P 1) := rfl
theorem tableE_1 {I : Fp → Fp} (hI : yC I) {g : Nat} {tn : Value} (P : Option (Fp × Fp)) (w : World) (hm : Mm w [(g, yB pB), (0, dtab)]) : Calls Tryz.prog 152 #[(GV1 g tn), enc1 P] w (Rt w (V (tb1 (fn1 hI P)))) :=
 tableOf_1 (u := (K1 hI).R.one) (b := (K1 hI).b) (tn := tn) (fd1 hI g) (fn1 hI P) (c1x P) (c1y P) (c1z P) (fun w hm => by rw [fl1_0 hI P]; exact zeroE_1 hI w hm) (fun w hm => by rw [fl1_1 hI P]; exact liftE_1 hI P w hm)
  (fun w hm => by rw [fl1_1 hI P, fl1_2 hI P, ts1_2]; exact twiceE_1 hI (tab1 hI P 1) w hm)
  (fun w hm => by rw [fl1_2 hI P, fl1_1 hI P, fl1_3 hI P, ts1_3]; exact togE_1 hI (tab1 hI P 2) (tab1 hI P 1) w hm)
  (fun w hm => by rw [fl1_2 hI P, fl1_4 hI P, ts1_4]; exact twiceE_1 hI (tab1 hI P 2) w hm)
  (fun w hm => by rw [fl1_4 hI P, fl1_1 hI P, fl1_5 hI P, ts1_5]; exact togE_1 hI (tab1 hI P 4) (tab1 hI P 1) w hm)
  (fun w hm => by rw [fl1_3 hI P, fl1_6 hI P, ts1_6]; exact twiceE_1 hI (tab1 hI P 3) w hm)
  (fun w hm => by rw [fl1_6 hI P, fl1_1 hI P, fl1_7 hI P, ts1_7]; exact togE_1 hI (tab1 hI P 6) (tab1 hI P 1) w hm)
  (fun w hm => by rw [fl1_4 hI P, fl1_8 hI P, ts1_8]; exact twiceE_1 hI (tab1 hI P 4) w hm)
  (fun w hm => by rw [fl1_8 hI P, fl1_1 hI P, fl1_9 hI P, ts1_9]; exact togE_1 hI (tab1 hI P 8) (tab1 hI P 1) w hm)
  (fun w hm => by rw [fl1_5 hI P, fl1_10 hI P, ts1_10]; exact twiceE_1 hI (tab1 hI P 5) w hm)
  (fun w hm => by rw [fl1_10 hI P, fl1_1 hI P, fl1_11 hI P, ts1_11]; exact togE_1 hI (tab1 hI P 10) (tab1 hI P 1) w hm)
  (fun w hm => by rw [fl1_6 hI P, fl1_12 hI P, ts1_12]; exact twiceE_1 hI (tab1 hI P 6) w hm)
  (fun w hm => by rw [fl1_12 hI P, fl1_1 hI P, fl1_13 hI P, ts1_13]; exact togE_1 hI (tab1 hI P 12) (tab1 hI P 1) w hm)
  (fun w hm => by rw [fl1_7 hI P, fl1_14 hI P, ts1_14]; exact twiceE_1 hI (tab1 hI P 7) w hm)
  (fun w hm => by rw [fl1_14 hI P, fl1_1 hI P, fl1_15 hI P, ts1_15]; exact togE_1 hI (tab1 hI P 14) (tab1 hI P 1) w hm) w hm
def rowA1 {I : Fp → Fp} (hI : yC I) (P : Option (Fp × Fp)) (A : EC.Tri Fp) (v : Nat) : Nat → EC.Tri Fp
 | 0 => A
 | k + 1 => if dgt v k = 0 then (K1 hI).twice ((K1 hI).twice ((K1 hI).twice ((K1 hI).twice (rowA1 hI P A v k)))) else (K1 hI).tog ((K1 hI).twice ((K1 hI).twice ((K1 hI).twice ((K1 hI).twice (rowA1 hI P A v k))))) (tab1 hI P (dgt v k))
theorem rowrep1 {I : Fp → Fp} (hI : yC I) {P : Option (Fp × Fp)} (h : (K1 hI).on P) {A : EC.Tri Fp} {m : Nat} (hA : (K1 hI).rep A ((K1 hI).times P m)) {v : Nat} (hv : v < 18446744073709551616) : ∀ k, (K1 hI).rep (rowA1 hI P A v k) ((K1 hI).times P (m * 16 ^ k + v * 16 ^ k / 18446744073709551616))
 | 0 => by
  rw [Nat.pow_zero, Nat.mul_one, Nat.mul_one, Nat.div_eq_of_lt hv, Nat.add_zero]
  exact hA
 | k + 1 => by
  have ih := (K1 hI).times_sixteen h _ (rowrep1 hI h hA hv k)
  have e : m * 16 ^ (k + 1) + v * 16 ^ (k + 1) / 18446744073709551616 = 16 * (m * 16 ^ k + v * 16 ^ k / 18446744073709551616) + dgt v k := by
   rw [hi_next, Nat.pow_succ]
   generalize v * 16 ^ k / 18446744073709551616 = Y
   rw [← Nat.mul_assoc]
   omega
  rw [e]
  show (K1 hI).rep (if dgt v k = 0 then _ else _) _
  split
  ·next hz =>
   rw [hz, Nat.add_zero]
   exact ih
  ·rw [← (K1 hI).times_step h]
   exact (K1 hI).rep_tog ih (tabrep1 hI h _ (dgt_lt v k)) ((K1 hI).times_on h _) ((K1 hI).times_on h _)
theorem rowE_1 {I : Fp → Fp} (hI : yC I) {g : Nat} {tn : Value} (P : Option (Fp × Fp)) (A : EC.Tri Fp) {v : Nat} (hv : v < 18446744073709551616) (gt gr : Nat) (w : World) (hm : Mm w [(g, yB pB), (0, dtab), (gt, cel (tb1 (fn1 hI P))), (gr, [Value.int .u64 ((v : Nat) : Int)])]) :
  Calls Tryz.prog 153 #[(GV1 g tn), V (t1 A), .slice (some ⟨gt, 0, none⟩) 1 1, .slice (some ⟨gr, 0, none⟩) 1 1] w fun e w' => e = .returned (V (t1 (rowA1 hI P A v 16))) ∧ Mm w' [(gr, [Value.int .u64 0])] ∧ Kp gr w w' := by
 rw [← wof_0 hv] at hm
 have h := byRow_1 (u := (K1 hI).R.one) (b := (K1 hI).b) (tn := tn) (fd1 hI g) (fn1 hI P) (K1 hI).twice (fun T d => (K1 hI).tog T (tab1 hI P d)) (rowA1 hI P A v) (wof v) (dgt v) gt gr
  (fun T w hm => twiceE_1 hI T w hm)
  (fun T d _ w hm => by
   rw [fn1_0, fn1_1, fn1_2]
   exact togE_1 hI T (tab1 hI P d) w hm)
  (wof_d v) (dgt_lt v) (wof_w v) (fun k hk => (if_pos hk).symm) (fun k hk => (if_neg (by omega)).symm) w hm
 rw [wof_16] at h
 exact h
def sumS1 {I : Fp → Fp} (hI : yC I) (P : Option (Fp × Fp)) (nn : Nat) : Nat → EC.Tri Fp
 | 0 => (K1 hI).lift none
 | r + 1 => rowA1 hI P (sumS1 hI P nn r) (wn nn (5 - r)) 16
theorem sumrep1 {I : Fp → Fp} (hI : yC I) {P : Option (Fp × Fp)} (h : (K1 hI).on P) {nn : Nat} (hn : nn < big) : ∀ r, r ≤ 6 → (K1 hI).rep (sumS1 hI P nn r) ((K1 hI).times P (nn / 2 ^ (64 * (6 - r))))
 | 0, _ => by
  rw [hi_top hn]
  exact (K1 hI).rep_lift none
 | r + 1, hr => by
  have h1 := rowrep1 hI h (sumrep1 hI h hn r (by omega)) (wn_lt nn (5 - r)) 16
  rw [show (16 : Nat) ^ 16 = 18446744073709551616 by decide, Nat.mul_div_cancel _ (by decide), show 6 - r = 5 - r + 1 by omega, hi_word] at h1
  rw [show 6 - (r + 1) = 5 - r by omega]
  exact h1
theorem someE_1 {I : Fp → Fp} (hI : yC I) {g : Nat} {tn : Value} (P : Option (Fp × Fp)) {nn gp gn : Nat} (w : World) (hm : Mm w [(g, yB pB), (0, dtab), (gp, cel [c1x P, c1y P] ++ [Value.bool (c1z P)]), (gn, zD nn)]) :
  Calls Tryz.prog 118 #[(GV1 g tn), .slice (some ⟨gp, 0, none⟩) 1 1, .slice (some ⟨gn, 0, none⟩) 1 1] w (Rt w (V (t1 (sumS1 hI P nn 6)))) :=
 some_1 (u := (K1 hI).R.one) (b := (K1 hI).b) (tn := tn) (fd1 hI g) (fn1 hI P) (sumS1 hI P nn) (c1x P) (c1y P) nn gp gn (c1z P) (fun w hm => zeroE_1 hI w hm) (fun w hm => tableE_1 hI P w hm)
  (fun gt gr w hm => rowE_1 hI P (sumS1 hI P nn 0) (wn_lt nn 5) gt gr w hm) (fun gt gr w hm => rowE_1 hI P (sumS1 hI P nn 1) (wn_lt nn 4) gt gr w hm) (fun gt gr w hm => rowE_1 hI P (sumS1 hI P nn 2) (wn_lt nn 3) gt gr w hm) (fun gt gr w hm => rowE_1 hI P (sumS1 hI P nn 3) (wn_lt nn 2) gt gr w hm) (fun gt gr w hm => rowE_1 hI P (sumS1 hI P nn 4) (wn_lt nn 1) gt gr w hm) (fun gt gr w hm => rowE_1 hI P (sumS1 hI P nn 5) (wn_lt nn 0) gt gr w hm) w hm
theorem total1 {I : Fp → Fp} (hI : yC I) {P : Option (Fp × Fp)} (h : (K1 hI).on P) {nn : Nat} (hn : nn < big) : (K1 hI).lower ((K1 hI).tog ((K1 hI).lift none) (sumS1 hI P nn 6)) = (K1 hI).times P nn := by
 have h6 := sumrep1 hI h hn 6 (Nat.le_refl 6)
 rw [Nat.sub_self, Nat.mul_zero, Nat.pow_zero, Nat.div_one] at h6
 have e := (K1 hI).rep_lower ((K1 hI).rep_tog ((K1 hI).rep_lift none) h6 trivial ((K1 hI).times_on h nn))
 rw [e, (K1 hI).zero_add ((K1 hI).times_on h nn)]
theorem sumE_1 {I : Fp → Fp} (hI : yC I) {g : Nat} {tn : Value} {P : Option (Fp × Fp)} (h : (K1 hI).on P) {nn gp gn : Nat} (hn : nn < big) (w : World) (hm : Mm w [(g, yB pB), (0, dtab), (gp, cel [c1x P, c1y P] ++ [Value.bool (c1z P)]), (gn, zD nn)]) :
  Calls Tryz.prog 76 #[(GV1 g tn), .slice (some ⟨gp, 0, none⟩) 1 1, .slice (some ⟨gn, 0, none⟩) 1 1] w (Rt w (.tuple #[enc1 ((K1 hI).times P nn), .int .i64 0])) :=
 sumY_1 (u := (K1 hI).R.one) (b := (K1 hI).b) (tn := tn) (fd1 hI g) ((K1 hI).lift none) (sumS1 hI P nn 6) ((K1 hI).tog ((K1 hI).lift none) (sumS1 hI P nn 6)) (c1x P) (c1y P) (c1x ((K1 hI).times P nn)) (c1y ((K1 hI).times P nn)) nn gp gn (c1z P) (c1z ((K1 hI).times P nn))
  (fun w hm => ckE_1 hI h w hm) (fun w hm => zeroE_1 hI w hm) (fun w hm => someE_1 hI P w hm) (fun w hm => togE_1 hI _ _ w hm) (fun w hm => by
   have e := lowerE_1 hI (tn := tn) ((K1 hI).tog ((K1 hI).lift none) (sumS1 hI P nn 6)) w hm
   rw [total1 hI h hn] at e
   exact e) w hm
theorem MulE_1 {I : Fp → Fp} (hI : yC I) {P : Option (Fp × Fp)} (h : (K1 hI).on P) {nn : Nat} (hn : nn < big) (w : World) (hm : Mm w [(0, dtab)]) : Calls Tryz.prog 17 #[enc1 P, N nn] w (Rt w (.tuple #[enc1 ((K1 hI).times P nn), .int .i64 0])) :=
 Mul_1 (c1x P) (c1y P) (c1x ((K1 hI).times P nn)) (c1y ((K1 hI).times P nn)) nn (c1z P) (c1z ((K1 hI).times P nn)) 0 (fun gl gn w hm =>
  Sum_1 1 4 (c1x P) (c1y P) (c1x ((K1 hI).times P nn)) (c1y ((K1 hI).times P nn)) nn gl gn (c1z P) (c1z ((K1 hI).times P nn)) 0 firstE (fun g tn _ w hm => sumE_1 hI (g := g) (tn := tn) h hn w hm) w hm) w hm
end Rg
end Go.Proofs.YtaomlijondiaoaaGreatDoor
end
section
namespace Go.Proofs.YtaomlijondiaoaaGreatDoor
open Go.RowKit
namespace Rg
open NT
theorem refl_P1 (a b : Nat) (z : Bool) (ha : a < big) (hb : b < big) : ∀ w, (Op.equalIn 10000 26 (pv1 a b z) (pv1 a b z)).run Tryz.prog w = .ok true w := fun w => by
 have h := run_eqP1 a b a b z z ha hb ha hb w
 refine h.trans (congrArg (fun q => Result.ok q w) ?_)
 simp
theorem refl_P2 (a b c d : Nat) (z : Bool) (ha : a < big) (hb : b < big) (hc : c < big) (hd : d < big) : ∀ w, (Op.equalIn 10000 42 (pv2 a b c d z) (pv2 a b c d z)).run Tryz.prog w = .ok true w := fun w => by
 have h := run_eqP2 a b c d a b c d z z ha hb hc hd ha hb hc hd w
 refine h.trans (congrArg (fun q => Result.ok q w) ?_)
 simp
theorem gx_lt : gx < pB := by decide +kernel
theorem gy_lt : gy < pB := by decide +kernel
theorem hx0_lt : hx0 < pB := by decide +kernel
theorem hx1_lt : hx1 < pB := by decide +kernel
theorem hy0_lt : hy0 < pB := by decide +kernel
theorem hy1_lt : hy1 < pB := by decide +kernel
def Q1 : Option (Fp × Fp) := some (⟨gx, gx_lt⟩, ⟨gy, gy_lt⟩)
def Q2 : Option (Fq × Fq) := some ((⟨hx0, hx0_lt⟩, ⟨hx1, hx1_lt⟩), (⟨hy0, hy0_lt⟩, ⟨hy1, hy1_lt⟩))
theorem on_Q1 {I : Fp → Fp} (hI : yC I) : (K1 hI).on Q1 := by
 refine Subtype.ext ?_
 show gy * gy % pB = (gx * (gx * gx % pB) % pB + 4) % pB
 decide +kernel
theorem on_Q2 {I : Fp → Fp} (hI : yC I) : (K2 hI).on Q2 := by
 refine Prod.ext (Subtype.ext ?_) (Subtype.ext ?_)
 ·show (hy0 * hy0 % pB + (pB - hy1 * hy1 % pB) % pB) % pB = (((hx0 * ((hx0 * hx0 % pB + (pB - hx1 * hx1 % pB) % pB) % pB) % pB + (pB - hx1 * ((hx0 * hx1 % pB + hx1 * hx0 % pB) % pB) % pB) % pB) % pB) + 4) % pB
  decide +kernel
 ·show (hy0 * hy1 % pB + hy1 * hy0 % pB) % pB = (((hx0 * ((hx0 * hx1 % pB + hx1 * hx0 % pB) % pB) % pB + hx1 * ((hx0 * hx0 % pB + (pB - hx1 * hx1 % pB) % pB) % pB) % pB) % pB) + 4) % pB
  decide +kernel
theorem GenE_1 (w : World) : Calls Tryz.prog 13 #[] w (Rt w (enc1 Q1)) := gen1_gen gx gy numb_gx numb_gy w
theorem GenE_2 (w : World) : Calls Tryz.prog 26 #[] w (Rt w (enc2 Q2)) := gen2_gen hx0 hx1 hy0 hy1 numb_hx0 numb_hx1 numb_hy0 numb_hy1 w
theorem two_times {I : Fp → Fp} (hI : yC I) : (K1 hI).times Q1 2 = (K1 hI).add Q1 Q1 := by
 show (K1 hI).add ((K1 hI).add none Q1) Q1 = _
 rw [(K1 hI).zero_add (on_Q1 hI)]
theorem two_Q1 {I : Fp → Fp} (hI : yC I) : c1z ((K1 hI).add Q1 Q1) = false := by
 have h := (K1 hI).twice_ne (on_Q1 hI)
 have e : (K1 hI).add Q1 Q1 ≠ none := h
 generalize (K1 hI).add Q1 Q1 = D at e ⊢
 cases D with
 | none => exact absurd rfl e
 | some q => rfl
theorem awakeE (w : World) (hm : Mm w [(0, dtab)]) : Calls Tryz.prog 35 #[] w (Rt w (.bool true)) := by
 obtain ⟨I, hI⟩ := inv1_ex
 have hz := two_Q1 hI
 have ca := fun w hm => AddE_1 hI (on_Q1 hI) (on_Q1 hI) w hm
 have cm := fun w hm => MulE_1 hI (on_Q1 hI) (small_big 2 (by decide)) w hm
 rw [two_times hI] at cm
 have er := refl_P1 (c1x ((K1 hI).add Q1 Q1)) (c1y ((K1 hI).add Q1 Q1)) false (c1x_big _) (c1y_big _)
 unfold enc1 at ca cm
 rw [hz] at ca cm
 exact awake_gen (c1x Q1) (c1y Q1) (c1x ((K1 hI).add Q1 Q1)) (c1y ((K1 hI).add Q1 Q1)) (c2x0 Q2) (c2x1 Q2) (c2y0 Q2) (c2y1 Q2) 2 (c1z Q1) (c2z Q2)
  GenE_1 ca (fun w => of_any 2 (by decide) w) cm (fun w hm => CkE_1 hI (on_Q1 hI) w hm) GenE_2 (fun w hm => CkE_2 hI (on_Q2 hI) w hm) er w hm
end Rg
end Go.Proofs.YtaomlijondiaoaaGreatDoor
end
section
namespace Go.Proofs.YtaomlijondiaoaaGreatDoor
open Go.RowKit
namespace Rg
set_option maxHeartbeats 8000000 in
theorem tableOf_2 {α : Type} {e0 e1 : α → Nat} {fa fs fm : α → α → α} {fi : α → α} {z u b : α} {tn : Value} (_C : Fd2 e0 e1 fa fs fm fi z) (f : Nat → Nat) (x0 x1 y0 y1 : Nat) (zb : Bool) (cz : ∀ w, Mm w [(0, dtab)] → Calls Tryz.prog 119 #[.agg (G2 tn (e0 u) (e1 u) (e0 b) (e1 b)).toArray] w (Rt w (V [f 0, f 1, f 2, f 3, f 4, f 5]))) (cl : ∀ w, Mm w [(0, dtab)] → Calls Tryz.prog 110 #[.agg (G2 tn (e0 u) (e1 u) (e0 b) (e1 b)).toArray, .agg (zV x0 x1 y0 y1 zb).toArray] w (Rt w (V [f 6, f 7, f 8, f 9, f 10, f 11]))) (c2 : ∀ w, Mm w [(0, dtab)] → Calls Tryz.prog 149 #[.agg (G2 tn (e0 u) (e1 u) (e0 b) (e1 b)).toArray, V [f 6, f 7, f 8, f 9, f 10, f 11]] w (Rt w (V [f 12, f 13, f 14, f 15, f 16, f 17]))) (c3 : ∀ w, Mm w [(0, dtab)] → Calls Tryz.prog 114 #[.agg (G2 tn (e0 u) (e1 u) (e0 b) (e1 b)).toArray, V [f 12, f 13, f 14, f 15, f 16, f 17], V [f 6, f 7, f 8, f 9, f 10, f 11]] w (Rt w (V [f 18, f 19, f 20, f 21, f 22, f 23]))) (c4 : ∀ w, Mm w [(0, dtab)] → Calls Tryz.prog 149 #[.agg (G2 tn (e0 u) (e1 u) (e0 b) (e1 b)).toArray, V [f 12, f 13, f 14, f 15, f 16, f 17]] w (Rt w (V [f 24, f 25, f 26, f 27, f 28, f 29]))) (c5 : ∀ w, Mm w [(0, dtab)] → Calls Tryz.prog 114 #[.agg (G2 tn (e0 u) (e1 u) (e0 b) (e1 b)).toArray, V [f 24, f 25, f 26, f 27, f 28, f 29], V [f 6, f 7, f 8, f 9, f 10, f 11]] w (Rt w (V [f 30, f 31, f 32, f 33, f 34, f 35]))) (c6 : ∀ w, Mm w [(0, dtab)] → Calls Tryz.prog 149 #[.agg (G2 tn (e0 u) (e1 u) (e0 b) (e1 b)).toArray, V [f 18, f 19, f 20, f 21, f 22, f 23]] w (Rt w (V [f 36, f 37, f 38, f 39, f 40, f 41]))) (c7 : ∀ w, Mm w [(0, dtab)] → Calls Tryz.prog 114 #[.agg (G2 tn (e0 u) (e1 u) (e0 b) (e1 b)).toArray, V [f 36, f 37, f 38, f 39, f 40, f 41], V [f 6, f 7, f 8, f 9, f 10, f 11]] w (Rt w (V [f 42, f 43, f 44, f 45, f 46, f 47]))) (c8 : ∀ w, Mm w [(0, dtab)] → Calls Tryz.prog 149 #[.agg (G2 tn (e0 u) (e1 u) (e0 b) (e1 b)).toArray, V [f 24, f 25, f 26, f 27, f 28, f 29]] w (Rt w (V [f 48, f 49, f 50, f 51, f 52, f 53]))) (c9 : ∀ w, Mm w [(0, dtab)] → Calls Tryz.prog 114 #[.agg (G2 tn (e0 u) (e1 u) (e0 b) (e1 b)).toArray, V [f 48, f 49, f 50, f 51, f 52, f 53], V [f 6, f 7, f 8, f 9, f 10, f 11]] w (Rt w (V [f 54, f 55, f 56, f 57, f 58, f 59]))) (c10 : ∀ w, Mm w [(0, dtab)] → Calls Tryz.prog 149 #[.agg (G2 tn (e0 u) (e1 u) (e0 b) (e1 b)).toArray, V [f 30, f 31, f 32, f 33, f 34, f 35]] w (Rt w (V [f 60, f 61, f 62, f 63, f 64, f 65]))) (c11 : ∀ w, Mm w [(0, dtab)] → Calls Tryz.prog 114 #[.agg (G2 tn (e0 u) (e1 u) (e0 b) (e1 b)).toArray, V [f 60, f 61, f 62, f 63, f 64, f 65], V [f 6, f 7, f 8, f 9, f 10, f 11]] w (Rt w (V [f 66, f 67, f 68, f 69, f 70, f 71]))) (c12 : ∀ w, Mm w [(0, dtab)] → Calls Tryz.prog 149 #[.agg (G2 tn (e0 u) (e1 u) (e0 b) (e1 b)).toArray, V [f 36, f 37, f 38, f 39, f 40, f 41]] w (Rt w (V [f 72, f 73, f 74, f 75, f 76, f 77]))) (c13 : ∀ w, Mm w [(0, dtab)] → Calls Tryz.prog 114 #[.agg (G2 tn (e0 u) (e1 u) (e0 b) (e1 b)).toArray, V [f 72, f 73, f 74, f 75, f 76, f 77], V [f 6, f 7, f 8, f 9, f 10, f 11]] w (Rt w (V [f 78, f 79, f 80, f 81, f 82, f 83]))) (c14 : ∀ w, Mm w [(0, dtab)] → Calls Tryz.prog 149 #[.agg (G2 tn (e0 u) (e1 u) (e0 b) (e1 b)).toArray, V [f 42, f 43, f 44, f 45, f 46, f 47]] w (Rt w (V [f 84, f 85, f 86, f 87, f 88, f 89]))) (c15 : ∀ w, Mm w [(0, dtab)] → Calls Tryz.prog 114 #[.agg (G2 tn (e0 u) (e1 u) (e0 b) (e1 b)).toArray, V [f 84, f 85, f 86, f 87, f 88, f 89], V [f 6, f 7, f 8, f 9, f 10, f 11]] w (Rt w (V [f 90, f 91, f 92, f 93, f 94, f 95]))) (w : World) (hm : Mm w [(0, dtab)]) :
  Calls Tryz.prog 154 #[.agg (G2 tn (e0 u) (e1 u) (e0 b) (e1 b)).toArray, .agg (zV x0 x1 y0 y1 zb).toArray] w (Rt w (V (tb2 f))) := by
 have H0 : Hid (_ ∧ _) := ⟨hm, Below.refl w.heap.size w⟩
 clear hm
 have CZ : Hid _ := cz
 clear cz
 have CL : Hid _ := cl
 clear cl
 have C2 : Hid _ := c2
 clear c2
 have C3 : Hid _ := c3
 clear c3
 have C4 : Hid _ := c4
 clear c4
 have C5 : Hid _ := c5
 clear c5
 have C6 : Hid _ := c6
 clear c6
 have C7 : Hid _ := c7
 clear c7
 have C8 : Hid _ := c8
 clear c8
 have C9 : Hid _ := c9
 clear c9
 have C10 : Hid _ := c10
 clear c10
 have C11 : Hid _ := c11
 clear c11
 have C12 : Hid _ := c12
 clear c12
 have C13 : Hid _ := c13
 clear c13
 have C14 : Hid _ := c14
 clear c14
 have C15 : Hid _ := c15
 clear c15
 go_enter Tryz.func154, Tryz.ntmps154
 refine wp_seq ?_
 refine zC 3 [.made (G2 tn (e0 u) (e1 u) (e0 b) (e1 b)) 101, .made (zV x0 x1 y0 y1 zb) 104, .made (cel [0, 0, 0, 0, 0, 0, 0, 0, 0, 0, 0, 0, 0, 0, 0, 0, 0, 0, 0, 0, 0, 0, 0, 0, 0, 0, 0, 0, 0, 0, 0, 0, 0, 0, 0, 0, 0, 0, 0, 0, 0, 0, 0, 0, 0, 0, 0, 0, 0, 0, 0, 0, 0, 0, 0, 0, 0, 0, 0, 0, 0, 0, 0, 0, 0, 0, 0, 0, 0, 0, 0, 0, 0, 0, 0, 0, 0, 0, 0, 0, 0, 0, 0, 0, 0, 0, 0, 0, 0, 0, 0, 0, 0, 0, 0, 0]) 178] (sB H0) ?ho1 ?he1
 case ho1 => exact am (zW rfl rfl) (am (zW rfl rfl) (am (ex_madeTB2 rfl) trivial))
 intro γ w1 l hM hl
 have H1 : Hid (Mm w1 ([(γ 0, G2 tn (e0 u) (e1 u) (e0 b) (e1 b)), (γ 1, zV x0 x1 y0 y1 zb), (γ 2, cel [0, 0, 0, 0, 0, 0, 0, 0, 0, 0, 0, 0, 0, 0, 0, 0, 0, 0, 0, 0, 0, 0, 0, 0, 0, 0, 0, 0, 0, 0, 0, 0, 0, 0, 0, 0, 0, 0, 0, 0, 0, 0, 0, 0, 0, 0, 0, 0, 0, 0, 0, 0, 0, 0, 0, 0, 0, 0, 0, 0, 0, 0, 0, 0, 0, 0, 0, 0, 0, 0, 0, 0, 0, 0, 0, 0, 0, 0, 0, 0, 0, 0, 0, 0, 0, 0, 0, 0, 0, 0, 0, 0, 0, 0, 0, 0])] ++ _) ∧ _) := wB H0 hM hl [0, 1, 2]
 have o1_0 := vB H0 hM hl 0
 have o1_1 := vB H0 hM hl 1
 have o1_2 := vB H0 hM hl 2
 clear hM hl l
 generalize γ 0 = γ1_0 at H1 o1_0 ⊢
 generalize γ 1 = γ1_1 at H1 o1_1 ⊢
 generalize γ 2 = γ1_2 at H1 o1_2 ⊢
 clear γ
 refine rN (wp_seq ?_)
 refine zS 8 [.quiet (.agg (G2 tn (e0 u) (e1 u) (e0 b) (e1 b)).toArray), .call (V [f 0, f 1, f 2, f 3, f 4, f 5]), .quiet (.agg (G2 tn (e0 u) (e1 u) (e0 b) (e1 b)).toArray), .quiet (.agg (zV x0 x1 y0 y1 zb).toArray), .call (V [f 6, f 7, f 8, f 9, f 10, f 11]), .quiet (V (tbz2 12 f)), .made (cel [0, 0, 0, 0, 0, 0, 0, 0, 0, 0, 0, 0, 0, 0, 0, 0, 0, 0, 0, 0, 0, 0, 0, 0, 0, 0, 0, 0, 0, 0, 0, 0, 0, 0, 0, 0, 0, 0, 0, 0, 0, 0, 0, 0, 0, 0, 0, 0, 0, 0, 0, 0, 0, 0, 0, 0, 0, 0, 0, 0, 0, 0, 0, 0, 0, 0, 0, 0, 0, 0, 0, 0, 0, 0, 0, 0, 0, 0, 0, 0, 0, 0, 0, 0, 0, 0, 0, 0, 0, 0, 0, 0, 0, 0, 0, 0]) 178, .laid 6 (cel [0, 0, 0, 0, 0, 0, 0, 0, 0, 0, 0, 0, 0, 0, 0, 0, 0, 0, 0, 0, 0, 0, 0, 0, 0, 0, 0, 0, 0, 0, 0, 0, 0, 0, 0, 0, 0, 0, 0, 0, 0, 0, 0, 0, 0, 0, 0, 0, 0, 0, 0, 0, 0, 0, 0, 0, 0, 0, 0, 0, 0, 0, 0, 0, 0, 0, 0, 0, 0, 0, 0, 0, 0, 0, 0, 0, 0, 0, 0, 0, 0, 0, 0, 0, 0, 0, 0, 0, 0, 0, 0, 0, 0, 0, 0, 0]) (cel (tbz2 12 f))] (sB H1) ?ho2 ?he2 (hL := ?hL2)
 case hL2 => exact ⟨⟨_, rfl⟩, trivial⟩
 case ho2 => exact bT 0 Tryz.isAgg101 Tryz.sizeOf101 (ac (fun w' h => eC call119 (CZ.out w' (h.one 3 rfl))) (bT 0 Tryz.isAgg101 Tryz.sizeOf101 (bT 1 Tryz.isAgg104 Tryz.sizeOf104 (ac (fun w' h => eC call110 (CL.out w' (h.one 3 rfl))) (ak (fun γ => ⟨rfl, fun w' _ => ex_buildTB2 rfl rfl rfl⟩) (am (ex_madeTB2 rfl) (ak (fun γ => ⟨rfl, rfl, rfl, fun w' h => ex_laidA h rfl Tryz.sizeOf178 rfl rfl rfl⟩) trivial)))))))
 intro γ w2 l hM hl
 have H2 : Hid (Mm w2 ([(γ 6, cel (tbz2 12 f))] ++ _) ∧ _) := wB H1 hM hl [6]
 have o2_6 := vB H1 hM hl 6
 clear hM hl l H1
 generalize γ 6 = γ2_6 at H2 o2_6 ⊢
 clear γ
 refine rN (wp_seq (wp_seq ?_))
 refine zB 1 [.quiet (.int .i64 2)] H2 ?ho3 ?he3
 case ho3 => exact ar trivial
 intro _ w3 H3
 clear H2
 refine rN (wp_block ?_)
 refine wp_loop_rounds 8 ?_
 refine zK (n := 7) ?_
 refine wp_seq (wp_seq ?_)
 refine zB 2 [.quiet (.int .i64 2), .quiet (.bool true)] H3 ?ho4 ?he4
 case ho4 => exact ar (ag trivial)
 intro _ w4 H4
 clear H3
 refine rN (wp_cond_true rfl ?_)
 refine wp_skip (zA ?_)
 refine wp_seq (wp_block (wp_seq ?_))
 refine zP 8 [.quiet (.int .i64 2), .quiet (.agg (G2 tn (e0 u) (e1 u) (e0 b) (e1 b)).toArray), .quiet (.int .i64 2), .quiet (.int .i64 1), .quiet (PT γ2_6 36), .quiet (V [f 6, f 7, f 8, f 9, f 10, f 11]), .call (V [f 12, f 13, f 14, f 15, f 16, f 17]), .quiet (PT γ2_6 72)] H4 ?ho5 ?he5
 case ho5 => exact ar (bT 1 Tryz.isAgg101 Tryz.sizeOf101 (ar (av (ag (bA 6 6 0 Tryz.isAgg139 Tryz.sizeOf139 (ac (fun w' h => eC call149 (C2.out w' (h.one 4 rfl))) (ag trivial)))))))
 intro _ w5 H5
 clear H4
 refine zF (l := [8]) rfl ?_
 refine sA 0 12 [f 12, f 13, f 14, f 15, f 16, f 17] [(_, cel (tbz2 18 f)), _, _, _, _] H5 o2_6 Tryz.sizeOf139 fun w6 H6 => ?_
 clear H5
 refine zE (zA ?_)
 refine zP 10 [.quiet (.int .i64 2), .quiet (.int .i64 3), .quiet (.agg (G2 tn (e0 u) (e1 u) (e0 b) (e1 b)).toArray), .quiet (.int .i64 2), .quiet (PT γ2_6 72), .quiet (V [f 12, f 13, f 14, f 15, f 16, f 17]), .quiet (PT γ2_6 36), .quiet (V [f 6, f 7, f 8, f 9, f 10, f 11]), .call (V [f 18, f 19, f 20, f 21, f 22, f 23]), .quiet (PT γ2_6 108)] H6 ?ho6 ?he6
 case ho6 => exact ar (av (bT 1 Tryz.isAgg101 Tryz.sizeOf101 (ar (ag (bA 12 6 0 Tryz.isAgg139 Tryz.sizeOf139 (ag (bA 6 6 0 Tryz.isAgg139 Tryz.sizeOf139 (ac (fun w' h => eC call114 (C3.out w' (h.one 4 rfl))) (ag trivial)))))))))
 intro _ w7 H7
 clear H6
 refine zF (l := [10]) rfl ?_
 refine sA 0 18 [f 18, f 19, f 20, f 21, f 22, f 23] [(_, cel (tbz2 24 f)), _, _, _, _] H7 o2_6 Tryz.sizeOf139 fun w8 H8 => ?_
 clear H7
 refine zE (zH (zA ?_))
 refine zB 2 [.quiet (.int .i64 2), .quiet (.int .i64 4)] H8 ?ho7 ?he7
 case ho7 => exact ar (av trivial)
 intro _ w9 H9
 clear H8
 refine zF (l := [2]) rfl ?_
 refine zG (d := 6) rfl rfl rfl rfl ?_
 simp only [Act.put, sa, sz, ss]
 refine zE (zA ?_)
 refine zK (n := 6) ?_
 refine wp_seq (wp_seq ?_)
 refine zB 2 [.quiet (.int .i64 4), .quiet (.bool true)] H9 ?ho8 ?he8
 case ho8 => exact ar (ag trivial)
 intro _ w10 H10
 clear H9
 refine rN (wp_cond_true rfl ?_)
 refine wp_skip (zA ?_)
 refine wp_seq (wp_block (wp_seq ?_))
 refine zP 8 [.quiet (.int .i64 4), .quiet (.agg (G2 tn (e0 u) (e1 u) (e0 b) (e1 b)).toArray), .quiet (.int .i64 4), .quiet (.int .i64 2), .quiet (PT γ2_6 72), .quiet (V [f 12, f 13, f 14, f 15, f 16, f 17]), .call (V [f 24, f 25, f 26, f 27, f 28, f 29]), .quiet (PT γ2_6 144)] H10 ?ho9 ?he9
 case ho9 => exact ar (bT 1 Tryz.isAgg101 Tryz.sizeOf101 (ar (av (ag (bA 12 6 0 Tryz.isAgg139 Tryz.sizeOf139 (ac (fun w' h => eC call149 (C4.out w' (h.one 4 rfl))) (ag trivial)))))))
 intro _ w11 H11
 clear H10
 refine zF (l := [8]) rfl ?_
 refine sA 0 24 [f 24, f 25, f 26, f 27, f 28, f 29] [(_, cel (tbz2 30 f)), _, _, _, _] H11 o2_6 Tryz.sizeOf139 fun w12 H12 => ?_
 clear H11
 refine zE (zA ?_)
 refine zP 10 [.quiet (.int .i64 4), .quiet (.int .i64 5), .quiet (.agg (G2 tn (e0 u) (e1 u) (e0 b) (e1 b)).toArray), .quiet (.int .i64 4), .quiet (PT γ2_6 144), .quiet (V [f 24, f 25, f 26, f 27, f 28, f 29]), .quiet (PT γ2_6 36), .quiet (V [f 6, f 7, f 8, f 9, f 10, f 11]), .call (V [f 30, f 31, f 32, f 33, f 34, f 35]), .quiet (PT γ2_6 180)] H12 ?ho10 ?he10
 case ho10 => exact ar (av (bT 1 Tryz.isAgg101 Tryz.sizeOf101 (ar (ag (bA 24 6 0 Tryz.isAgg139 Tryz.sizeOf139 (ag (bA 6 6 0 Tryz.isAgg139 Tryz.sizeOf139 (ac (fun w' h => eC call114 (C5.out w' (h.one 4 rfl))) (ag trivial)))))))))
 intro _ w13 H13
 clear H12
 refine zF (l := [10]) rfl ?_
 refine sA 0 30 [f 30, f 31, f 32, f 33, f 34, f 35] [(_, cel (tbz2 36 f)), _, _, _, _] H13 o2_6 Tryz.sizeOf139 fun w14 H14 => ?_
 clear H13
 refine zE (zH (zA ?_))
 refine zB 2 [.quiet (.int .i64 4), .quiet (.int .i64 6)] H14 ?ho11 ?he11
 case ho11 => exact ar (av trivial)
 intro _ w15 H15
 clear H14
 refine zF (l := [2]) rfl ?_
 refine zG (d := 6) rfl rfl rfl rfl ?_
 simp only [Act.put, sa, sz, ss]
 refine zE (zA ?_)
 refine zK (n := 5) ?_
 refine wp_seq (wp_seq ?_)
 refine zB 2 [.quiet (.int .i64 6), .quiet (.bool true)] H15 ?ho12 ?he12
 case ho12 => exact ar (ag trivial)
 intro _ w16 H16
 clear H15
 refine rN (wp_cond_true rfl ?_)
 refine wp_skip (zA ?_)
 refine wp_seq (wp_block (wp_seq ?_))
 refine zP 8 [.quiet (.int .i64 6), .quiet (.agg (G2 tn (e0 u) (e1 u) (e0 b) (e1 b)).toArray), .quiet (.int .i64 6), .quiet (.int .i64 3), .quiet (PT γ2_6 108), .quiet (V [f 18, f 19, f 20, f 21, f 22, f 23]), .call (V [f 36, f 37, f 38, f 39, f 40, f 41]), .quiet (PT γ2_6 216)] H16 ?ho13 ?he13
 case ho13 => exact ar (bT 1 Tryz.isAgg101 Tryz.sizeOf101 (ar (av (ag (bA 18 6 0 Tryz.isAgg139 Tryz.sizeOf139 (ac (fun w' h => eC call149 (C6.out w' (h.one 4 rfl))) (ag trivial)))))))
 intro _ w17 H17
 clear H16
 refine zF (l := [8]) rfl ?_
 refine sA 0 36 [f 36, f 37, f 38, f 39, f 40, f 41] [(_, cel (tbz2 42 f)), _, _, _, _] H17 o2_6 Tryz.sizeOf139 fun w18 H18 => ?_
 clear H17
 refine zE (zA ?_)
 refine zP 10 [.quiet (.int .i64 6), .quiet (.int .i64 7), .quiet (.agg (G2 tn (e0 u) (e1 u) (e0 b) (e1 b)).toArray), .quiet (.int .i64 6), .quiet (PT γ2_6 216), .quiet (V [f 36, f 37, f 38, f 39, f 40, f 41]), .quiet (PT γ2_6 36), .quiet (V [f 6, f 7, f 8, f 9, f 10, f 11]), .call (V [f 42, f 43, f 44, f 45, f 46, f 47]), .quiet (PT γ2_6 252)] H18 ?ho14 ?he14
 case ho14 => exact ar (av (bT 1 Tryz.isAgg101 Tryz.sizeOf101 (ar (ag (bA 36 6 0 Tryz.isAgg139 Tryz.sizeOf139 (ag (bA 6 6 0 Tryz.isAgg139 Tryz.sizeOf139 (ac (fun w' h => eC call114 (C7.out w' (h.one 4 rfl))) (ag trivial)))))))))
 intro _ w19 H19
 clear H18
 refine zF (l := [10]) rfl ?_
 refine sA 0 42 [f 42, f 43, f 44, f 45, f 46, f 47] [(_, cel (tbz2 48 f)), _, _, _, _] H19 o2_6 Tryz.sizeOf139 fun w20 H20 => ?_
 clear H19
 refine zE (zH (zA ?_))
 refine zB 2 [.quiet (.int .i64 6), .quiet (.int .i64 8)] H20 ?ho15 ?he15
 case ho15 => exact ar (av trivial)
 intro _ w21 H21
 clear H20
 refine zF (l := [2]) rfl ?_
 refine zG (d := 6) rfl rfl rfl rfl ?_
 simp only [Act.put, sa, sz, ss]
 refine zE (zA ?_)
 refine zK (n := 4) ?_
 refine wp_seq (wp_seq ?_)
 refine zB 2 [.quiet (.int .i64 8), .quiet (.bool true)] H21 ?ho16 ?he16
 case ho16 => exact ar (ag trivial)
 intro _ w22 H22
 clear H21
 refine rN (wp_cond_true rfl ?_)
 refine wp_skip (zA ?_)
 refine wp_seq (wp_block (wp_seq ?_))
 refine zP 8 [.quiet (.int .i64 8), .quiet (.agg (G2 tn (e0 u) (e1 u) (e0 b) (e1 b)).toArray), .quiet (.int .i64 8), .quiet (.int .i64 4), .quiet (PT γ2_6 144), .quiet (V [f 24, f 25, f 26, f 27, f 28, f 29]), .call (V [f 48, f 49, f 50, f 51, f 52, f 53]), .quiet (PT γ2_6 288)] H22 ?ho17 ?he17
 case ho17 => exact ar (bT 1 Tryz.isAgg101 Tryz.sizeOf101 (ar (av (ag (bA 24 6 0 Tryz.isAgg139 Tryz.sizeOf139 (ac (fun w' h => eC call149 (C8.out w' (h.one 4 rfl))) (ag trivial)))))))
 intro _ w23 H23
 clear H22
 refine zF (l := [8]) rfl ?_
 refine sA 0 48 [f 48, f 49, f 50, f 51, f 52, f 53] [(_, cel (tbz2 54 f)), _, _, _, _] H23 o2_6 Tryz.sizeOf139 fun w24 H24 => ?_
 clear H23
 refine zE (zA ?_)
 refine zP 10 [.quiet (.int .i64 8), .quiet (.int .i64 9), .quiet (.agg (G2 tn (e0 u) (e1 u) (e0 b) (e1 b)).toArray), .quiet (.int .i64 8), .quiet (PT γ2_6 288), .quiet (V [f 48, f 49, f 50, f 51, f 52, f 53]), .quiet (PT γ2_6 36), .quiet (V [f 6, f 7, f 8, f 9, f 10, f 11]), .call (V [f 54, f 55, f 56, f 57, f 58, f 59]), .quiet (PT γ2_6 324)] H24 ?ho18 ?he18
 case ho18 => exact ar (av (bT 1 Tryz.isAgg101 Tryz.sizeOf101 (ar (ag (bA 48 6 0 Tryz.isAgg139 Tryz.sizeOf139 (ag (bA 6 6 0 Tryz.isAgg139 Tryz.sizeOf139 (ac (fun w' h => eC call114 (C9.out w' (h.one 4 rfl))) (ag trivial)))))))))
 intro _ w25 H25
 clear H24
 refine zF (l := [10]) rfl ?_
 refine sA 0 54 [f 54, f 55, f 56, f 57, f 58, f 59] [(_, cel (tbz2 60 f)), _, _, _, _] H25 o2_6 Tryz.sizeOf139 fun w26 H26 => ?_
 clear H25
 refine zE (zH (zA ?_))
 refine zB 2 [.quiet (.int .i64 8), .quiet (.int .i64 10)] H26 ?ho19 ?he19
 case ho19 => exact ar (av trivial)
 intro _ w27 H27
 clear H26
 refine zF (l := [2]) rfl ?_
 refine zG (d := 6) rfl rfl rfl rfl ?_
 simp only [Act.put, sa, sz, ss]
 refine zE (zA ?_)
 refine zK (n := 3) ?_
 refine wp_seq (wp_seq ?_)
 refine zB 2 [.quiet (.int .i64 10), .quiet (.bool true)] H27 ?ho20 ?he20
 case ho20 => exact ar (ag trivial)
 intro _ w28 H28
 clear H27
 refine rN (wp_cond_true rfl ?_)
 refine wp_skip (zA ?_)
 refine wp_seq (wp_block (wp_seq ?_))
 refine zP 8 [.quiet (.int .i64 10), .quiet (.agg (G2 tn (e0 u) (e1 u) (e0 b) (e1 b)).toArray), .quiet (.int .i64 10), .quiet (.int .i64 5), .quiet (PT γ2_6 180), .quiet (V [f 30, f 31, f 32, f 33, f 34, f 35]), .call (V [f 60, f 61, f 62, f 63, f 64, f 65]), .quiet (PT γ2_6 360)] H28 ?ho21 ?he21
 case ho21 => exact ar (bT 1 Tryz.isAgg101 Tryz.sizeOf101 (ar (av (ag (bA 30 6 0 Tryz.isAgg139 Tryz.sizeOf139 (ac (fun w' h => eC call149 (C10.out w' (h.one 4 rfl))) (ag trivial)))))))
 intro _ w29 H29
 clear H28
 refine zF (l := [8]) rfl ?_
 refine sA 0 60 [f 60, f 61, f 62, f 63, f 64, f 65] [(_, cel (tbz2 66 f)), _, _, _, _] H29 o2_6 Tryz.sizeOf139 fun w30 H30 => ?_
 clear H29
 refine zE (zA ?_)
 refine zP 10 [.quiet (.int .i64 10), .quiet (.int .i64 11), .quiet (.agg (G2 tn (e0 u) (e1 u) (e0 b) (e1 b)).toArray), .quiet (.int .i64 10), .quiet (PT γ2_6 360), .quiet (V [f 60, f 61, f 62, f 63, f 64, f 65]), .quiet (PT γ2_6 36), .quiet (V [f 6, f 7, f 8, f 9, f 10, f 11]), .call (V [f 66, f 67, f 68, f 69, f 70, f 71]), .quiet (PT γ2_6 396)] H30 ?ho22 ?he22
 case ho22 => exact ar (av (bT 1 Tryz.isAgg101 Tryz.sizeOf101 (ar (ag (bA 60 6 0 Tryz.isAgg139 Tryz.sizeOf139 (ag (bA 6 6 0 Tryz.isAgg139 Tryz.sizeOf139 (ac (fun w' h => eC call114 (C11.out w' (h.one 4 rfl))) (ag trivial)))))))))
 intro _ w31 H31
 clear H30
 refine zF (l := [10]) rfl ?_
 refine sA 0 66 [f 66, f 67, f 68, f 69, f 70, f 71] [(_, cel (tbz2 72 f)), _, _, _, _] H31 o2_6 Tryz.sizeOf139 fun w32 H32 => ?_
 clear H31
 refine zE (zH (zA ?_))
 refine zB 2 [.quiet (.int .i64 10), .quiet (.int .i64 12)] H32 ?ho23 ?he23
 case ho23 => exact ar (av trivial)
 intro _ w33 H33
 clear H32
 refine zF (l := [2]) rfl ?_
 refine zG (d := 6) rfl rfl rfl rfl ?_
 simp only [Act.put, sa, sz, ss]
 refine zE (zA ?_)
 refine zK (n := 2) ?_
 refine wp_seq (wp_seq ?_)
 refine zB 2 [.quiet (.int .i64 12), .quiet (.bool true)] H33 ?ho24 ?he24
 case ho24 => exact ar (ag trivial)
 intro _ w34 H34
 clear H33
 refine rN (wp_cond_true rfl ?_)
 refine wp_skip (zA ?_)
 refine wp_seq (wp_block (wp_seq ?_))
 refine zP 8 [.quiet (.int .i64 12), .quiet (.agg (G2 tn (e0 u) (e1 u) (e0 b) (e1 b)).toArray), .quiet (.int .i64 12), .quiet (.int .i64 6), .quiet (PT γ2_6 216), .quiet (V [f 36, f 37, f 38, f 39, f 40, f 41]), .call (V [f 72, f 73, f 74, f 75, f 76, f 77]), .quiet (PT γ2_6 432)] H34 ?ho25 ?he25
 case ho25 => exact ar (bT 1 Tryz.isAgg101 Tryz.sizeOf101 (ar (av (ag (bA 36 6 0 Tryz.isAgg139 Tryz.sizeOf139 (ac (fun w' h => eC call149 (C12.out w' (h.one 4 rfl))) (ag trivial)))))))
 intro _ w35 H35
 clear H34
 refine zF (l := [8]) rfl ?_
 refine sA 0 72 [f 72, f 73, f 74, f 75, f 76, f 77] [(_, cel (tbz2 78 f)), _, _, _, _] H35 o2_6 Tryz.sizeOf139 fun w36 H36 => ?_
 clear H35
 refine zE (zA ?_)
 refine zP 10 [.quiet (.int .i64 12), .quiet (.int .i64 13), .quiet (.agg (G2 tn (e0 u) (e1 u) (e0 b) (e1 b)).toArray), .quiet (.int .i64 12), .quiet (PT γ2_6 432), .quiet (V [f 72, f 73, f 74, f 75, f 76, f 77]), .quiet (PT γ2_6 36), .quiet (V [f 6, f 7, f 8, f 9, f 10, f 11]), .call (V [f 78, f 79, f 80, f 81, f 82, f 83]), .quiet (PT γ2_6 468)] H36 ?ho26 ?he26
 case ho26 => exact ar (av (bT 1 Tryz.isAgg101 Tryz.sizeOf101 (ar (ag (bA 72 6 0 Tryz.isAgg139 Tryz.sizeOf139 (ag (bA 6 6 0 Tryz.isAgg139 Tryz.sizeOf139 (ac (fun w' h => eC call114 (C13.out w' (h.one 4 rfl))) (ag trivial)))))))))
 intro _ w37 H37
 clear H36
 refine zF (l := [10]) rfl ?_
 refine sA 0 78 [f 78, f 79, f 80, f 81, f 82, f 83] [(_, cel (tbz2 84 f)), _, _, _, _] H37 o2_6 Tryz.sizeOf139 fun w38 H38 => ?_
 clear H37
 refine zE (zH (zA ?_))
 refine zB 2 [.quiet (.int .i64 12), .quiet (.int .i64 14)] H38 ?ho27 ?he27
 case ho27 => exact ar (av trivial)
 intro _ w39 H39
 clear H38
 refine zF (l := [2]) rfl ?_
 refine zG (d := 6) rfl rfl rfl rfl ?_
 simp only [Act.put, sa, sz, ss]
 refine zE (zA ?_)
 refine zK (n := 1) ?_
 refine wp_seq (wp_seq ?_)
 refine zB 2 [.quiet (.int .i64 14), .quiet (.bool true)] H39 ?ho28 ?he28
 case ho28 => exact ar (ag trivial)
 intro _ w40 H40
 clear H39
 refine rN (wp_cond_true rfl ?_)
 refine wp_skip (zA ?_)
 refine wp_seq (wp_block (wp_seq ?_))
 refine zP 8 [.quiet (.int .i64 14), .quiet (.agg (G2 tn (e0 u) (e1 u) (e0 b) (e1 b)).toArray), .quiet (.int .i64 14), .quiet (.int .i64 7), .quiet (PT γ2_6 252), .quiet (V [f 42, f 43, f 44, f 45, f 46, f 47]), .call (V [f 84, f 85, f 86, f 87, f 88, f 89]), .quiet (PT γ2_6 504)] H40 ?ho29 ?he29
 case ho29 => exact ar (bT 1 Tryz.isAgg101 Tryz.sizeOf101 (ar (av (ag (bA 42 6 0 Tryz.isAgg139 Tryz.sizeOf139 (ac (fun w' h => eC call149 (C14.out w' (h.one 4 rfl))) (ag trivial)))))))
 intro _ w41 H41
 clear H40
 refine zF (l := [8]) rfl ?_
 refine sA 0 84 [f 84, f 85, f 86, f 87, f 88, f 89] [(_, cel (tbz2 90 f)), _, _, _, _] H41 o2_6 Tryz.sizeOf139 fun w42 H42 => ?_
 clear H41
 refine zE (zA ?_)
 refine zP 10 [.quiet (.int .i64 14), .quiet (.int .i64 15), .quiet (.agg (G2 tn (e0 u) (e1 u) (e0 b) (e1 b)).toArray), .quiet (.int .i64 14), .quiet (PT γ2_6 504), .quiet (V [f 84, f 85, f 86, f 87, f 88, f 89]), .quiet (PT γ2_6 36), .quiet (V [f 6, f 7, f 8, f 9, f 10, f 11]), .call (V [f 90, f 91, f 92, f 93, f 94, f 95]), .quiet (PT γ2_6 540)] H42 ?ho30 ?he30
 case ho30 => exact ar (av (bT 1 Tryz.isAgg101 Tryz.sizeOf101 (ar (ag (bA 84 6 0 Tryz.isAgg139 Tryz.sizeOf139 (ag (bA 6 6 0 Tryz.isAgg139 Tryz.sizeOf139 (ac (fun w' h => eC call114 (C15.out w' (h.one 4 rfl))) (ag trivial)))))))))
 intro _ w43 H43
 clear H42
 refine zF (l := [10]) rfl ?_
 refine sA 0 90 [f 90, f 91, f 92, f 93, f 94, f 95] [(_, cel (tb2 f)), _, _, _, _] H43 o2_6 Tryz.sizeOf139 fun w44 H44 => ?_
 clear H43
 refine zE (zH (zA ?_))
 refine zB 2 [.quiet (.int .i64 14), .quiet (.int .i64 16)] H44 ?ho31 ?he31
 case ho31 => exact ar (av trivial)
 intro _ w45 H45
 clear H44
 refine zF (l := [2]) rfl ?_
 refine zG (d := 6) rfl rfl rfl rfl ?_
 simp only [Act.put, sa, sz, ss]
 refine zE (zA ?_)
 refine zK (n := 0) ?_
 refine wp_seq (wp_seq ?_)
 refine zB 2 [.quiet (.int .i64 16), .quiet (.bool false)] H45 ?ho32 ?he32
 case ho32 => exact ar (ag trivial)
 intro _ w46 H46
 clear H45
 refine rN (wp_cond_false rfl ?_)
 refine wp_exit ?_
 repeat refine zY ?_
 refine zT ?_
 refine zA (wp_seq ?_)
 refine zB 1 [.quiet (V (tb2 f))] H46 ?ho33 ?he33
 case ho33 => exact bA 0 96 0 Tryz.isAgg178 Tryz.sizeOf178 trivial
 intro _ w47 H47
 clear H46
 refine zF (l := [1]) rfl ?_
 refine sA 3 0 [f 0, f 1, f 2, f 3, f 4, f 5, f 6, f 7, f 8, f 9, f 10, f 11, f 12, f 13, f 14, f 15, f 16, f 17, f 18, f 19, f 20, f 21, f 22, f 23, f 24, f 25, f 26, f 27, f 28, f 29, f 30, f 31, f 32, f 33, f 34, f 35, f 36, f 37, f 38, f 39, f 40, f 41, f 42, f 43, f 44, f 45, f 46, f 47, f 48, f 49, f 50, f 51, f 52, f 53, f 54, f 55, f 56, f 57, f 58, f 59, f 60, f 61, f 62, f 63, f 64, f 65, f 66, f 67, f 68, f 69, f 70, f 71, f 72, f 73, f 74, f 75, f 76, f 77, f 78, f 79, f 80, f 81, f 82, f 83, f 84, f 85, f 86, f 87, f 88, f 89, f 90, f 91, f 92, f 93, f 94, f 95] [_, _, _, (_, cel (tb2 f)), _] H47 o1_2 Tryz.sizeOf178 fun w48 H48 => ?_
 clear H47
 refine zE (zA (wp_ret ?_))
 repeat (first | refine zM ?_ | refine zI ?_)
 have hf0 := cel_var (k := 96) H48.out.1 3 rfl Tryz.isAgg178 Tryz.sizeOf178 rfl
 refine bodyPost_ret (v := V (tb2 f)) (by simp [results, Tryz.results154, asAddr, hf0]) rfl ?_
 exact ⟨rfl, H48.out.2⟩
set_option maxHeartbeats 8000000 in
theorem byRow_2 {α : Type} {e0 e1 : α → Nat} {fa fs fm : α → α → α} {fi : α → α} {z u b : α} {tn : Value} (_C : Fd2 e0 e1 fa fs fm fi z) (f : Nat → Nat) (tw : EC.Tri α → EC.Tri α) (tg : EC.Tri α → Nat → EC.Tri α) (A : Nat → EC.Tri α) (wo : Nat → Int) (dg : Nat → Nat) (gt gr : Nat)
  (ctw : ∀ T w, Mm w [(0, dtab)] → Calls Tryz.prog 149 #[.agg (G2 tn (e0 u) (e1 u) (e0 b) (e1 b)).toArray, V [e0 T.1, e1 T.1, e0 T.2.1, e1 T.2.1, e0 T.2.2, e1 T.2.2]] w (Rt w (V [e0 ((tw T).1), e1 ((tw T).1), e0 ((tw T).2.1), e1 ((tw T).2.1), e0 ((tw T).2.2), e1 ((tw T).2.2)])))
  (ctg : ∀ T d, d < 16 → ∀ w, Mm w [(0, dtab)] → Calls Tryz.prog 114 #[.agg (G2 tn (e0 u) (e1 u) (e0 b) (e1 b)).toArray, V [e0 T.1, e1 T.1, e0 T.2.1, e1 T.2.1, e0 T.2.2, e1 T.2.2], V [f (6 * d), f (6 * d + 1), f (6 * d + 2), f (6 * d + 3), f (6 * d + 4), f (6 * d + 5)]] w (Rt w (V [e0 ((tg T d).1), e1 ((tg T d).1), e0 ((tg T d).2.1), e1 ((tg T d).2.1), e0 ((tg T d).2.2), e1 ((tg T d).2.2)])))
  (hd : ∀ k, wo k / 2 ^ 60 = ((dg k : Nat) : Int)) (hdl : ∀ k, dg k < 16) (hw : ∀ k, IntKind.u64.wrap (wo k * 2 ^ 4) = wo (k + 1))
  (ha0 : ∀ k, dg k = 0 → tw (tw (tw (tw (A k)))) = A (k + 1)) (ha1 : ∀ k, 0 < dg k → tg (tw (tw (tw (tw (A k))))) (dg k) = A (k + 1)) (w : World) (hm : Mm w [(0, dtab), (gt, cel (tb2 f)), (gr, [Value.int .u64 (wo 0)])]) :
  Calls Tryz.prog 155 #[.agg (G2 tn (e0 u) (e1 u) (e0 b) (e1 b)).toArray, V [e0 ((A 0).1), e1 ((A 0).1), e0 ((A 0).2.1), e1 ((A 0).2.1), e0 ((A 0).2.2), e1 ((A 0).2.2)], .slice (some ⟨gt, 0, none⟩) 1 1, .slice (some ⟨gr, 0, none⟩) 1 1] w fun e w' => e = .returned (V [e0 ((A 16).1), e1 ((A 16).1), e0 ((A 16).2.1), e1 ((A 16).2.1), e0 ((A 16).2.2), e1 ((A 16).2.2)]) ∧ Mm w' [(gr, [Value.int .u64 (wo 16)])] ∧ Kp gr w w' := by
 have H0 : Hid (_ ∧ _) := ⟨hm, Kp.refl gr w⟩
 clear hm
 have CTW : Hid _ := ctw
 clear ctw
 have CTG : Hid _ := ctg
 clear ctg
 have HD : Hid _ := hd
 clear hd
 have HDL : Hid _ := hdl
 clear hdl
 have HW : Hid _ := hw
 clear hw
 have HA0 : Hid _ := ha0
 clear ha0
 have HA1 : Hid _ := ha1
 clear ha1
 go_enter Tryz.func155, Tryz.ntmps155
 refine wp_seq ?_
 refine zC 3 [.made (G2 tn (e0 u) (e1 u) (e0 b) (e1 b)) 101, .made (cel [e0 ((A 0).1), e1 ((A 0).1), e0 ((A 0).2.1), e1 ((A 0).2.1), e0 ((A 0).2.2), e1 ((A 0).2.2)]) 139, .made (cel [0, 0, 0, 0, 0, 0]) 139] (sB H0) ?ho1 ?he1
 case ho1 => exact am (zW rfl rfl) (am (ex_boxA rfl rfl) (am (ex_madeTE rfl) trivial))
 intro γ w1 l hM hl
 have H1 : Hid (Mm w1 ([(γ 0, G2 tn (e0 u) (e1 u) (e0 b) (e1 b)), (γ 1, cel [e0 ((A 0).1), e1 ((A 0).1), e0 ((A 0).2.1), e1 ((A 0).2.1), e0 ((A 0).2.2), e1 ((A 0).2.2)]), (γ 2, cel [0, 0, 0, 0, 0, 0])] ++ _) ∧ _) := wK H0 hM hl [0, 1, 2]
 have o1_0 := vK H0 hM hl 0
 have o1_1 := vK H0 hM hl 1
 have o1_2 := vK H0 hM hl 2
 clear hM hl l
 generalize γ 0 = γ1_0 at H1 o1_0 ⊢
 generalize γ 1 = γ1_1 at H1 o1_1 ⊢
 generalize γ 2 = γ1_2 at H1 o1_2 ⊢
 clear γ
 refine rN (wp_seq (wp_seq ?_))
 refine zC 1 [.quiet (.int .i64 0)] (sB H1) ?ho2 ?he2
 case ho2 => exact ar trivial
 intro γ w2 l hM hl
 have H2 := zQ H1 hM.below
 clear hM hl l H1 γ
 refine rN (wp_block ?_)
 refine loop_ghost (α := Nat) (fun k a' w' => ∃ s0 : Nat → Value, a' = ⟨#[.agg (G2 tn (e0 u) (e1 u) (e0 b) (e1 b)).toArray, V [e0 ((A 0).1), e1 ((A 0).1), e0 ((A 0).2.1), e1 ((A 0).2.1), e0 ((A 0).2.2), e1 ((A 0).2.2)], .slice (some ⟨gt, 0, none⟩) 1 1, .slice (some ⟨gr, 0, none⟩) 1 1, PT γ1_0 0, PT γ1_1 0, ud, ud, PT γ1_2 0, s0 9, s0 10, s0 11, .int .i64 ((k : Nat) : Int), s0 13, s0 14, s0 15, s0 16, s0 17, s0 18, s0 19, s0 20, s0 21, s0 22, s0 23, s0 24, s0 25, s0 26, s0 27, s0 28, s0 29, s0 30, s0 31, s0 32, s0 33, s0 34, s0 35, s0 36, s0 37, s0 38, s0 39, s0 40, s0 41, s0 42, s0 43, s0 44, s0 45, s0 46, ud], []⟩ ∧ (Mm w' [(γ1_0, G2 tn (e0 u) (e1 u) (e0 b) (e1 b)), (γ1_1, cel [e0 ((A k).1), e1 ((A k).1), e0 ((A k).2.1), e1 ((A k).2.1), e0 ((A k).2.2), e1 ((A k).2.2)]), (γ1_2, cel [0, 0, 0, 0, 0, 0]), (0, dtab), (gt, cel (tb2 f)), (gr, [Value.int .u64 (wo k)])] ∧ Kp gr w w') ∧ k ≤ 16) (fun k => 16 - k) 0 ?st0 ?rd0
 case st0 => exact ⟨(slotfn [ud, ud, ud, ud, ud, ud, ud, ud, ud, ud, ud, ud, ud, ud, ud, ud, ud, ud, ud, ud, ud, ud, ud, ud, ud, ud, ud, ud, ud, ud, ud, ud, ud, ud, ud, ud, ud, ud, ud, ud, ud, ud, ud, ud, ud, ud, ud]), rfl, ⟨H2.out.1, H2.out.2⟩, by omega⟩
 intro k a' w3 hI
 obtain ⟨s0, rfl, hMB, hk0⟩ := hI
 have H3 : Hid (_ ∧ _) := hMB
 clear hMB H2
 by_cases hlt0 : k < 16
 ·have hrd : True := trivial
  clear hrd
  by_cases hdz : dg k = 0
  ·have hrd : True := trivial
   clear hrd
   have hlt : k < 16 := by omega
   refine wp_seq ?_
   refine zC 1 [.quiet (.bool true)] (sB H3) ?ho3 ?he3
   case ho3 => exact ak (by refine fun γ => ⟨rfl, fun w' h => ?_⟩; clear h; go_simp <;> omega) trivial
   intro γ w4 l hM hl
   have H4 := zQ H3 hM.below
   clear hM hl l H3 γ
   refine rN (wp_seq ?_)
   refine wp_cond_true rfl (wp_skip ?_)
   refine zA (wp_seq ?_)
   refine wp_block (wp_seq (wp_seq ?_))
   refine zC 1 [.quiet (.int .i64 0)] (sB H4) ?ho4 ?he4
   case ho4 => exact ar trivial
   intro γ w5 l hM hl
   have H5 := zQ H4 hM.below
   clear hM hl l H4 γ
   refine rN (wp_block ?_)
   refine wp_loop_rounds 5 ?_
   refine zK (n := 4) ?_
   refine wp_seq ?_
   refine zC 1 [.quiet (.bool true)] (sB H5) ?ho5 ?he5
   case ho5 => exact ag trivial
   intro γ w6 l hM hl
   have H6 := zQ H5 hM.below
   clear hM hl l H5 γ
   refine rN (wp_seq ?_)
   refine wp_cond_true rfl (wp_skip ?_)
   refine zA (wp_seq (wp_block ?_))
   refine zC 3 [.quiet (.agg (G2 tn (e0 u) (e1 u) (e0 b) (e1 b)).toArray), .quiet (V [e0 ((A k).1), e1 ((A k).1), e0 ((A k).2.1), e1 ((A k).2.1), e0 ((A k).2.2), e1 ((A k).2.2)]), .call (V [e0 ((tw (A k)).1), e1 ((tw (A k)).1), e0 ((tw (A k)).2.1), e1 ((tw (A k)).2.1), e0 ((tw (A k)).2.2), e1 ((tw (A k)).2.2)])] (sB H6) ?ho6 ?he6
   case ho6 => exact bT 0 Tryz.isAgg101 Tryz.sizeOf101 (bA 0 6 1 Tryz.isAgg139 Tryz.sizeOf139 (ac (fun w' h => eC call149 (CTW.out (A k) w' (h.one 3 rfl))) trivial))
   intro γ w7 l hM hl
   have H7 := zQ H6 hM.below
   clear hM hl l H6 γ
   refine zF (l := [3]) rfl ?_
   refine sL 1 [e0 ((tw (A k)).1), e1 ((tw (A k)).1), e0 ((tw (A k)).2.1), e1 ((tw (A k)).2.1), e0 ((tw (A k)).2.2), e1 ((tw (A k)).2.2)] [_, _, _, _, _, _] H7 o1_1 Tryz.sizeOf139 fun w8 H8 => ?_
   clear H7
   refine zE (zH (zA ?_))
   refine zC 1 [.quiet (.int .i64 1)] (sB H8) ?ho7 ?he7
   case ho7 => exact av trivial
   intro γ w9 l hM hl
   have H9 := zQ H8 hM.below
   clear hM hl l H8 γ
   refine zF (l := [1]) rfl ?_
   refine zG (d := 14) rfl rfl rfl rfl ?_
   simp only [Act.put, sa, sz, ss]
   refine zE (zA ?_)
   refine zK (n := 3) ?_
   refine wp_seq ?_
   refine zC 1 [.quiet (.bool true)] (sB H9) ?ho8 ?he8
   case ho8 => exact ag trivial
   intro γ w10 l hM hl
   have H10 := zQ H9 hM.below
   clear hM hl l H9 γ
   refine rN (wp_seq ?_)
   refine wp_cond_true rfl (wp_skip ?_)
   refine zA (wp_seq (wp_block ?_))
   refine zC 3 [.quiet (.agg (G2 tn (e0 u) (e1 u) (e0 b) (e1 b)).toArray), .quiet (V [e0 ((tw (A k)).1), e1 ((tw (A k)).1), e0 ((tw (A k)).2.1), e1 ((tw (A k)).2.1), e0 ((tw (A k)).2.2), e1 ((tw (A k)).2.2)]), .call (V [e0 ((tw (tw (A k))).1), e1 ((tw (tw (A k))).1), e0 ((tw (tw (A k))).2.1), e1 ((tw (tw (A k))).2.1), e0 ((tw (tw (A k))).2.2), e1 ((tw (tw (A k))).2.2)])] (sB H10) ?ho9 ?he9
   case ho9 => exact bT 0 Tryz.isAgg101 Tryz.sizeOf101 (bA 0 6 1 Tryz.isAgg139 Tryz.sizeOf139 (ac (fun w' h => eC call149 (CTW.out (tw (A k)) w' (h.one 3 rfl))) trivial))
   intro γ w11 l hM hl
   have H11 := zQ H10 hM.below
   clear hM hl l H10 γ
   refine zF (l := [3]) rfl ?_
   refine sL 1 [e0 ((tw (tw (A k))).1), e1 ((tw (tw (A k))).1), e0 ((tw (tw (A k))).2.1), e1 ((tw (tw (A k))).2.1), e0 ((tw (tw (A k))).2.2), e1 ((tw (tw (A k))).2.2)] [_, _, _, _, _, _] H11 o1_1 Tryz.sizeOf139 fun w12 H12 => ?_
   clear H11
   refine zE (zH (zA ?_))
   refine zC 1 [.quiet (.int .i64 2)] (sB H12) ?ho10 ?he10
   case ho10 => exact av trivial
   intro γ w13 l hM hl
   have H13 := zQ H12 hM.below
   clear hM hl l H12 γ
   refine zF (l := [1]) rfl ?_
   refine zG (d := 14) rfl rfl rfl rfl ?_
   simp only [Act.put, sa, sz, ss]
   refine zE (zA ?_)
   refine zK (n := 2) ?_
   refine wp_seq ?_
   refine zC 1 [.quiet (.bool true)] (sB H13) ?ho11 ?he11
   case ho11 => exact ag trivial
   intro γ w14 l hM hl
   have H14 := zQ H13 hM.below
   clear hM hl l H13 γ
   refine rN (wp_seq ?_)
   refine wp_cond_true rfl (wp_skip ?_)
   refine zA (wp_seq (wp_block ?_))
   refine zC 3 [.quiet (.agg (G2 tn (e0 u) (e1 u) (e0 b) (e1 b)).toArray), .quiet (V [e0 ((tw (tw (A k))).1), e1 ((tw (tw (A k))).1), e0 ((tw (tw (A k))).2.1), e1 ((tw (tw (A k))).2.1), e0 ((tw (tw (A k))).2.2), e1 ((tw (tw (A k))).2.2)]), .call (V [e0 ((tw (tw (tw (A k)))).1), e1 ((tw (tw (tw (A k)))).1), e0 ((tw (tw (tw (A k)))).2.1), e1 ((tw (tw (tw (A k)))).2.1), e0 ((tw (tw (tw (A k)))).2.2), e1 ((tw (tw (tw (A k)))).2.2)])] (sB H14) ?ho12 ?he12
   case ho12 => exact bT 0 Tryz.isAgg101 Tryz.sizeOf101 (bA 0 6 1 Tryz.isAgg139 Tryz.sizeOf139 (ac (fun w' h => eC call149 (CTW.out (tw (tw (A k))) w' (h.one 3 rfl))) trivial))
   intro γ w15 l hM hl
   have H15 := zQ H14 hM.below
   clear hM hl l H14 γ
   refine zF (l := [3]) rfl ?_
   refine sL 1 [e0 ((tw (tw (tw (A k)))).1), e1 ((tw (tw (tw (A k)))).1), e0 ((tw (tw (tw (A k)))).2.1), e1 ((tw (tw (tw (A k)))).2.1), e0 ((tw (tw (tw (A k)))).2.2), e1 ((tw (tw (tw (A k)))).2.2)] [_, _, _, _, _, _] H15 o1_1 Tryz.sizeOf139 fun w16 H16 => ?_
   clear H15
   refine zE (zH (zA ?_))
   refine zC 1 [.quiet (.int .i64 3)] (sB H16) ?ho13 ?he13
   case ho13 => exact av trivial
   intro γ w17 l hM hl
   have H17 := zQ H16 hM.below
   clear hM hl l H16 γ
   refine zF (l := [1]) rfl ?_
   refine zG (d := 14) rfl rfl rfl rfl ?_
   simp only [Act.put, sa, sz, ss]
   refine zE (zA ?_)
   refine zK (n := 1) ?_
   refine wp_seq ?_
   refine zC 1 [.quiet (.bool true)] (sB H17) ?ho14 ?he14
   case ho14 => exact ag trivial
   intro γ w18 l hM hl
   have H18 := zQ H17 hM.below
   clear hM hl l H17 γ
   refine rN (wp_seq ?_)
   refine wp_cond_true rfl (wp_skip ?_)
   refine zA (wp_seq (wp_block ?_))
   refine zC 3 [.quiet (.agg (G2 tn (e0 u) (e1 u) (e0 b) (e1 b)).toArray), .quiet (V [e0 ((tw (tw (tw (A k)))).1), e1 ((tw (tw (tw (A k)))).1), e0 ((tw (tw (tw (A k)))).2.1), e1 ((tw (tw (tw (A k)))).2.1), e0 ((tw (tw (tw (A k)))).2.2), e1 ((tw (tw (tw (A k)))).2.2)]), .call (V [e0 ((tw (tw (tw (tw (A k))))).1), e1 ((tw (tw (tw (tw (A k))))).1), e0 ((tw (tw (tw (tw (A k))))).2.1), e1 ((tw (tw (tw (tw (A k))))).2.1), e0 ((tw (tw (tw (tw (A k))))).2.2), e1 ((tw (tw (tw (tw (A k))))).2.2)])] (sB H18) ?ho15 ?he15
   case ho15 => exact bT 0 Tryz.isAgg101 Tryz.sizeOf101 (bA 0 6 1 Tryz.isAgg139 Tryz.sizeOf139 (ac (fun w' h => eC call149 (CTW.out (tw (tw (tw (A k)))) w' (h.one 3 rfl))) trivial))
   intro γ w19 l hM hl
   have H19 := zQ H18 hM.below
   clear hM hl l H18 γ
   refine zF (l := [3]) rfl ?_
   refine sL 1 [e0 ((tw (tw (tw (tw (A k))))).1), e1 ((tw (tw (tw (tw (A k))))).1), e0 ((tw (tw (tw (tw (A k))))).2.1), e1 ((tw (tw (tw (tw (A k))))).2.1), e0 ((tw (tw (tw (tw (A k))))).2.2), e1 ((tw (tw (tw (tw (A k))))).2.2)] [_, _, _, _, _, _] H19 o1_1 Tryz.sizeOf139 fun w20 H20 => ?_
   clear H19
   refine zE (zH (zA ?_))
   refine zC 1 [.quiet (.int .i64 4)] (sB H20) ?ho16 ?he16
   case ho16 => exact av trivial
   intro γ w21 l hM hl
   have H21 := zQ H20 hM.below
   clear hM hl l H20 γ
   refine zF (l := [1]) rfl ?_
   refine zG (d := 14) rfl rfl rfl rfl ?_
   simp only [Act.put, sa, sz, ss]
   refine zE (zA ?_)
   refine zK (n := 0) ?_
   refine wp_seq ?_
   refine zC 1 [.quiet (.bool false)] (sB H21) ?ho17 ?he17
   case ho17 => exact ag trivial
   intro γ w22 l hM hl
   have H22 := zQ H21 hM.below
   clear hM hl l H21 γ
   refine rN (wp_seq (wp_cond_false rfl ?_))
   refine wp_exit ?_
   repeat refine zY ?_
   refine zT ?_
   refine zA (wp_seq ?_)
   refine zC 3 [.quiet (.slice (some ⟨gr, 0, none⟩) 1 1), .quiet (.int .i64 1), .quiet (.int .i64 0)] (sB H22) ?ho18 ?he18
   case ho18 => exact ar (ag (ar trivial))
   intro γ w23 l hM hl
   have H23 := zQ H22 hM.below
   clear hM hl l H22 γ
   refine rN (wp_block ?_)
   refine wp_loop_rounds 2 ?_
   refine zK (n := 1) ?_
   refine wp_seq ?_
   refine zC 1 [.quiet (.bool true)] (sB H23) ?ho19 ?he19
   case ho19 => exact ag trivial
   intro γ w24 l hM hl
   have H24 := zQ H23 hM.below
   clear hM hl l H23 γ
   refine rN (wp_seq ?_)
   refine wp_cond_true rfl (wp_skip ?_)
   refine zA (wp_seq ?_)
   refine wp_block (wp_seq ?_)
   refine zC 5 [.quiet (.int .i64 0), .quiet (PT gr 0), .quiet (.int .u64 (wo k)), .quiet (.int .i64 0), .quiet (.int .u64 (wo k))] (sB H24) ?ho20 ?he20
   case ho20 => exact ar (ag (bC 5 Tryz.isAgg22 (ar (ar trivial))))
   intro γ w25 l hM hl
   have H25 := zQ H24 hM.below
   clear hM hl l H24 γ
   refine rN (wp_seq (wp_seq ?_))
   refine zC 3 [.quiet (.int .u64 (wo k)), .quiet (.int .u64 ((dg k : Nat) : Int)), .quiet (.int .u64 ((dg k : Nat) : Int))] (sB H25) ?ho21 ?he21
   case ho21 => exact ar (ak (fun γ => ⟨rfl, fun w' _ => by rw [← HD.out k]; exact ex_shr60 rfl rfl rfl⟩) (ar trivial))
   intro γ w26 l hM hl
   have H26 := zQ H25 hM.below
   clear hM hl l H25 γ
   refine rN (wp_seq ?_)
   refine zC 2 [.quiet (.int .u64 ((dg k : Nat) : Int)), .quiet (.bool false)] (sB H26) ?ho22 ?he22
   case ho22 => exact ar (ak (by refine fun γ => ⟨rfl, fun w' h => ?_⟩; clear h; go_simp <;> omega) trivial)
   intro γ w27 l hM hl
   have H27 := zQ H26 hM.below
   clear hM hl l H26 γ
   refine rN (wp_cond_false rfl ?_)
   refine wp_skip (zA ?_)
   refine zC 5 [.quiet (.slice (some ⟨gr, 0, none⟩) 1 1), .quiet (.int .i64 0), .quiet (.int .u64 (wo k)), .quiet (.int .u64 (IntKind.u64.wrap (wo k * 2 ^ 4))), .quiet (PT gr 0)] (sB H27) ?ho23 ?he23
   case ho23 => exact ar (ar (ar (ak (fun γ => ⟨rfl, fun w' _ => ex_shl4 rfl rfl rfl⟩) (ag trivial))))
   intro γ w28 l hM hl
   have H28 := zQ H27 hM.below
   clear hM hl l H27 γ
   refine zF (l := [5]) rfl ?_
   refine sH rfl (fun h => ex_storeI h 5 rfl rfl Tryz.sizeOf22 rfl rfl (Nat.le_of_ble_eq_true rfl)) 5 [_, _, _, _, _, (_, [Value.int .u64 (IntKind.u64.wrap (wo k * 2 ^ 4))])] H28 (Or.inl rfl) fun w29 H29 => ?_
   clear H28
   refine zE (zH (zA ?_))
   refine zC 1 [.quiet (.int .i64 1)] (sB H29) ?ho24 ?he24
   case ho24 => exact av trivial
   intro γ w30 l hM hl
   have H30 := zQ H29 hM.below
   clear hM hl l H29 γ
   refine zF (l := [1]) rfl ?_
   refine zG (d := 22) rfl rfl rfl rfl ?_
   simp only [Act.put, sa, sz, ss]
   refine zE (zA ?_)
   refine zK (n := 0) ?_
   refine wp_seq ?_
   refine zC 1 [.quiet (.bool false)] (sB H30) ?ho25 ?he25
   case ho25 => exact ag trivial
   intro γ w31 l hM hl
   have H31 := zQ H30 hM.below
   clear hM hl l H30 γ
   refine rN (wp_seq (wp_cond_false rfl ?_))
   refine wp_exit ?_
   repeat refine zY ?_
   refine zT ?_
   refine zH (zA ?_)
   refine zC 1 [.quiet (.int .i64 ((k + 1 : Nat) : Int))] (sB H31) ?ho26 ?he26
   case ho26 => exact ak (by refine fun γ => ⟨rfl, fun w' h => ?_⟩; clear h; go_simp; rw [IntKind.wrap_i64]; omega) trivial
   intro γ w32 l hM hl
   have H32 := zQ H31 hM.below
   clear hM hl l H31 γ
   refine zF (l := [1]) rfl ?_
   refine zG (d := 12) rfl rfl rfl rfl ?_
   simp only [Act.put, sa, sz, ss]
   refine zE (zA ?_)
   exact ⟨k + 1, ⟨(slotfn [ud, ud, ud, ud, ud, ud, ud, ud, ud, .int .i64 0, .int .u64 (wo k), .int .u64 ((dg k : Nat) : Int), ud, .bool true, .int .i64 4, .bool false, .agg (G2 tn (e0 u) (e1 u) (e0 b) (e1 b)).toArray, V [e0 ((tw (tw (tw (A k)))).1), e1 ((tw (tw (tw (A k)))).1), e0 ((tw (tw (tw (A k)))).2.1), e1 ((tw (tw (tw (A k)))).2.1), e0 ((tw (tw (tw (A k)))).2.2), e1 ((tw (tw (tw (A k)))).2.2)], V [e0 ((tw (tw (tw (tw (A k))))).1), e1 ((tw (tw (tw (tw (A k))))).1), e0 ((tw (tw (tw (tw (A k))))).2.1), e1 ((tw (tw (tw (tw (A k))))).2.1), e0 ((tw (tw (tw (tw (A k))))).2.2), e1 ((tw (tw (tw (tw (A k))))).2.2)], .int .i64 4, .slice (some ⟨gr, 0, none⟩) 1 1, .int .i64 1, .int .i64 1, .bool false, .int .i64 0, PT gr 0, .int .u64 (wo k), .int .u64 (wo k), .int .u64 ((dg k : Nat) : Int), .int .u64 ((dg k : Nat) : Int), .bool false, s0 31, s0 32, s0 33, s0 34, s0 35, s0 36, s0 37, s0 38, s0 39, .slice (some ⟨gr, 0, none⟩) 1 1, .int .i64 0, .int .u64 (wo k), .int .u64 (IntKind.u64.wrap (wo k * 2 ^ 4)), PT gr 0, .int .i64 1, .int .i64 ((k + 1 : Nat) : Int)]), rfl, ⟨(H32.out.1).atk (by rw [HA0.out k hdz, HW.out]), H32.out.2⟩, by omega⟩, by omega⟩
  ·have hrd : True := trivial
   clear hrd
   have hdz := Nat.pos_of_ne_zero hdz
   have hlt : k < 16 := by omega
   refine wp_seq ?_
   refine zC 1 [.quiet (.bool true)] (sB H3) ?ho27 ?he27
   case ho27 => exact ak (by refine fun γ => ⟨rfl, fun w' h => ?_⟩; clear h; go_simp <;> omega) trivial
   intro γ w33 l hM hl
   have H33 := zQ H3 hM.below
   clear hM hl l H3 γ
   refine rN (wp_seq ?_)
   refine wp_cond_true rfl (wp_skip ?_)
   refine zA (wp_seq ?_)
   refine wp_block (wp_seq (wp_seq ?_))
   refine zC 1 [.quiet (.int .i64 0)] (sB H33) ?ho28 ?he28
   case ho28 => exact ar trivial
   intro γ w34 l hM hl
   have H34 := zQ H33 hM.below
   clear hM hl l H33 γ
   refine rN (wp_block ?_)
   refine wp_loop_rounds 5 ?_
   refine zK (n := 4) ?_
   refine wp_seq ?_
   refine zC 1 [.quiet (.bool true)] (sB H34) ?ho29 ?he29
   case ho29 => exact ag trivial
   intro γ w35 l hM hl
   have H35 := zQ H34 hM.below
   clear hM hl l H34 γ
   refine rN (wp_seq ?_)
   refine wp_cond_true rfl (wp_skip ?_)
   refine zA (wp_seq (wp_block ?_))
   refine zC 3 [.quiet (.agg (G2 tn (e0 u) (e1 u) (e0 b) (e1 b)).toArray), .quiet (V [e0 ((A k).1), e1 ((A k).1), e0 ((A k).2.1), e1 ((A k).2.1), e0 ((A k).2.2), e1 ((A k).2.2)]), .call (V [e0 ((tw (A k)).1), e1 ((tw (A k)).1), e0 ((tw (A k)).2.1), e1 ((tw (A k)).2.1), e0 ((tw (A k)).2.2), e1 ((tw (A k)).2.2)])] (sB H35) ?ho30 ?he30
   case ho30 => exact bT 0 Tryz.isAgg101 Tryz.sizeOf101 (bA 0 6 1 Tryz.isAgg139 Tryz.sizeOf139 (ac (fun w' h => eC call149 (CTW.out (A k) w' (h.one 3 rfl))) trivial))
   intro γ w36 l hM hl
   have H36 := zQ H35 hM.below
   clear hM hl l H35 γ
   refine zF (l := [3]) rfl ?_
   refine sL 1 [e0 ((tw (A k)).1), e1 ((tw (A k)).1), e0 ((tw (A k)).2.1), e1 ((tw (A k)).2.1), e0 ((tw (A k)).2.2), e1 ((tw (A k)).2.2)] [_, _, _, _, _, _] H36 o1_1 Tryz.sizeOf139 fun w37 H37 => ?_
   clear H36
   refine zE (zH (zA ?_))
   refine zC 1 [.quiet (.int .i64 1)] (sB H37) ?ho31 ?he31
   case ho31 => exact av trivial
   intro γ w38 l hM hl
   have H38 := zQ H37 hM.below
   clear hM hl l H37 γ
   refine zF (l := [1]) rfl ?_
   refine zG (d := 14) rfl rfl rfl rfl ?_
   simp only [Act.put, sa, sz, ss]
   refine zE (zA ?_)
   refine zK (n := 3) ?_
   refine wp_seq ?_
   refine zC 1 [.quiet (.bool true)] (sB H38) ?ho32 ?he32
   case ho32 => exact ag trivial
   intro γ w39 l hM hl
   have H39 := zQ H38 hM.below
   clear hM hl l H38 γ
   refine rN (wp_seq ?_)
   refine wp_cond_true rfl (wp_skip ?_)
   refine zA (wp_seq (wp_block ?_))
   refine zC 3 [.quiet (.agg (G2 tn (e0 u) (e1 u) (e0 b) (e1 b)).toArray), .quiet (V [e0 ((tw (A k)).1), e1 ((tw (A k)).1), e0 ((tw (A k)).2.1), e1 ((tw (A k)).2.1), e0 ((tw (A k)).2.2), e1 ((tw (A k)).2.2)]), .call (V [e0 ((tw (tw (A k))).1), e1 ((tw (tw (A k))).1), e0 ((tw (tw (A k))).2.1), e1 ((tw (tw (A k))).2.1), e0 ((tw (tw (A k))).2.2), e1 ((tw (tw (A k))).2.2)])] (sB H39) ?ho33 ?he33
   case ho33 => exact bT 0 Tryz.isAgg101 Tryz.sizeOf101 (bA 0 6 1 Tryz.isAgg139 Tryz.sizeOf139 (ac (fun w' h => eC call149 (CTW.out (tw (A k)) w' (h.one 3 rfl))) trivial))
   intro γ w40 l hM hl
   have H40 := zQ H39 hM.below
   clear hM hl l H39 γ
   refine zF (l := [3]) rfl ?_
   refine sL 1 [e0 ((tw (tw (A k))).1), e1 ((tw (tw (A k))).1), e0 ((tw (tw (A k))).2.1), e1 ((tw (tw (A k))).2.1), e0 ((tw (tw (A k))).2.2), e1 ((tw (tw (A k))).2.2)] [_, _, _, _, _, _] H40 o1_1 Tryz.sizeOf139 fun w41 H41 => ?_
   clear H40
   refine zE (zH (zA ?_))
   refine zC 1 [.quiet (.int .i64 2)] (sB H41) ?ho34 ?he34
   case ho34 => exact av trivial
   intro γ w42 l hM hl
   have H42 := zQ H41 hM.below
   clear hM hl l H41 γ
   refine zF (l := [1]) rfl ?_
   refine zG (d := 14) rfl rfl rfl rfl ?_
   simp only [Act.put, sa, sz, ss]
   refine zE (zA ?_)
   refine zK (n := 2) ?_
   refine wp_seq ?_
   refine zC 1 [.quiet (.bool true)] (sB H42) ?ho35 ?he35
   case ho35 => exact ag trivial
   intro γ w43 l hM hl
   have H43 := zQ H42 hM.below
   clear hM hl l H42 γ
   refine rN (wp_seq ?_)
   refine wp_cond_true rfl (wp_skip ?_)
   refine zA (wp_seq (wp_block ?_))
   refine zC 3 [.quiet (.agg (G2 tn (e0 u) (e1 u) (e0 b) (e1 b)).toArray), .quiet (V [e0 ((tw (tw (A k))).1), e1 ((tw (tw (A k))).1), e0 ((tw (tw (A k))).2.1), e1 ((tw (tw (A k))).2.1), e0 ((tw (tw (A k))).2.2), e1 ((tw (tw (A k))).2.2)]), .call (V [e0 ((tw (tw (tw (A k)))).1), e1 ((tw (tw (tw (A k)))).1), e0 ((tw (tw (tw (A k)))).2.1), e1 ((tw (tw (tw (A k)))).2.1), e0 ((tw (tw (tw (A k)))).2.2), e1 ((tw (tw (tw (A k)))).2.2)])] (sB H43) ?ho36 ?he36
   case ho36 => exact bT 0 Tryz.isAgg101 Tryz.sizeOf101 (bA 0 6 1 Tryz.isAgg139 Tryz.sizeOf139 (ac (fun w' h => eC call149 (CTW.out (tw (tw (A k))) w' (h.one 3 rfl))) trivial))
   intro γ w44 l hM hl
   have H44 := zQ H43 hM.below
   clear hM hl l H43 γ
   refine zF (l := [3]) rfl ?_
   refine sL 1 [e0 ((tw (tw (tw (A k)))).1), e1 ((tw (tw (tw (A k)))).1), e0 ((tw (tw (tw (A k)))).2.1), e1 ((tw (tw (tw (A k)))).2.1), e0 ((tw (tw (tw (A k)))).2.2), e1 ((tw (tw (tw (A k)))).2.2)] [_, _, _, _, _, _] H44 o1_1 Tryz.sizeOf139 fun w45 H45 => ?_
   clear H44
   refine zE (zH (zA ?_))
   refine zC 1 [.quiet (.int .i64 3)] (sB H45) ?ho37 ?he37
   case ho37 => exact av trivial
   intro γ w46 l hM hl
   have H46 := zQ H45 hM.below
   clear hM hl l H45 γ
   refine zF (l := [1]) rfl ?_
   refine zG (d := 14) rfl rfl rfl rfl ?_
   simp only [Act.put, sa, sz, ss]
   refine zE (zA ?_)
   refine zK (n := 1) ?_
   refine wp_seq ?_
   refine zC 1 [.quiet (.bool true)] (sB H46) ?ho38 ?he38
   case ho38 => exact ag trivial
   intro γ w47 l hM hl
   have H47 := zQ H46 hM.below
   clear hM hl l H46 γ
   refine rN (wp_seq ?_)
   refine wp_cond_true rfl (wp_skip ?_)
   refine zA (wp_seq (wp_block ?_))
   refine zC 3 [.quiet (.agg (G2 tn (e0 u) (e1 u) (e0 b) (e1 b)).toArray), .quiet (V [e0 ((tw (tw (tw (A k)))).1), e1 ((tw (tw (tw (A k)))).1), e0 ((tw (tw (tw (A k)))).2.1), e1 ((tw (tw (tw (A k)))).2.1), e0 ((tw (tw (tw (A k)))).2.2), e1 ((tw (tw (tw (A k)))).2.2)]), .call (V [e0 ((tw (tw (tw (tw (A k))))).1), e1 ((tw (tw (tw (tw (A k))))).1), e0 ((tw (tw (tw (tw (A k))))).2.1), e1 ((tw (tw (tw (tw (A k))))).2.1), e0 ((tw (tw (tw (tw (A k))))).2.2), e1 ((tw (tw (tw (tw (A k))))).2.2)])] (sB H47) ?ho39 ?he39
   case ho39 => exact bT 0 Tryz.isAgg101 Tryz.sizeOf101 (bA 0 6 1 Tryz.isAgg139 Tryz.sizeOf139 (ac (fun w' h => eC call149 (CTW.out (tw (tw (tw (A k)))) w' (h.one 3 rfl))) trivial))
   intro γ w48 l hM hl
   have H48 := zQ H47 hM.below
   clear hM hl l H47 γ
   refine zF (l := [3]) rfl ?_
   refine sL 1 [e0 ((tw (tw (tw (tw (A k))))).1), e1 ((tw (tw (tw (tw (A k))))).1), e0 ((tw (tw (tw (tw (A k))))).2.1), e1 ((tw (tw (tw (tw (A k))))).2.1), e0 ((tw (tw (tw (tw (A k))))).2.2), e1 ((tw (tw (tw (tw (A k))))).2.2)] [_, _, _, _, _, _] H48 o1_1 Tryz.sizeOf139 fun w49 H49 => ?_
   clear H48
   refine zE (zH (zA ?_))
   refine zC 1 [.quiet (.int .i64 4)] (sB H49) ?ho40 ?he40
   case ho40 => exact av trivial
   intro γ w50 l hM hl
   have H50 := zQ H49 hM.below
   clear hM hl l H49 γ
   refine zF (l := [1]) rfl ?_
   refine zG (d := 14) rfl rfl rfl rfl ?_
   simp only [Act.put, sa, sz, ss]
   refine zE (zA ?_)
   refine zK (n := 0) ?_
   refine wp_seq ?_
   refine zC 1 [.quiet (.bool false)] (sB H50) ?ho41 ?he41
   case ho41 => exact ag trivial
   intro γ w51 l hM hl
   have H51 := zQ H50 hM.below
   clear hM hl l H50 γ
   refine rN (wp_seq (wp_cond_false rfl ?_))
   refine wp_exit ?_
   repeat refine zY ?_
   refine zT ?_
   refine zA (wp_seq ?_)
   refine zC 3 [.quiet (.slice (some ⟨gr, 0, none⟩) 1 1), .quiet (.int .i64 1), .quiet (.int .i64 0)] (sB H51) ?ho42 ?he42
   case ho42 => exact ar (ag (ar trivial))
   intro γ w52 l hM hl
   have H52 := zQ H51 hM.below
   clear hM hl l H51 γ
   refine rN (wp_block ?_)
   refine wp_loop_rounds 2 ?_
   refine zK (n := 1) ?_
   refine wp_seq ?_
   refine zC 1 [.quiet (.bool true)] (sB H52) ?ho43 ?he43
   case ho43 => exact ag trivial
   intro γ w53 l hM hl
   have H53 := zQ H52 hM.below
   clear hM hl l H52 γ
   refine rN (wp_seq ?_)
   refine wp_cond_true rfl (wp_skip ?_)
   refine zA (wp_seq ?_)
   refine wp_block (wp_seq ?_)
   refine zC 5 [.quiet (.int .i64 0), .quiet (PT gr 0), .quiet (.int .u64 (wo k)), .quiet (.int .i64 0), .quiet (.int .u64 (wo k))] (sB H53) ?ho44 ?he44
   case ho44 => exact ar (ag (bC 5 Tryz.isAgg22 (ar (ar trivial))))
   intro γ w54 l hM hl
   have H54 := zQ H53 hM.below
   clear hM hl l H53 γ
   refine rN (wp_seq (wp_seq ?_))
   refine zC 3 [.quiet (.int .u64 (wo k)), .quiet (.int .u64 ((dg k : Nat) : Int)), .quiet (.int .u64 ((dg k : Nat) : Int))] (sB H54) ?ho45 ?he45
   case ho45 => exact ar (ak (fun γ => ⟨rfl, fun w' _ => by rw [← HD.out k]; exact ex_shr60 rfl rfl rfl⟩) (ar trivial))
   intro γ w55 l hM hl
   have H55 := zQ H54 hM.below
   clear hM hl l H54 γ
   refine rN (wp_seq ?_)
   refine zC 2 [.quiet (.int .u64 ((dg k : Nat) : Int)), .quiet (.bool true)] (sB H55) ?ho46 ?he46
   case ho46 => exact ar (ak (by refine fun γ => ⟨rfl, fun w' h => ?_⟩; clear h; go_simp <;> omega) trivial)
   intro γ w56 l hM hl
   have H56 := zQ H55 hM.below
   clear hM hl l H55 γ
   refine rN (wp_cond_true rfl ?_)
   refine zS 9 [.quiet (.agg (G2 tn (e0 u) (e1 u) (e0 b) (e1 b)).toArray), .quiet (V [e0 ((tw (tw (tw (tw (A k))))).1), e1 ((tw (tw (tw (tw (A k))))).1), e0 ((tw (tw (tw (tw (A k))))).2.1), e1 ((tw (tw (tw (tw (A k))))).2.1), e0 ((tw (tw (tw (tw (A k))))).2.2), e1 ((tw (tw (tw (tw (A k))))).2.2)]), .quiet (.slice (some ⟨gt, 0, none⟩) 1 1), .quiet (.int .i64 0), .quiet (.int .u64 ((dg k : Nat) : Int)), .quiet (PT gt 0), .quiet (PT gt (6 * (6 * (dg k)))), .quiet (V [f (6 * dg k), f (6 * dg k + 1), f (6 * dg k + 2), f (6 * dg k + 3), f (6 * dg k + 4), f (6 * dg k + 5)]), .call (V [e0 ((tg (tw (tw (tw (tw (A k))))) (dg k)).1), e1 ((tg (tw (tw (tw (tw (A k))))) (dg k)).1), e0 ((tg (tw (tw (tw (tw (A k))))) (dg k)).2.1), e1 ((tg (tw (tw (tw (tw (A k))))) (dg k)).2.1), e0 ((tg (tw (tw (tw (tw (A k))))) (dg k)).2.2), e1 ((tg (tw (tw (tw (tw (A k))))) (dg k)).2.2)])] (sB H56) ?ho47 ?he47
   case ho47 => exact bT 0 Tryz.isAgg101 Tryz.sizeOf101 (bA 0 6 1 Tryz.isAgg139 Tryz.sizeOf139 (ar (ar (ar (ag (ak (fun γ => ⟨rfl, fun w' _ => ex_idxTB2 rfl rfl rfl (HDL.out _)⟩) (aq (fun w' h => ex_loadA (i := 6 * (dg k)) (k := 6) h 4 rfl rfl rfl Tryz.isAgg139 Tryz.sizeOf139 (tb2_ld f (HDL.out k)) rfl) (ac (fun w' h => eC call114 (CTG.out (tw (tw (tw (tw (A k))))) _ (HDL.out k) w' (h.one 3 rfl))) trivial))))))))
   intro γ w57 l hM hl
   have H57 := zQ H56 hM.below
   clear hM hl l H56 γ
   refine zF (l := [9]) rfl ?_
   refine sL 1 [e0 ((tg (tw (tw (tw (tw (A k))))) (dg k)).1), e1 ((tg (tw (tw (tw (tw (A k))))) (dg k)).1), e0 ((tg (tw (tw (tw (tw (A k))))) (dg k)).2.1), e1 ((tg (tw (tw (tw (tw (A k))))) (dg k)).2.1), e0 ((tg (tw (tw (tw (tw (A k))))) (dg k)).2.2), e1 ((tg (tw (tw (tw (tw (A k))))) (dg k)).2.2)] [_, _, _, _, _, _] H57 o1_1 Tryz.sizeOf139 fun w58 H58 => ?_
   clear H57
   refine zE (zA ?_)
   refine zC 5 [.quiet (.slice (some ⟨gr, 0, none⟩) 1 1), .quiet (.int .i64 0), .quiet (.int .u64 (wo k)), .quiet (.int .u64 (IntKind.u64.wrap (wo k * 2 ^ 4))), .quiet (PT gr 0)] (sB H58) ?ho48 ?he48
   case ho48 => exact ar (ar (ar (ak (fun γ => ⟨rfl, fun w' _ => ex_shl4 rfl rfl rfl⟩) (ag trivial))))
   intro γ w59 l hM hl
   have H59 := zQ H58 hM.below
   clear hM hl l H58 γ
   refine zF (l := [5]) rfl ?_
   refine sH rfl (fun h => ex_storeI h 5 rfl rfl Tryz.sizeOf22 rfl rfl (Nat.le_of_ble_eq_true rfl)) 5 [_, _, _, _, _, (_, [Value.int .u64 (IntKind.u64.wrap (wo k * 2 ^ 4))])] H59 (Or.inl rfl) fun w60 H60 => ?_
   clear H59
   refine zE (zH (zA ?_))
   refine zC 1 [.quiet (.int .i64 1)] (sB H60) ?ho49 ?he49
   case ho49 => exact av trivial
   intro γ w61 l hM hl
   have H61 := zQ H60 hM.below
   clear hM hl l H60 γ
   refine zF (l := [1]) rfl ?_
   refine zG (d := 22) rfl rfl rfl rfl ?_
   simp only [Act.put, sa, sz, ss]
   refine zE (zA ?_)
   refine zK (n := 0) ?_
   refine wp_seq ?_
   refine zC 1 [.quiet (.bool false)] (sB H61) ?ho50 ?he50
   case ho50 => exact ag trivial
   intro γ w62 l hM hl
   have H62 := zQ H61 hM.below
   clear hM hl l H61 γ
   refine rN (wp_seq (wp_cond_false rfl ?_))
   refine wp_exit ?_
   repeat refine zY ?_
   refine zT ?_
   refine zH (zA ?_)
   refine zC 1 [.quiet (.int .i64 ((k + 1 : Nat) : Int))] (sB H62) ?ho51 ?he51
   case ho51 => exact ak (by refine fun γ => ⟨rfl, fun w' h => ?_⟩; clear h; go_simp; rw [IntKind.wrap_i64]; omega) trivial
   intro γ w63 l hM hl
   have H63 := zQ H62 hM.below
   clear hM hl l H62 γ
   refine zF (l := [1]) rfl ?_
   refine zG (d := 12) rfl rfl rfl rfl ?_
   simp only [Act.put, sa, sz, ss]
   refine zE (zA ?_)
   exact ⟨k + 1, ⟨(slotfn [ud, ud, ud, ud, ud, ud, ud, ud, ud, .int .i64 0, .int .u64 (wo k), .int .u64 ((dg k : Nat) : Int), ud, .bool true, .int .i64 4, .bool false, .agg (G2 tn (e0 u) (e1 u) (e0 b) (e1 b)).toArray, V [e0 ((tw (tw (tw (A k)))).1), e1 ((tw (tw (tw (A k)))).1), e0 ((tw (tw (tw (A k)))).2.1), e1 ((tw (tw (tw (A k)))).2.1), e0 ((tw (tw (tw (A k)))).2.2), e1 ((tw (tw (tw (A k)))).2.2)], V [e0 ((tw (tw (tw (tw (A k))))).1), e1 ((tw (tw (tw (tw (A k))))).1), e0 ((tw (tw (tw (tw (A k))))).2.1), e1 ((tw (tw (tw (tw (A k))))).2.1), e0 ((tw (tw (tw (tw (A k))))).2.2), e1 ((tw (tw (tw (tw (A k))))).2.2)], .int .i64 4, .slice (some ⟨gr, 0, none⟩) 1 1, .int .i64 1, .int .i64 1, .bool false, .int .i64 0, PT gr 0, .int .u64 (wo k), .int .u64 (wo k), .int .u64 ((dg k : Nat) : Int), .int .u64 ((dg k : Nat) : Int), .bool true, .agg (G2 tn (e0 u) (e1 u) (e0 b) (e1 b)).toArray, V [e0 ((tw (tw (tw (tw (A k))))).1), e1 ((tw (tw (tw (tw (A k))))).1), e0 ((tw (tw (tw (tw (A k))))).2.1), e1 ((tw (tw (tw (tw (A k))))).2.1), e0 ((tw (tw (tw (tw (A k))))).2.2), e1 ((tw (tw (tw (tw (A k))))).2.2)], .slice (some ⟨gt, 0, none⟩) 1 1, .int .i64 0, .int .u64 ((dg k : Nat) : Int), PT gt 0, PT gt (6 * (6 * (dg k))), V [f (6 * dg k), f (6 * dg k + 1), f (6 * dg k + 2), f (6 * dg k + 3), f (6 * dg k + 4), f (6 * dg k + 5)], V [e0 ((tg (tw (tw (tw (tw (A k))))) (dg k)).1), e1 ((tg (tw (tw (tw (tw (A k))))) (dg k)).1), e0 ((tg (tw (tw (tw (tw (A k))))) (dg k)).2.1), e1 ((tg (tw (tw (tw (tw (A k))))) (dg k)).2.1), e0 ((tg (tw (tw (tw (tw (A k))))) (dg k)).2.2), e1 ((tg (tw (tw (tw (tw (A k))))) (dg k)).2.2)], .slice (some ⟨gr, 0, none⟩) 1 1, .int .i64 0, .int .u64 (wo k), .int .u64 (IntKind.u64.wrap (wo k * 2 ^ 4)), PT gr 0, .int .i64 1, .int .i64 ((k + 1 : Nat) : Int)]), rfl, ⟨(H63.out.1).atk (by rw [HA1.out k hdz, HW.out]), H63.out.2⟩, by omega⟩, by omega⟩
 have hk16 : k = 16 := by omega
 subst hk16
 refine wp_seq ?_
 refine zC 1 [.quiet (.bool false)] (sB H3) ?ho52 ?he52
 case ho52 => exact ak (by refine fun γ => ⟨rfl, fun w' h => ?_⟩; clear h; go_simp <;> omega) trivial
 intro γ w64 l hM hl
 have H64 := zQ H3 hM.below
 clear hM hl l H3 γ
 refine rN (wp_seq (wp_cond_false rfl ?_))
 refine wp_exit ?_
 repeat refine zY ?_
 refine zT ?_
 refine zA (wp_seq ?_)
 refine zC 1 [.quiet (V [e0 ((A 16).1), e1 ((A 16).1), e0 ((A 16).2.1), e1 ((A 16).2.1), e0 ((A 16).2.2), e1 ((A 16).2.2)])] (sB H64) ?ho53 ?he53
 case ho53 => exact bA 0 6 1 Tryz.isAgg139 Tryz.sizeOf139 trivial
 intro γ w65 l hM hl
 have H65 := zQ H64 hM.below
 clear hM hl l H64 γ
 refine zF (l := [1]) rfl ?_
 refine sL 2 [e0 ((A 16).1), e1 ((A 16).1), e0 ((A 16).2.1), e1 ((A 16).2.1), e0 ((A 16).2.2), e1 ((A 16).2.2)] [_, _, _, _, _, _] H65 o1_2 Tryz.sizeOf139 fun w66 H66 => ?_
 clear H65
 refine zE (zA (wp_ret ?_))
 repeat (first | refine zM ?_ | refine zI ?_)
 have hf0 := cel_var (k := 6) H66.out.1 2 rfl Tryz.isAgg139 Tryz.sizeOf139 rfl
 refine bodyPost_ret (v := V [e0 ((A 16).1), e1 ((A 16).1), e0 ((A 16).2.1), e1 ((A 16).2.1), e0 ((A 16).2.2), e1 ((A 16).2.2)]) (by simp [results, Tryz.results155, asAddr, hf0]) rfl ?_
 exact ⟨rfl, H66.out.1.one 5 rfl, H66.out.2⟩
set_option maxHeartbeats 8000000 in
theorem some_2 {α : Type} {e0 e1 : α → Nat} {fa fs fm : α → α → α} {fi : α → α} {z u b : α} {tn : Value} (_C : Fd2 e0 e1 fa fs fm fi z) (f : Nat → Nat) (S : Nat → EC.Tri α) (x0 x1 y0 y1 nn gp gn : Nat) (zb : Bool) (cz : ∀ w, Mm w [(0, dtab)] → Calls Tryz.prog 119 #[.agg (G2 tn (e0 u) (e1 u) (e0 b) (e1 b)).toArray] w (Rt w (V [e0 ((S 0).1), e1 ((S 0).1), e0 ((S 0).2.1), e1 ((S 0).2.1), e0 ((S 0).2.2), e1 ((S 0).2.2)]))) (ct : ∀ w, Mm w [(0, dtab)] → Calls Tryz.prog 154 #[.agg (G2 tn (e0 u) (e1 u) (e0 b) (e1 b)).toArray, .agg (zV x0 x1 y0 y1 zb).toArray] w (Rt w (V (tb2 f)))) (c0 : ∀ gt gr w, Mm w [(0, dtab), (gt, cel (tb2 f)), (gr, [Value.int .u64 (wd nn 5)])] → Calls Tryz.prog 155 #[.agg (G2 tn (e0 u) (e1 u) (e0 b) (e1 b)).toArray, V [e0 ((S 0).1), e1 ((S 0).1), e0 ((S 0).2.1), e1 ((S 0).2.1), e0 ((S 0).2.2), e1 ((S 0).2.2)], .slice (some ⟨gt, 0, none⟩) 1 1, .slice (some ⟨gr, 0, none⟩) 1 1] w fun e w' => e = .returned (V [e0 ((S 1).1), e1 ((S 1).1), e0 ((S 1).2.1), e1 ((S 1).2.1), e0 ((S 1).2.2), e1 ((S 1).2.2)]) ∧ Mm w' [(gr, [Value.int .u64 0])] ∧ Kp gr w w') (c1 : ∀ gt gr w, Mm w [(0, dtab), (gt, cel (tb2 f)), (gr, [Value.int .u64 (wd nn 4)])] → Calls Tryz.prog 155 #[.agg (G2 tn (e0 u) (e1 u) (e0 b) (e1 b)).toArray, V [e0 ((S 1).1), e1 ((S 1).1), e0 ((S 1).2.1), e1 ((S 1).2.1), e0 ((S 1).2.2), e1 ((S 1).2.2)], .slice (some ⟨gt, 0, none⟩) 1 1, .slice (some ⟨gr, 0, none⟩) 1 1] w fun e w' => e = .returned (V [e0 ((S 2).1), e1 ((S 2).1), e0 ((S 2).2.1), e1 ((S 2).2.1), e0 ((S 2).2.2), e1 ((S 2).2.2)]) ∧ Mm w' [(gr, [Value.int .u64 0])] ∧ Kp gr w w') (c2 : ∀ gt gr w, Mm w [(0, dtab), (gt, cel (tb2 f)), (gr, [Value.int .u64 (wd nn 3)])] → Calls Tryz.prog 155 #[.agg (G2 tn (e0 u) (e1 u) (e0 b) (e1 b)).toArray, V [e0 ((S 2).1), e1 ((S 2).1), e0 ((S 2).2.1), e1 ((S 2).2.1), e0 ((S 2).2.2), e1 ((S 2).2.2)], .slice (some ⟨gt, 0, none⟩) 1 1, .slice (some ⟨gr, 0, none⟩) 1 1] w fun e w' => e = .returned (V [e0 ((S 3).1), e1 ((S 3).1), e0 ((S 3).2.1), e1 ((S 3).2.1), e0 ((S 3).2.2), e1 ((S 3).2.2)]) ∧ Mm w' [(gr, [Value.int .u64 0])] ∧ Kp gr w w') (c3 : ∀ gt gr w, Mm w [(0, dtab), (gt, cel (tb2 f)), (gr, [Value.int .u64 (wd nn 2)])] → Calls Tryz.prog 155 #[.agg (G2 tn (e0 u) (e1 u) (e0 b) (e1 b)).toArray, V [e0 ((S 3).1), e1 ((S 3).1), e0 ((S 3).2.1), e1 ((S 3).2.1), e0 ((S 3).2.2), e1 ((S 3).2.2)], .slice (some ⟨gt, 0, none⟩) 1 1, .slice (some ⟨gr, 0, none⟩) 1 1] w fun e w' => e = .returned (V [e0 ((S 4).1), e1 ((S 4).1), e0 ((S 4).2.1), e1 ((S 4).2.1), e0 ((S 4).2.2), e1 ((S 4).2.2)]) ∧ Mm w' [(gr, [Value.int .u64 0])] ∧ Kp gr w w') (c4 : ∀ gt gr w, Mm w [(0, dtab), (gt, cel (tb2 f)), (gr, [Value.int .u64 (wd nn 1)])] → Calls Tryz.prog 155 #[.agg (G2 tn (e0 u) (e1 u) (e0 b) (e1 b)).toArray, V [e0 ((S 4).1), e1 ((S 4).1), e0 ((S 4).2.1), e1 ((S 4).2.1), e0 ((S 4).2.2), e1 ((S 4).2.2)], .slice (some ⟨gt, 0, none⟩) 1 1, .slice (some ⟨gr, 0, none⟩) 1 1] w fun e w' => e = .returned (V [e0 ((S 5).1), e1 ((S 5).1), e0 ((S 5).2.1), e1 ((S 5).2.1), e0 ((S 5).2.2), e1 ((S 5).2.2)]) ∧ Mm w' [(gr, [Value.int .u64 0])] ∧ Kp gr w w') (c5 : ∀ gt gr w, Mm w [(0, dtab), (gt, cel (tb2 f)), (gr, [Value.int .u64 (wd nn 0)])] → Calls Tryz.prog 155 #[.agg (G2 tn (e0 u) (e1 u) (e0 b) (e1 b)).toArray, V [e0 ((S 5).1), e1 ((S 5).1), e0 ((S 5).2.1), e1 ((S 5).2.1), e0 ((S 5).2.2), e1 ((S 5).2.2)], .slice (some ⟨gt, 0, none⟩) 1 1, .slice (some ⟨gr, 0, none⟩) 1 1] w fun e w' => e = .returned (V [e0 ((S 6).1), e1 ((S 6).1), e0 ((S 6).2.1), e1 ((S 6).2.1), e0 ((S 6).2.2), e1 ((S 6).2.2)]) ∧ Mm w' [(gr, [Value.int .u64 0])] ∧ Kp gr w w') (w : World) (hm : Mm w [(0, dtab), (gp, zV x0 x1 y0 y1 zb), (gn, zD nn)]) :
  Calls Tryz.prog 120 #[.agg (G2 tn (e0 u) (e1 u) (e0 b) (e1 b)).toArray, .slice (some ⟨gp, 0, none⟩) 1 1, .slice (some ⟨gn, 0, none⟩) 1 1] w (Rt w (V [e0 ((S 6).1), e1 ((S 6).1), e0 ((S 6).2.1), e1 ((S 6).2.1), e0 ((S 6).2.2), e1 ((S 6).2.2)])) := by
 have H0 : Hid (_ ∧ _) := ⟨hm, Below.refl w.heap.size w⟩
 clear hm
 have CZ : Hid _ := cz
 clear cz
 have CT : Hid _ := ct
 clear ct
 have C0 : Hid _ := c0
 clear c0
 have C1 : Hid _ := c1
 clear c1
 have C2 : Hid _ := c2
 clear c2
 have C3 : Hid _ := c3
 clear c3
 have C4 : Hid _ := c4
 clear c4
 have C5 : Hid _ := c5
 clear c5
 go_enter Tryz.func120, Tryz.ntmps120
 refine wp_seq ?_
 refine zC 2 [.made (G2 tn (e0 u) (e1 u) (e0 b) (e1 b)) 101, .made (cel [0, 0, 0, 0, 0, 0]) 139] (sB H0) ?ho1 ?he1
 case ho1 => exact am (zW rfl rfl) (am (ex_madeTE rfl) trivial)
 intro γ w1 l hM hl
 have H1 : Hid (Mm w1 ([(γ 0, G2 tn (e0 u) (e1 u) (e0 b) (e1 b)), (γ 1, cel [0, 0, 0, 0, 0, 0])] ++ _) ∧ _) := wB H0 hM hl [0, 1]
 have o1_0 := vB H0 hM hl 0
 have o1_1 := vB H0 hM hl 1
 clear hM hl l
 generalize γ 0 = γ1_0 at H1 o1_0 ⊢
 generalize γ 1 = γ1_1 at H1 o1_1 ⊢
 clear γ
 refine rN (wp_seq ?_)
 refine zB 2 [.quiet (.slice (some ⟨gp, 0, none⟩) 1 1), .quiet (.int .i64 1)] H1 ?ho2 ?he2
 case ho2 => exact ar (ag trivial)
 intro _ w2 H2
 clear H1
 refine zF (l := [2, 3]) rfl ?_
 refine zG (d := 16) (v := .slice (some ⟨w2.heap.size, 0, none⟩) 1 1) (w' := w2.alloc (.cells (cel [0, 0, 0, 0, 0, 0, 0, 0, 0, 0, 0, 0, 0, 0, 0, 0, 0, 0, 0, 0, 0, 0, 0, 0, 0, 0, 0, 0, 0, 0, 0, 0, 0, 0, 0, 0, 0, 0, 0, 0, 0, 0, 0, 0, 0, 0, 0, 0, 0, 0, 0, 0, 0, 0, 0, 0, 0, 0, 0, 0, 0, 0, 0, 0, 0, 0, 0, 0, 0, 0, 0, 0, 0, 0, 0, 0, 0, 0, 0, 0, 0, 0, 0, 0, 0, 0, 0, 0, 0, 0, 0, 0, 0, 0, 0, 0] : List Value).toArray 178)) rfl rfl rfl (ex_mkTE rfl rfl rfl) ?_
 simp only [Act.put, sa, sz, ss]
 have o_γs3 : Hid (w.heap.size ≤ w2.heap.size) := H2.out.2.size
 have H3 : Hid (Mm (w2.alloc (.cells (cel [0, 0, 0, 0, 0, 0, 0, 0, 0, 0, 0, 0, 0, 0, 0, 0, 0, 0, 0, 0, 0, 0, 0, 0, 0, 0, 0, 0, 0, 0, 0, 0, 0, 0, 0, 0, 0, 0, 0, 0, 0, 0, 0, 0, 0, 0, 0, 0, 0, 0, 0, 0, 0, 0, 0, 0, 0, 0, 0, 0, 0, 0, 0, 0, 0, 0, 0, 0, 0, 0, 0, 0, 0, 0, 0, 0, 0, 0, 0, 0, 0, 0, 0, 0, 0, 0, 0, 0, 0, 0, 0, 0, 0, 0, 0, 0] : List Value).toArray 178)) ((w2.heap.size, cel [0, 0, 0, 0, 0, 0, 0, 0, 0, 0, 0, 0, 0, 0, 0, 0, 0, 0, 0, 0, 0, 0, 0, 0, 0, 0, 0, 0, 0, 0, 0, 0, 0, 0, 0, 0, 0, 0, 0, 0, 0, 0, 0, 0, 0, 0, 0, 0, 0, 0, 0, 0, 0, 0, 0, 0, 0, 0, 0, 0, 0, 0, 0, 0, 0, 0, 0, 0, 0, 0, 0, 0, 0, 0, 0, 0, 0, 0, 0, 0, 0, 0, 0, 0, 0, 0, 0, 0, 0, 0, 0, 0, 0, 0, 0, 0]) :: [(γ1_0, G2 tn (e0 u) (e1 u) (e0 b) (e1 b)), (γ1_1, cel [0, 0, 0, 0, 0, 0]), (0, dtab), (gp, zV x0 x1 y0 y1 zb), (gn, zD nn)]) ∧ Below w.heap.size w (w2.alloc (.cells (cel [0, 0, 0, 0, 0, 0, 0, 0, 0, 0, 0, 0, 0, 0, 0, 0, 0, 0, 0, 0, 0, 0, 0, 0, 0, 0, 0, 0, 0, 0, 0, 0, 0, 0, 0, 0, 0, 0, 0, 0, 0, 0, 0, 0, 0, 0, 0, 0, 0, 0, 0, 0, 0, 0, 0, 0, 0, 0, 0, 0, 0, 0, 0, 0, 0, 0, 0, 0, 0, 0, 0, 0, 0, 0, 0, 0, 0, 0, 0, 0, 0, 0, 0, 0, 0, 0, 0, 0, 0, 0, 0, 0, 0, 0, 0, 0] : List Value).toArray 178))) := ⟨H2.out.1.alloc _ 178 rfl, H2.out.2.alloc H2.out.2.size _⟩
 clear H2
 generalize hgw : w2.alloc (.cells (cel [0, 0, 0, 0, 0, 0, 0, 0, 0, 0, 0, 0, 0, 0, 0, 0, 0, 0, 0, 0, 0, 0, 0, 0, 0, 0, 0, 0, 0, 0, 0, 0, 0, 0, 0, 0, 0, 0, 0, 0, 0, 0, 0, 0, 0, 0, 0, 0, 0, 0, 0, 0, 0, 0, 0, 0, 0, 0, 0, 0, 0, 0, 0, 0, 0, 0, 0, 0, 0, 0, 0, 0, 0, 0, 0, 0, 0, 0, 0, 0, 0, 0, 0, 0, 0, 0, 0, 0, 0, 0, 0, 0, 0, 0, 0, 0] : List Value).toArray 178) = w3 at H3 ⊢
 clear hgw
 generalize w2.heap.size = γs3 at o_γs3 H3 ⊢
 refine zG (d := 7) rfl rfl rfl rfl ?_
 simp only [Act.put, sa, sz, ss]
 refine zE (zA ?_)
 refine wp_seq (wp_seq ?_)
 refine zB 3 [.quiet (.slice (some ⟨gp, 0, none⟩) 1 1), .quiet (.int .i64 1), .quiet (.int .i64 0)] H3 ?ho3 ?he3
 case ho3 => exact ar (ag (ar trivial))
 intro _ w4 H4
 clear H3
 refine rN (wp_block ?_)
 refine wp_loop_rounds 2 ?_
 refine zK (n := 1) ?_
 refine wp_seq ?_
 refine zB 1 [.quiet (.bool true)] H4 ?ho4 ?he4
 case ho4 => exact ag trivial
 intro _ w5 H5
 clear H4
 refine rN (wp_seq ?_)
 refine wp_cond_true rfl (wp_skip ?_)
 refine zA (wp_seq ?_)
 refine wp_block (wp_seq ?_)
 refine zC 6 [.quiet (.int .i64 0), .quiet (PT gp 0), .quiet (.agg (zV x0 x1 y0 y1 zb).toArray), .made (zV 0 0 0 0 false) 104, .quiet (.int .i64 0), .laid 3 (zV 0 0 0 0 false) (zV x0 x1 y0 y1 zb)] (sB H5) ?ho5 ?he5 (hL := ?hL5)
 case hL5 => exact ⟨⟨_, rfl⟩, trivial⟩
 case ho5 => exact ar (ag (bT 4 Tryz.isAgg104 Tryz.sizeOf104 (am (ex_madePE rfl) (ar (ak (fun γ => ⟨rfl, rfl, rfl, fun w' h => ex_laidT h rfl rfl Tryz.sizeOf104 rfl rfl rfl⟩) trivial)))))
 intro γ w6 l hM hl
 have H6 : Hid (Mm w6 ([(γ 3, zV x0 x1 y0 y1 zb)] ++ _) ∧ _) := wB H5 hM hl [3]
 have o5_3 := vB H5 hM hl 3
 clear hM hl l H5
 generalize γ 3 = γ5_3 at H6 o5_3 ⊢
 clear γ
 refine rN ?_
 refine zB 6 [.quiet (.slice (some ⟨γs3, 0, none⟩) 1 1), .quiet (.int .i64 0), .quiet (.agg (G2 tn (e0 u) (e1 u) (e0 b) (e1 b)).toArray), .quiet (.agg (zV x0 x1 y0 y1 zb).toArray), .call (V (tb2 f)), .quiet (PT γs3 0)] H6 ?ho6 ?he6
 case ho6 => exact ar (ar (bT 2 Tryz.isAgg101 Tryz.sizeOf101 (bT 0 Tryz.isAgg104 Tryz.sizeOf104 (ac (fun w' h => eC call154 (CT.out w' (h.one 4 rfl))) (ag trivial)))))
 intro _ w7 H7
 clear H6
 refine zF (l := [6]) rfl ?_
 refine sA 1 0 [f 0, f 1, f 2, f 3, f 4, f 5, f 6, f 7, f 8, f 9, f 10, f 11, f 12, f 13, f 14, f 15, f 16, f 17, f 18, f 19, f 20, f 21, f 22, f 23, f 24, f 25, f 26, f 27, f 28, f 29, f 30, f 31, f 32, f 33, f 34, f 35, f 36, f 37, f 38, f 39, f 40, f 41, f 42, f 43, f 44, f 45, f 46, f 47, f 48, f 49, f 50, f 51, f 52, f 53, f 54, f 55, f 56, f 57, f 58, f 59, f 60, f 61, f 62, f 63, f 64, f 65, f 66, f 67, f 68, f 69, f 70, f 71, f 72, f 73, f 74, f 75, f 76, f 77, f 78, f 79, f 80, f 81, f 82, f 83, f 84, f 85, f 86, f 87, f 88, f 89, f 90, f 91, f 92, f 93, f 94, f 95] [_, (_, cel (tb2 f)), _, _, _, _, _] H7 o_γs3 Tryz.sizeOf178 fun w8 H8 => ?_
 clear H7
 refine zE (zH (zA ?_))
 refine zB 1 [.quiet (.int .i64 1)] H8 ?ho7 ?he7
 case ho7 => exact av trivial
 intro _ w9 H9
 clear H8
 refine zF (l := [1]) rfl ?_
 refine zG (d := 19) rfl rfl rfl rfl ?_
 simp only [Act.put, sa, sz, ss]
 refine zE (zA ?_)
 refine zK (n := 0) ?_
 refine wp_seq ?_
 refine zB 1 [.quiet (.bool false)] H9 ?ho8 ?he8
 case ho8 => exact ag trivial
 intro _ w10 H10
 clear H9
 refine rN (wp_seq (wp_cond_false rfl ?_))
 refine wp_exit ?_
 repeat refine zY ?_
 refine zT ?_
 refine zA (wp_seq ?_)
 refine zC 4 [.quiet (.agg (G2 tn (e0 u) (e1 u) (e0 b) (e1 b)).toArray), .call (V [e0 ((S 0).1), e1 ((S 0).1), e0 ((S 0).2.1), e1 ((S 0).2.1), e0 ((S 0).2.2), e1 ((S 0).2.2)]), .made (cel [0, 0, 0, 0, 0, 0]) 139, .laid 2 (cel [0, 0, 0, 0, 0, 0]) (cel [e0 ((S 0).1), e1 ((S 0).1), e0 ((S 0).2.1), e1 ((S 0).2.1), e0 ((S 0).2.2), e1 ((S 0).2.2)])] (sB H10) ?ho9 ?he9 (hL := ?hL9)
 case hL9 => exact ⟨⟨_, rfl⟩, trivial⟩
 case ho9 => exact bT 2 Tryz.isAgg101 Tryz.sizeOf101 (ac (fun w' h => eC call119 (CZ.out w' (h.one 4 rfl))) (am (ex_madeTE rfl) (ak (fun γ => ⟨rfl, rfl, rfl, fun w' h => ex_laidA h rfl Tryz.sizeOf139 rfl rfl rfl⟩) trivial)))
 intro γ w11 l hM hl
 have H11 : Hid (Mm w11 ([(γ 2, cel [e0 ((S 0).1), e1 ((S 0).1), e0 ((S 0).2.1), e1 ((S 0).2.1), e0 ((S 0).2.2), e1 ((S 0).2.2)])] ++ _) ∧ _) := wB H10 hM hl [2]
 have o9_2 := vB H10 hM hl 2
 clear hM hl l H10
 generalize γ 2 = γ9_2 at H11 o9_2 ⊢
 clear γ
 refine rN (wp_seq ?_)
 refine zB 2 [.quiet (.slice (some ⟨gn, 0, none⟩) 1 1), .quiet (.int .i64 1)] H11 ?ho10 ?he10
 case ho10 => exact ar (ag trivial)
 intro _ w12 H12
 clear H11
 refine zF (l := [2, 3]) rfl ?_
 refine zG (d := 35) (v := .slice (some ⟨w12.heap.size, 0, none⟩) 1 1) (w' := w12.alloc (.cells ([Value.int .u64 0] : List Value).toArray 22)) rfl rfl rfl (ex_mkU rfl rfl rfl) ?_
 simp only [Act.put, sa, sz, ss]
 have o_γs13 : Hid (w.heap.size ≤ w12.heap.size) := H12.out.2.size
 have H13 : Hid (Mm (w12.alloc (.cells ([Value.int .u64 0] : List Value).toArray 22)) ((w12.heap.size, [Value.int .u64 0]) :: [(γ9_2, cel [e0 ((S 0).1), e1 ((S 0).1), e0 ((S 0).2.1), e1 ((S 0).2.1), e0 ((S 0).2.2), e1 ((S 0).2.2)]), (γ5_3, zV x0 x1 y0 y1 zb), (γs3, cel (tb2 f)), (γ1_0, G2 tn (e0 u) (e1 u) (e0 b) (e1 b)), (γ1_1, cel [0, 0, 0, 0, 0, 0]), (0, dtab), (gp, zV x0 x1 y0 y1 zb), (gn, zD nn)]) ∧ Below w.heap.size w (w12.alloc (.cells ([Value.int .u64 0] : List Value).toArray 22))) := ⟨H12.out.1.alloc _ 22 rfl, H12.out.2.alloc H12.out.2.size _⟩
 clear H12
 generalize hgw : w12.alloc (.cells ([Value.int .u64 0] : List Value).toArray 22) = w13 at H13 ⊢
 clear hgw
 generalize w12.heap.size = γs13 at o_γs13 H13 ⊢
 refine zG (d := 11) rfl rfl rfl rfl ?_
 simp only [Act.put, sa, sz, ss]
 refine zE (zA ?_)
 refine wp_seq (wp_seq ?_)
 refine zB 1 [.quiet (.int .i64 5)] H13 ?ho11 ?he11
 case ho11 => exact ar trivial
 intro _ w14 H14
 clear H13
 refine rN (wp_block ?_)
 refine wp_loop_rounds 7 ?_
 refine zK (n := 6) ?_
 refine wp_seq (wp_seq ?_)
 refine zB 2 [.quiet (.int .i64 5), .quiet (.bool true)] H14 ?ho12 ?he12
 case ho12 => exact ar (ag trivial)
 intro _ w15 H15
 clear H14
 refine rN (wp_cond_true rfl ?_)
 refine wp_skip (zA ?_)
 refine wp_seq (wp_block ?_)
 refine wp_seq (wp_seq ?_)
 refine zB 3 [.quiet (.slice (some ⟨gn, 0, none⟩) 1 1), .quiet (.int .i64 1), .quiet (.int .i64 0)] H15 ?ho13 ?he13
 case ho13 => exact ar (ag (ar trivial))
 intro _ w16 H16
 clear H15
 refine rN (wp_block ?_)
 refine wp_loop_rounds 2 ?_
 refine zK (n := 1) ?_
 refine wp_seq ?_
 refine zB 1 [.quiet (.bool true)] H16 ?ho14 ?he14
 case ho14 => exact ag trivial
 intro _ w17 H17
 clear H16
 refine rN (wp_seq ?_)
 refine wp_cond_true rfl (wp_skip ?_)
 refine zA (wp_seq ?_)
 refine wp_block (wp_seq ?_)
 refine zB 2 [.quiet (.int .i64 0), .quiet (.int .i64 0)] H17 ?ho15 ?he15
 case ho15 => exact ar (ar trivial)
 intro _ w18 H18
 clear H17
 refine rN ?_
 refine zB 9 [.quiet (.slice (some ⟨γs13, 0, none⟩) 1 1), .quiet (.int .i64 0), .quiet (.slice (some ⟨gn, 0, none⟩) 1 1), .quiet (.int .i64 0), .quiet (.int .i64 5), .quiet (PT gn 0), .quiet (PT gn 5), .quiet (.int .u64 (wd nn 5)), .quiet (PT γs13 0)] H18 ?ho16 ?he16
 case ho16 => exact ar (ar (ar (ar (ar (ag (ag (aq (fun w' h => yG h 8 rfl rfl rfl rfl) (ag trivial))))))))
 intro _ w19 H19
 clear H18
 refine zF (l := [9]) rfl ?_
 refine sG rfl (fun h => ex_storeI h 0 rfl rfl Tryz.sizeOf22 rfl rfl (Nat.le_of_ble_eq_true rfl)) 0 [(_, [Value.int .u64 (wd nn 5)]), _, _, _, _, _, _, _, _] H19 o_γs13 fun w20 H20 => ?_
 clear H19
 refine zE (zH (zA ?_))
 refine zB 1 [.quiet (.int .i64 1)] H20 ?ho17 ?he17
 case ho17 => exact av trivial
 intro _ w21 H21
 clear H20
 refine zF (l := [1]) rfl ?_
 refine zG (d := 42) rfl rfl rfl rfl ?_
 simp only [Act.put, sa, sz, ss]
 refine zE (zA ?_)
 refine zK (n := 0) ?_
 refine wp_seq ?_
 refine zB 1 [.quiet (.bool false)] H21 ?ho18 ?he18
 case ho18 => exact ag trivial
 intro _ w22 H22
 clear H21
 refine rN (wp_seq (wp_cond_false rfl ?_))
 refine wp_exit ?_
 repeat refine zY ?_
 refine zT ?_
 refine zA ?_
 refine zB 4 [.quiet (.agg (G2 tn (e0 u) (e1 u) (e0 b) (e1 b)).toArray), .quiet (V [e0 ((S 0).1), e1 ((S 0).1), e0 ((S 0).2.1), e1 ((S 0).2.1), e0 ((S 0).2.2), e1 ((S 0).2.2)]), .quiet (.slice (some ⟨γs3, 0, none⟩) 1 1), .quiet (.slice (some ⟨γs13, 0, none⟩) 1 1)] H22 ?ho19 ?he19
 case ho19 => exact bT 4 Tryz.isAgg101 Tryz.sizeOf101 (bA 0 6 1 Tryz.isAgg139 Tryz.sizeOf139 (ar (ar trivial)))
 intro _ w23 H23
 clear H22
 refine zF (l := [4, 5]) rfl ?_
 refine rest_enter (d := 59) (R := fun vv w' => vv = V [e0 ((S 1).1), e1 ((S 1).1), e0 ((S 1).2.1), e1 ((S 1).2.1), e0 ((S 1).2.2), e1 ((S 1).2.2)] ∧ Mm w' [(γs13, [Value.int .u64 0])] ∧ Kp γs13 w23 w') rfl rfl rfl (exec_call (args := #[.agg (G2 tn (e0 u) (e1 u) (e0 b) (e1 b)).toArray, V [e0 ((S 0).1), e1 ((S 0).1), e0 ((S 0).2.1), e1 ((S 0).2.1), e0 ((S 0).2.2), e1 ((S 0).2.2)], .slice (some ⟨γs3, 0, none⟩) 1 1, .slice (some ⟨γs13, 0, none⟩) 1 1]) rfl call155 rfl (mpn rfl)) (Calls.mono (C0.out γs3 γs13 w23 (H23.out.1.pick [6, 3, 0] rfl (by decide))) (fun e w2 hh => ⟨_, hh.1, rfl, hh.2⟩)) ?_
 rintro _ w24 ⟨rfl, hn, hp⟩
 have H24 : Hid (Mm w24 [(γs13, [Value.int .u64 0]), (γ9_2, cel [e0 ((S 0).1), e1 ((S 0).1), e0 ((S 0).2.1), e1 ((S 0).2.1), e0 ((S 0).2.2), e1 ((S 0).2.2)]), (γ5_3, zV x0 x1 y0 y1 zb), (γs3, cel (tb2 f)), (γ1_0, G2 tn (e0 u) (e1 u) (e0 b) (e1 b)), (γ1_1, cel [0, 0, 0, 0, 0, 0]), (0, dtab), (gp, zV x0 x1 y0 y1 zb), (gn, zD nn)] ∧ Below w.heap.size w w24) := ⟨H23.out.1.change 0 rfl hp hn, Below.kp H23.out.2 hp o_γs13.out H23.out.2.size⟩
 clear hn hp H23
 simp only [Act.put, sa, sz, ss]
 refine sF 1 [e0 ((S 1).1), e1 ((S 1).1), e0 ((S 1).2.1), e1 ((S 1).2.1), e0 ((S 1).2.2), e1 ((S 1).2.2)] [_, _, _, _, _, _, _, _, _] H24 o9_2 Tryz.sizeOf139 fun w25 H25 => ?_
 clear H24
 refine zE (zH (zA ?_))
 refine zB 2 [.quiet (.int .i64 5), .quiet (.int .i64 4)] H25 ?ho20 ?he20
 case ho20 => exact ar (av trivial)
 intro _ w26 H26
 clear H25
 refine zF (l := [2]) rfl ?_
 refine zG (d := 12) rfl rfl rfl rfl ?_
 simp only [Act.put, sa, sz, ss]
 refine zE (zA ?_)
 refine zK (n := 5) ?_
 refine wp_seq (wp_seq ?_)
 refine zB 2 [.quiet (.int .i64 4), .quiet (.bool true)] H26 ?ho21 ?he21
 case ho21 => exact ar (ag trivial)
 intro _ w27 H27
 clear H26
 refine rN (wp_cond_true rfl ?_)
 refine wp_skip (zA ?_)
 refine wp_seq (wp_block ?_)
 refine wp_seq (wp_seq ?_)
 refine zB 3 [.quiet (.slice (some ⟨gn, 0, none⟩) 1 1), .quiet (.int .i64 1), .quiet (.int .i64 0)] H27 ?ho22 ?he22
 case ho22 => exact ar (ag (ar trivial))
 intro _ w28 H28
 clear H27
 refine rN (wp_block ?_)
 refine wp_loop_rounds 2 ?_
 refine zK (n := 1) ?_
 refine wp_seq ?_
 refine zB 1 [.quiet (.bool true)] H28 ?ho23 ?he23
 case ho23 => exact ag trivial
 intro _ w29 H29
 clear H28
 refine rN (wp_seq ?_)
 refine wp_cond_true rfl (wp_skip ?_)
 refine zA (wp_seq ?_)
 refine wp_block (wp_seq ?_)
 refine zB 2 [.quiet (.int .i64 0), .quiet (.int .i64 0)] H29 ?ho24 ?he24
 case ho24 => exact ar (ar trivial)
 intro _ w30 H30
 clear H29
 refine rN ?_
 refine zB 9 [.quiet (.slice (some ⟨γs13, 0, none⟩) 1 1), .quiet (.int .i64 0), .quiet (.slice (some ⟨gn, 0, none⟩) 1 1), .quiet (.int .i64 0), .quiet (.int .i64 4), .quiet (PT gn 0), .quiet (PT gn 4), .quiet (.int .u64 (wd nn 4)), .quiet (PT γs13 0)] H30 ?ho25 ?he25
 case ho25 => exact ar (ar (ar (ar (ar (ag (ag (aq (fun w' h => yG h 8 rfl rfl rfl rfl) (ag trivial))))))))
 intro _ w31 H31
 clear H30
 refine zF (l := [9]) rfl ?_
 refine sG rfl (fun h => ex_storeI h 0 rfl rfl Tryz.sizeOf22 rfl rfl (Nat.le_of_ble_eq_true rfl)) 0 [(_, [Value.int .u64 (wd nn 4)]), _, _, _, _, _, _, _, _] H31 o_γs13 fun w32 H32 => ?_
 clear H31
 refine zE (zH (zA ?_))
 refine zB 1 [.quiet (.int .i64 1)] H32 ?ho26 ?he26
 case ho26 => exact av trivial
 intro _ w33 H33
 clear H32
 refine zF (l := [1]) rfl ?_
 refine zG (d := 42) rfl rfl rfl rfl ?_
 simp only [Act.put, sa, sz, ss]
 refine zE (zA ?_)
 refine zK (n := 0) ?_
 refine wp_seq ?_
 refine zB 1 [.quiet (.bool false)] H33 ?ho27 ?he27
 case ho27 => exact ag trivial
 intro _ w34 H34
 clear H33
 refine rN (wp_seq (wp_cond_false rfl ?_))
 refine wp_exit ?_
 repeat refine zY ?_
 refine zT ?_
 refine zA ?_
 refine zB 4 [.quiet (.agg (G2 tn (e0 u) (e1 u) (e0 b) (e1 b)).toArray), .quiet (V [e0 ((S 1).1), e1 ((S 1).1), e0 ((S 1).2.1), e1 ((S 1).2.1), e0 ((S 1).2.2), e1 ((S 1).2.2)]), .quiet (.slice (some ⟨γs3, 0, none⟩) 1 1), .quiet (.slice (some ⟨γs13, 0, none⟩) 1 1)] H34 ?ho28 ?he28
 case ho28 => exact bT 4 Tryz.isAgg101 Tryz.sizeOf101 (bA 0 6 1 Tryz.isAgg139 Tryz.sizeOf139 (ar (ar trivial)))
 intro _ w35 H35
 clear H34
 refine zF (l := [4, 5]) rfl ?_
 refine rest_enter (d := 59) (R := fun vv w' => vv = V [e0 ((S 2).1), e1 ((S 2).1), e0 ((S 2).2.1), e1 ((S 2).2.1), e0 ((S 2).2.2), e1 ((S 2).2.2)] ∧ Mm w' [(γs13, [Value.int .u64 0])] ∧ Kp γs13 w35 w') rfl rfl rfl (exec_call (args := #[.agg (G2 tn (e0 u) (e1 u) (e0 b) (e1 b)).toArray, V [e0 ((S 1).1), e1 ((S 1).1), e0 ((S 1).2.1), e1 ((S 1).2.1), e0 ((S 1).2.2), e1 ((S 1).2.2)], .slice (some ⟨γs3, 0, none⟩) 1 1, .slice (some ⟨γs13, 0, none⟩) 1 1]) rfl call155 rfl (mpn rfl)) (Calls.mono (C1.out γs3 γs13 w35 (H35.out.1.pick [6, 3, 0] rfl (by decide))) (fun e w2 hh => ⟨_, hh.1, rfl, hh.2⟩)) ?_
 rintro _ w36 ⟨rfl, hn, hp⟩
 have H36 : Hid (Mm w36 [(γs13, [Value.int .u64 0]), (γ9_2, cel [e0 ((S 1).1), e1 ((S 1).1), e0 ((S 1).2.1), e1 ((S 1).2.1), e0 ((S 1).2.2), e1 ((S 1).2.2)]), (γ5_3, zV x0 x1 y0 y1 zb), (γs3, cel (tb2 f)), (γ1_0, G2 tn (e0 u) (e1 u) (e0 b) (e1 b)), (γ1_1, cel [0, 0, 0, 0, 0, 0]), (0, dtab), (gp, zV x0 x1 y0 y1 zb), (gn, zD nn)] ∧ Below w.heap.size w w36) := ⟨H35.out.1.change 0 rfl hp hn, Below.kp H35.out.2 hp o_γs13.out H35.out.2.size⟩
 clear hn hp H35
 simp only [Act.put, sa, sz, ss]
 refine sF 1 [e0 ((S 2).1), e1 ((S 2).1), e0 ((S 2).2.1), e1 ((S 2).2.1), e0 ((S 2).2.2), e1 ((S 2).2.2)] [_, _, _, _, _, _, _, _, _] H36 o9_2 Tryz.sizeOf139 fun w37 H37 => ?_
 clear H36
 refine zE (zH (zA ?_))
 refine zB 2 [.quiet (.int .i64 4), .quiet (.int .i64 3)] H37 ?ho29 ?he29
 case ho29 => exact ar (av trivial)
 intro _ w38 H38
 clear H37
 refine zF (l := [2]) rfl ?_
 refine zG (d := 12) rfl rfl rfl rfl ?_
 simp only [Act.put, sa, sz, ss]
 refine zE (zA ?_)
 refine zK (n := 4) ?_
 refine wp_seq (wp_seq ?_)
 refine zB 2 [.quiet (.int .i64 3), .quiet (.bool true)] H38 ?ho30 ?he30
 case ho30 => exact ar (ag trivial)
 intro _ w39 H39
 clear H38
 refine rN (wp_cond_true rfl ?_)
 refine wp_skip (zA ?_)
 refine wp_seq (wp_block ?_)
 refine wp_seq (wp_seq ?_)
 refine zB 3 [.quiet (.slice (some ⟨gn, 0, none⟩) 1 1), .quiet (.int .i64 1), .quiet (.int .i64 0)] H39 ?ho31 ?he31
 case ho31 => exact ar (ag (ar trivial))
 intro _ w40 H40
 clear H39
 refine rN (wp_block ?_)
 refine wp_loop_rounds 2 ?_
 refine zK (n := 1) ?_
 refine wp_seq ?_
 refine zB 1 [.quiet (.bool true)] H40 ?ho32 ?he32
 case ho32 => exact ag trivial
 intro _ w41 H41
 clear H40
 refine rN (wp_seq ?_)
 refine wp_cond_true rfl (wp_skip ?_)
 refine zA (wp_seq ?_)
 refine wp_block (wp_seq ?_)
 refine zB 2 [.quiet (.int .i64 0), .quiet (.int .i64 0)] H41 ?ho33 ?he33
 case ho33 => exact ar (ar trivial)
 intro _ w42 H42
 clear H41
 refine rN ?_
 refine zB 9 [.quiet (.slice (some ⟨γs13, 0, none⟩) 1 1), .quiet (.int .i64 0), .quiet (.slice (some ⟨gn, 0, none⟩) 1 1), .quiet (.int .i64 0), .quiet (.int .i64 3), .quiet (PT gn 0), .quiet (PT gn 3), .quiet (.int .u64 (wd nn 3)), .quiet (PT γs13 0)] H42 ?ho34 ?he34
 case ho34 => exact ar (ar (ar (ar (ar (ag (ag (aq (fun w' h => yG h 8 rfl rfl rfl rfl) (ag trivial))))))))
 intro _ w43 H43
 clear H42
 refine zF (l := [9]) rfl ?_
 refine sG rfl (fun h => ex_storeI h 0 rfl rfl Tryz.sizeOf22 rfl rfl (Nat.le_of_ble_eq_true rfl)) 0 [(_, [Value.int .u64 (wd nn 3)]), _, _, _, _, _, _, _, _] H43 o_γs13 fun w44 H44 => ?_
 clear H43
 refine zE (zH (zA ?_))
 refine zB 1 [.quiet (.int .i64 1)] H44 ?ho35 ?he35
 case ho35 => exact av trivial
 intro _ w45 H45
 clear H44
 refine zF (l := [1]) rfl ?_
 refine zG (d := 42) rfl rfl rfl rfl ?_
 simp only [Act.put, sa, sz, ss]
 refine zE (zA ?_)
 refine zK (n := 0) ?_
 refine wp_seq ?_
 refine zB 1 [.quiet (.bool false)] H45 ?ho36 ?he36
 case ho36 => exact ag trivial
 intro _ w46 H46
 clear H45
 refine rN (wp_seq (wp_cond_false rfl ?_))
 refine wp_exit ?_
 repeat refine zY ?_
 refine zT ?_
 refine zA ?_
 refine zB 4 [.quiet (.agg (G2 tn (e0 u) (e1 u) (e0 b) (e1 b)).toArray), .quiet (V [e0 ((S 2).1), e1 ((S 2).1), e0 ((S 2).2.1), e1 ((S 2).2.1), e0 ((S 2).2.2), e1 ((S 2).2.2)]), .quiet (.slice (some ⟨γs3, 0, none⟩) 1 1), .quiet (.slice (some ⟨γs13, 0, none⟩) 1 1)] H46 ?ho37 ?he37
 case ho37 => exact bT 4 Tryz.isAgg101 Tryz.sizeOf101 (bA 0 6 1 Tryz.isAgg139 Tryz.sizeOf139 (ar (ar trivial)))
 intro _ w47 H47
 clear H46
 refine zF (l := [4, 5]) rfl ?_
 refine rest_enter (d := 59) (R := fun vv w' => vv = V [e0 ((S 3).1), e1 ((S 3).1), e0 ((S 3).2.1), e1 ((S 3).2.1), e0 ((S 3).2.2), e1 ((S 3).2.2)] ∧ Mm w' [(γs13, [Value.int .u64 0])] ∧ Kp γs13 w47 w') rfl rfl rfl (exec_call (args := #[.agg (G2 tn (e0 u) (e1 u) (e0 b) (e1 b)).toArray, V [e0 ((S 2).1), e1 ((S 2).1), e0 ((S 2).2.1), e1 ((S 2).2.1), e0 ((S 2).2.2), e1 ((S 2).2.2)], .slice (some ⟨γs3, 0, none⟩) 1 1, .slice (some ⟨γs13, 0, none⟩) 1 1]) rfl call155 rfl (mpn rfl)) (Calls.mono (C2.out γs3 γs13 w47 (H47.out.1.pick [6, 3, 0] rfl (by decide))) (fun e w2 hh => ⟨_, hh.1, rfl, hh.2⟩)) ?_
 rintro _ w48 ⟨rfl, hn, hp⟩
 have H48 : Hid (Mm w48 [(γs13, [Value.int .u64 0]), (γ9_2, cel [e0 ((S 2).1), e1 ((S 2).1), e0 ((S 2).2.1), e1 ((S 2).2.1), e0 ((S 2).2.2), e1 ((S 2).2.2)]), (γ5_3, zV x0 x1 y0 y1 zb), (γs3, cel (tb2 f)), (γ1_0, G2 tn (e0 u) (e1 u) (e0 b) (e1 b)), (γ1_1, cel [0, 0, 0, 0, 0, 0]), (0, dtab), (gp, zV x0 x1 y0 y1 zb), (gn, zD nn)] ∧ Below w.heap.size w w48) := ⟨H47.out.1.change 0 rfl hp hn, Below.kp H47.out.2 hp o_γs13.out H47.out.2.size⟩
 clear hn hp H47
 simp only [Act.put, sa, sz, ss]
 refine sF 1 [e0 ((S 3).1), e1 ((S 3).1), e0 ((S 3).2.1), e1 ((S 3).2.1), e0 ((S 3).2.2), e1 ((S 3).2.2)] [_, _, _, _, _, _, _, _, _] H48 o9_2 Tryz.sizeOf139 fun w49 H49 => ?_
 clear H48
 refine zE (zH (zA ?_))
 refine zB 2 [.quiet (.int .i64 3), .quiet (.int .i64 2)] H49 ?ho38 ?he38
 case ho38 => exact ar (av trivial)
 intro _ w50 H50
 clear H49
 refine zF (l := [2]) rfl ?_
 refine zG (d := 12) rfl rfl rfl rfl ?_
 simp only [Act.put, sa, sz, ss]
 refine zE (zA ?_)
 refine zK (n := 3) ?_
 refine wp_seq (wp_seq ?_)
 refine zB 2 [.quiet (.int .i64 2), .quiet (.bool true)] H50 ?ho39 ?he39
 case ho39 => exact ar (ag trivial)
 intro _ w51 H51
 clear H50
 refine rN (wp_cond_true rfl ?_)
 refine wp_skip (zA ?_)
 refine wp_seq (wp_block ?_)
 refine wp_seq (wp_seq ?_)
 refine zB 3 [.quiet (.slice (some ⟨gn, 0, none⟩) 1 1), .quiet (.int .i64 1), .quiet (.int .i64 0)] H51 ?ho40 ?he40
 case ho40 => exact ar (ag (ar trivial))
 intro _ w52 H52
 clear H51
 refine rN (wp_block ?_)
 refine wp_loop_rounds 2 ?_
 refine zK (n := 1) ?_
 refine wp_seq ?_
 refine zB 1 [.quiet (.bool true)] H52 ?ho41 ?he41
 case ho41 => exact ag trivial
 intro _ w53 H53
 clear H52
 refine rN (wp_seq ?_)
 refine wp_cond_true rfl (wp_skip ?_)
 refine zA (wp_seq ?_)
 refine wp_block (wp_seq ?_)
 refine zB 2 [.quiet (.int .i64 0), .quiet (.int .i64 0)] H53 ?ho42 ?he42
 case ho42 => exact ar (ar trivial)
 intro _ w54 H54
 clear H53
 refine rN ?_
 refine zB 9 [.quiet (.slice (some ⟨γs13, 0, none⟩) 1 1), .quiet (.int .i64 0), .quiet (.slice (some ⟨gn, 0, none⟩) 1 1), .quiet (.int .i64 0), .quiet (.int .i64 2), .quiet (PT gn 0), .quiet (PT gn 2), .quiet (.int .u64 (wd nn 2)), .quiet (PT γs13 0)] H54 ?ho43 ?he43
 case ho43 => exact ar (ar (ar (ar (ar (ag (ag (aq (fun w' h => yG h 8 rfl rfl rfl rfl) (ag trivial))))))))
 intro _ w55 H55
 clear H54
 refine zF (l := [9]) rfl ?_
 refine sG rfl (fun h => ex_storeI h 0 rfl rfl Tryz.sizeOf22 rfl rfl (Nat.le_of_ble_eq_true rfl)) 0 [(_, [Value.int .u64 (wd nn 2)]), _, _, _, _, _, _, _, _] H55 o_γs13 fun w56 H56 => ?_
 clear H55
 refine zE (zH (zA ?_))
 refine zB 1 [.quiet (.int .i64 1)] H56 ?ho44 ?he44
 case ho44 => exact av trivial
 intro _ w57 H57
 clear H56
 refine zF (l := [1]) rfl ?_
 refine zG (d := 42) rfl rfl rfl rfl ?_
 simp only [Act.put, sa, sz, ss]
 refine zE (zA ?_)
 refine zK (n := 0) ?_
 refine wp_seq ?_
 refine zB 1 [.quiet (.bool false)] H57 ?ho45 ?he45
 case ho45 => exact ag trivial
 intro _ w58 H58
 clear H57
 refine rN (wp_seq (wp_cond_false rfl ?_))
 refine wp_exit ?_
 repeat refine zY ?_
 refine zT ?_
 refine zA ?_
 refine zB 4 [.quiet (.agg (G2 tn (e0 u) (e1 u) (e0 b) (e1 b)).toArray), .quiet (V [e0 ((S 3).1), e1 ((S 3).1), e0 ((S 3).2.1), e1 ((S 3).2.1), e0 ((S 3).2.2), e1 ((S 3).2.2)]), .quiet (.slice (some ⟨γs3, 0, none⟩) 1 1), .quiet (.slice (some ⟨γs13, 0, none⟩) 1 1)] H58 ?ho46 ?he46
 case ho46 => exact bT 4 Tryz.isAgg101 Tryz.sizeOf101 (bA 0 6 1 Tryz.isAgg139 Tryz.sizeOf139 (ar (ar trivial)))
 intro _ w59 H59
 clear H58
 refine zF (l := [4, 5]) rfl ?_
 refine rest_enter (d := 59) (R := fun vv w' => vv = V [e0 ((S 4).1), e1 ((S 4).1), e0 ((S 4).2.1), e1 ((S 4).2.1), e0 ((S 4).2.2), e1 ((S 4).2.2)] ∧ Mm w' [(γs13, [Value.int .u64 0])] ∧ Kp γs13 w59 w') rfl rfl rfl (exec_call (args := #[.agg (G2 tn (e0 u) (e1 u) (e0 b) (e1 b)).toArray, V [e0 ((S 3).1), e1 ((S 3).1), e0 ((S 3).2.1), e1 ((S 3).2.1), e0 ((S 3).2.2), e1 ((S 3).2.2)], .slice (some ⟨γs3, 0, none⟩) 1 1, .slice (some ⟨γs13, 0, none⟩) 1 1]) rfl call155 rfl (mpn rfl)) (Calls.mono (C3.out γs3 γs13 w59 (H59.out.1.pick [6, 3, 0] rfl (by decide))) (fun e w2 hh => ⟨_, hh.1, rfl, hh.2⟩)) ?_
 rintro _ w60 ⟨rfl, hn, hp⟩
 have H60 : Hid (Mm w60 [(γs13, [Value.int .u64 0]), (γ9_2, cel [e0 ((S 3).1), e1 ((S 3).1), e0 ((S 3).2.1), e1 ((S 3).2.1), e0 ((S 3).2.2), e1 ((S 3).2.2)]), (γ5_3, zV x0 x1 y0 y1 zb), (γs3, cel (tb2 f)), (γ1_0, G2 tn (e0 u) (e1 u) (e0 b) (e1 b)), (γ1_1, cel [0, 0, 0, 0, 0, 0]), (0, dtab), (gp, zV x0 x1 y0 y1 zb), (gn, zD nn)] ∧ Below w.heap.size w w60) := ⟨H59.out.1.change 0 rfl hp hn, Below.kp H59.out.2 hp o_γs13.out H59.out.2.size⟩
 clear hn hp H59
 simp only [Act.put, sa, sz, ss]
 refine sF 1 [e0 ((S 4).1), e1 ((S 4).1), e0 ((S 4).2.1), e1 ((S 4).2.1), e0 ((S 4).2.2), e1 ((S 4).2.2)] [_, _, _, _, _, _, _, _, _] H60 o9_2 Tryz.sizeOf139 fun w61 H61 => ?_
 clear H60
 refine zE (zH (zA ?_))
 refine zB 2 [.quiet (.int .i64 2), .quiet (.int .i64 1)] H61 ?ho47 ?he47
 case ho47 => exact ar (av trivial)
 intro _ w62 H62
 clear H61
 refine zF (l := [2]) rfl ?_
 refine zG (d := 12) rfl rfl rfl rfl ?_
 simp only [Act.put, sa, sz, ss]
 refine zE (zA ?_)
 refine zK (n := 2) ?_
 refine wp_seq (wp_seq ?_)
 refine zB 2 [.quiet (.int .i64 1), .quiet (.bool true)] H62 ?ho48 ?he48
 case ho48 => exact ar (ag trivial)
 intro _ w63 H63
 clear H62
 refine rN (wp_cond_true rfl ?_)
 refine wp_skip (zA ?_)
 refine wp_seq (wp_block ?_)
 refine wp_seq (wp_seq ?_)
 refine zB 3 [.quiet (.slice (some ⟨gn, 0, none⟩) 1 1), .quiet (.int .i64 1), .quiet (.int .i64 0)] H63 ?ho49 ?he49
 case ho49 => exact ar (ag (ar trivial))
 intro _ w64 H64
 clear H63
 refine rN (wp_block ?_)
 refine wp_loop_rounds 2 ?_
 refine zK (n := 1) ?_
 refine wp_seq ?_
 refine zB 1 [.quiet (.bool true)] H64 ?ho50 ?he50
 case ho50 => exact ag trivial
 intro _ w65 H65
 clear H64
 refine rN (wp_seq ?_)
 refine wp_cond_true rfl (wp_skip ?_)
 refine zA (wp_seq ?_)
 refine wp_block (wp_seq ?_)
 refine zB 2 [.quiet (.int .i64 0), .quiet (.int .i64 0)] H65 ?ho51 ?he51
 case ho51 => exact ar (ar trivial)
 intro _ w66 H66
 clear H65
 refine rN ?_
 refine zB 9 [.quiet (.slice (some ⟨γs13, 0, none⟩) 1 1), .quiet (.int .i64 0), .quiet (.slice (some ⟨gn, 0, none⟩) 1 1), .quiet (.int .i64 0), .quiet (.int .i64 1), .quiet (PT gn 0), .quiet (PT gn 1), .quiet (.int .u64 (wd nn 1)), .quiet (PT γs13 0)] H66 ?ho52 ?he52
 case ho52 => exact ar (ar (ar (ar (ar (ag (ag (aq (fun w' h => yG h 8 rfl rfl rfl rfl) (ag trivial))))))))
 intro _ w67 H67
 clear H66
 refine zF (l := [9]) rfl ?_
 refine sG rfl (fun h => ex_storeI h 0 rfl rfl Tryz.sizeOf22 rfl rfl (Nat.le_of_ble_eq_true rfl)) 0 [(_, [Value.int .u64 (wd nn 1)]), _, _, _, _, _, _, _, _] H67 o_γs13 fun w68 H68 => ?_
 clear H67
 refine zE (zH (zA ?_))
 refine zB 1 [.quiet (.int .i64 1)] H68 ?ho53 ?he53
 case ho53 => exact av trivial
 intro _ w69 H69
 clear H68
 refine zF (l := [1]) rfl ?_
 refine zG (d := 42) rfl rfl rfl rfl ?_
 simp only [Act.put, sa, sz, ss]
 refine zE (zA ?_)
 refine zK (n := 0) ?_
 refine wp_seq ?_
 refine zB 1 [.quiet (.bool false)] H69 ?ho54 ?he54
 case ho54 => exact ag trivial
 intro _ w70 H70
 clear H69
 refine rN (wp_seq (wp_cond_false rfl ?_))
 refine wp_exit ?_
 repeat refine zY ?_
 refine zT ?_
 refine zA ?_
 refine zB 4 [.quiet (.agg (G2 tn (e0 u) (e1 u) (e0 b) (e1 b)).toArray), .quiet (V [e0 ((S 4).1), e1 ((S 4).1), e0 ((S 4).2.1), e1 ((S 4).2.1), e0 ((S 4).2.2), e1 ((S 4).2.2)]), .quiet (.slice (some ⟨γs3, 0, none⟩) 1 1), .quiet (.slice (some ⟨γs13, 0, none⟩) 1 1)] H70 ?ho55 ?he55
 case ho55 => exact bT 4 Tryz.isAgg101 Tryz.sizeOf101 (bA 0 6 1 Tryz.isAgg139 Tryz.sizeOf139 (ar (ar trivial)))
 intro _ w71 H71
 clear H70
 refine zF (l := [4, 5]) rfl ?_
 refine rest_enter (d := 59) (R := fun vv w' => vv = V [e0 ((S 5).1), e1 ((S 5).1), e0 ((S 5).2.1), e1 ((S 5).2.1), e0 ((S 5).2.2), e1 ((S 5).2.2)] ∧ Mm w' [(γs13, [Value.int .u64 0])] ∧ Kp γs13 w71 w') rfl rfl rfl (exec_call (args := #[.agg (G2 tn (e0 u) (e1 u) (e0 b) (e1 b)).toArray, V [e0 ((S 4).1), e1 ((S 4).1), e0 ((S 4).2.1), e1 ((S 4).2.1), e0 ((S 4).2.2), e1 ((S 4).2.2)], .slice (some ⟨γs3, 0, none⟩) 1 1, .slice (some ⟨γs13, 0, none⟩) 1 1]) rfl call155 rfl (mpn rfl)) (Calls.mono (C4.out γs3 γs13 w71 (H71.out.1.pick [6, 3, 0] rfl (by decide))) (fun e w2 hh => ⟨_, hh.1, rfl, hh.2⟩)) ?_
 rintro _ w72 ⟨rfl, hn, hp⟩
 have H72 : Hid (Mm w72 [(γs13, [Value.int .u64 0]), (γ9_2, cel [e0 ((S 4).1), e1 ((S 4).1), e0 ((S 4).2.1), e1 ((S 4).2.1), e0 ((S 4).2.2), e1 ((S 4).2.2)]), (γ5_3, zV x0 x1 y0 y1 zb), (γs3, cel (tb2 f)), (γ1_0, G2 tn (e0 u) (e1 u) (e0 b) (e1 b)), (γ1_1, cel [0, 0, 0, 0, 0, 0]), (0, dtab), (gp, zV x0 x1 y0 y1 zb), (gn, zD nn)] ∧ Below w.heap.size w w72) := ⟨H71.out.1.change 0 rfl hp hn, Below.kp H71.out.2 hp o_γs13.out H71.out.2.size⟩
 clear hn hp H71
 simp only [Act.put, sa, sz, ss]
 refine sF 1 [e0 ((S 5).1), e1 ((S 5).1), e0 ((S 5).2.1), e1 ((S 5).2.1), e0 ((S 5).2.2), e1 ((S 5).2.2)] [_, _, _, _, _, _, _, _, _] H72 o9_2 Tryz.sizeOf139 fun w73 H73 => ?_
 clear H72
 refine zE (zH (zA ?_))
 refine zB 2 [.quiet (.int .i64 1), .quiet (.int .i64 0)] H73 ?ho56 ?he56
 case ho56 => exact ar (av trivial)
 intro _ w74 H74
 clear H73
 refine zF (l := [2]) rfl ?_
 refine zG (d := 12) rfl rfl rfl rfl ?_
 simp only [Act.put, sa, sz, ss]
 refine zE (zA ?_)
 refine zK (n := 1) ?_
 refine wp_seq (wp_seq ?_)
 refine zB 2 [.quiet (.int .i64 0), .quiet (.bool true)] H74 ?ho57 ?he57
 case ho57 => exact ar (ag trivial)
 intro _ w75 H75
 clear H74
 refine rN (wp_cond_true rfl ?_)
 refine wp_skip (zA ?_)
 refine wp_seq (wp_block ?_)
 refine wp_seq (wp_seq ?_)
 refine zB 3 [.quiet (.slice (some ⟨gn, 0, none⟩) 1 1), .quiet (.int .i64 1), .quiet (.int .i64 0)] H75 ?ho58 ?he58
 case ho58 => exact ar (ag (ar trivial))
 intro _ w76 H76
 clear H75
 refine rN (wp_block ?_)
 refine wp_loop_rounds 2 ?_
 refine zK (n := 1) ?_
 refine wp_seq ?_
 refine zB 1 [.quiet (.bool true)] H76 ?ho59 ?he59
 case ho59 => exact ag trivial
 intro _ w77 H77
 clear H76
 refine rN (wp_seq ?_)
 refine wp_cond_true rfl (wp_skip ?_)
 refine zA (wp_seq ?_)
 refine wp_block (wp_seq ?_)
 refine zB 2 [.quiet (.int .i64 0), .quiet (.int .i64 0)] H77 ?ho60 ?he60
 case ho60 => exact ar (ar trivial)
 intro _ w78 H78
 clear H77
 refine rN ?_
 refine zB 9 [.quiet (.slice (some ⟨γs13, 0, none⟩) 1 1), .quiet (.int .i64 0), .quiet (.slice (some ⟨gn, 0, none⟩) 1 1), .quiet (.int .i64 0), .quiet (.int .i64 0), .quiet (PT gn 0), .quiet (PT gn 0), .quiet (.int .u64 (wd nn 0)), .quiet (PT γs13 0)] H78 ?ho61 ?he61
 case ho61 => exact ar (ar (ar (ar (ar (ag (ag (aq (fun w' h => yG h 8 rfl rfl rfl rfl) (ag trivial))))))))
 intro _ w79 H79
 clear H78
 refine zF (l := [9]) rfl ?_
 refine sG rfl (fun h => ex_storeI h 0 rfl rfl Tryz.sizeOf22 rfl rfl (Nat.le_of_ble_eq_true rfl)) 0 [(_, [Value.int .u64 (wd nn 0)]), _, _, _, _, _, _, _, _] H79 o_γs13 fun w80 H80 => ?_
 clear H79
 refine zE (zH (zA ?_))
 refine zB 1 [.quiet (.int .i64 1)] H80 ?ho62 ?he62
 case ho62 => exact av trivial
 intro _ w81 H81
 clear H80
 refine zF (l := [1]) rfl ?_
 refine zG (d := 42) rfl rfl rfl rfl ?_
 simp only [Act.put, sa, sz, ss]
 refine zE (zA ?_)
 refine zK (n := 0) ?_
 refine wp_seq ?_
 refine zB 1 [.quiet (.bool false)] H81 ?ho63 ?he63
 case ho63 => exact ag trivial
 intro _ w82 H82
 clear H81
 refine rN (wp_seq (wp_cond_false rfl ?_))
 refine wp_exit ?_
 repeat refine zY ?_
 refine zT ?_
 refine zA ?_
 refine zB 4 [.quiet (.agg (G2 tn (e0 u) (e1 u) (e0 b) (e1 b)).toArray), .quiet (V [e0 ((S 5).1), e1 ((S 5).1), e0 ((S 5).2.1), e1 ((S 5).2.1), e0 ((S 5).2.2), e1 ((S 5).2.2)]), .quiet (.slice (some ⟨γs3, 0, none⟩) 1 1), .quiet (.slice (some ⟨γs13, 0, none⟩) 1 1)] H82 ?ho64 ?he64
 case ho64 => exact bT 4 Tryz.isAgg101 Tryz.sizeOf101 (bA 0 6 1 Tryz.isAgg139 Tryz.sizeOf139 (ar (ar trivial)))
 intro _ w83 H83
 clear H82
 refine zF (l := [4, 5]) rfl ?_
 refine rest_enter (d := 59) (R := fun vv w' => vv = V [e0 ((S 6).1), e1 ((S 6).1), e0 ((S 6).2.1), e1 ((S 6).2.1), e0 ((S 6).2.2), e1 ((S 6).2.2)] ∧ Mm w' [(γs13, [Value.int .u64 0])] ∧ Kp γs13 w83 w') rfl rfl rfl (exec_call (args := #[.agg (G2 tn (e0 u) (e1 u) (e0 b) (e1 b)).toArray, V [e0 ((S 5).1), e1 ((S 5).1), e0 ((S 5).2.1), e1 ((S 5).2.1), e0 ((S 5).2.2), e1 ((S 5).2.2)], .slice (some ⟨γs3, 0, none⟩) 1 1, .slice (some ⟨γs13, 0, none⟩) 1 1]) rfl call155 rfl (mpn rfl)) (Calls.mono (C5.out γs3 γs13 w83 (H83.out.1.pick [6, 3, 0] rfl (by decide))) (fun e w2 hh => ⟨_, hh.1, rfl, hh.2⟩)) ?_
 rintro _ w84 ⟨rfl, hn, hp⟩
 have H84 : Hid (Mm w84 [(γs13, [Value.int .u64 0]), (γ9_2, cel [e0 ((S 5).1), e1 ((S 5).1), e0 ((S 5).2.1), e1 ((S 5).2.1), e0 ((S 5).2.2), e1 ((S 5).2.2)]), (γ5_3, zV x0 x1 y0 y1 zb), (γs3, cel (tb2 f)), (γ1_0, G2 tn (e0 u) (e1 u) (e0 b) (e1 b)), (γ1_1, cel [0, 0, 0, 0, 0, 0]), (0, dtab), (gp, zV x0 x1 y0 y1 zb), (gn, zD nn)] ∧ Below w.heap.size w w84) := ⟨H83.out.1.change 0 rfl hp hn, Below.kp H83.out.2 hp o_γs13.out H83.out.2.size⟩
 clear hn hp H83
 simp only [Act.put, sa, sz, ss]
 refine sF 1 [e0 ((S 6).1), e1 ((S 6).1), e0 ((S 6).2.1), e1 ((S 6).2.1), e0 ((S 6).2.2), e1 ((S 6).2.2)] [_, _, _, _, _, _, _, _, _] H84 o9_2 Tryz.sizeOf139 fun w85 H85 => ?_
 clear H84
 refine zE (zH (zA ?_))
 refine zB 2 [.quiet (.int .i64 0), .quiet (.int .i64 (-1))] H85 ?ho65 ?he65
 case ho65 => exact ar (av trivial)
 intro _ w86 H86
 clear H85
 refine zF (l := [2]) rfl ?_
 refine zG (d := 12) rfl rfl rfl rfl ?_
 simp only [Act.put, sa, sz, ss]
 refine zE (zA ?_)
 refine zK (n := 0) ?_
 refine wp_seq (wp_seq ?_)
 refine zB 2 [.quiet (.int .i64 (-1)), .quiet (.bool false)] H86 ?ho66 ?he66
 case ho66 => exact ar (ag trivial)
 intro _ w87 H87
 clear H86
 refine rN (wp_cond_false rfl ?_)
 refine wp_exit ?_
 repeat refine zY ?_
 refine zT ?_
 refine zA (wp_seq ?_)
 refine zB 1 [.quiet (V [e0 ((S 6).1), e1 ((S 6).1), e0 ((S 6).2.1), e1 ((S 6).2.1), e0 ((S 6).2.2), e1 ((S 6).2.2)])] H87 ?ho67 ?he67
 case ho67 => exact bA 0 6 1 Tryz.isAgg139 Tryz.sizeOf139 trivial
 intro _ w88 H88
 clear H87
 refine zF (l := [1]) rfl ?_
 refine sF 5 [e0 ((S 6).1), e1 ((S 6).1), e0 ((S 6).2.1), e1 ((S 6).2.1), e0 ((S 6).2.2), e1 ((S 6).2.2)] [_, _, _, _, _, _, _, _, _] H88 o1_1 Tryz.sizeOf139 fun w89 H89 => ?_
 clear H88
 refine zE (zA (wp_ret ?_))
 repeat (first | refine zM ?_ | refine zI ?_)
 have hf0 := cel_var (k := 6) H89.out.1 5 rfl Tryz.isAgg139 Tryz.sizeOf139 rfl
 refine bodyPost_ret (v := V [e0 ((S 6).1), e1 ((S 6).1), e0 ((S 6).2.1), e1 ((S 6).2.1), e0 ((S 6).2.2), e1 ((S 6).2.2)]) (by simp [results, Tryz.results120, asAddr, hf0]) rfl ?_
 exact ⟨rfl, H89.out.2⟩
set_option maxHeartbeats 4000000 in
theorem sumY_2 {α : Type} {e0 e1 : α → Nat} {fa fs fm : α → α → α} {fi : α → α} {z u b : α} {tn : Value} (_C : Fd2 e0 e1 fa fs fm fi z) (O T U : EC.Tri α) (x0 x1 y0 y1 r0 r1 k0 k1 nn gp gn : Nat) (zb zr : Bool) (ck : ∀ w, Mm w [(0, dtab)] → Calls Tryz.prog 63 #[.agg (G2 tn (e0 u) (e1 u) (e0 b) (e1 b)).toArray, .agg (zV x0 x1 y0 y1 zb).toArray] w (Rt w (.bool true))) (cz : ∀ w, Mm w [(0, dtab)] → Calls Tryz.prog 119 #[.agg (G2 tn (e0 u) (e1 u) (e0 b) (e1 b)).toArray] w (Rt w (V [e0 O.1, e1 O.1, e0 O.2.1, e1 O.2.1, e0 O.2.2, e1 O.2.2]))) (cs : ∀ w, Mm w [(0, dtab), (gp, zV x0 x1 y0 y1 zb), (gn, zD nn)] → Calls Tryz.prog 120 #[.agg (G2 tn (e0 u) (e1 u) (e0 b) (e1 b)).toArray, .slice (some ⟨gp, 0, none⟩) 1 1, .slice (some ⟨gn, 0, none⟩) 1 1] w (Rt w (V [e0 T.1, e1 T.1, e0 T.2.1, e1 T.2.1, e0 T.2.2, e1 T.2.2]))) (ct : ∀ w, Mm w [(0, dtab)] → Calls Tryz.prog 114 #[.agg (G2 tn (e0 u) (e1 u) (e0 b) (e1 b)).toArray, V [e0 O.1, e1 O.1, e0 O.2.1, e1 O.2.1, e0 O.2.2, e1 O.2.2], V [e0 T.1, e1 T.1, e0 T.2.1, e1 T.2.1, e0 T.2.2, e1 T.2.2]] w (Rt w (V [e0 U.1, e1 U.1, e0 U.2.1, e1 U.2.1, e0 U.2.2, e1 U.2.2]))) (cw : ∀ w, Mm w [(0, dtab)] → Calls Tryz.prog 113 #[.agg (G2 tn (e0 u) (e1 u) (e0 b) (e1 b)).toArray, V [e0 U.1, e1 U.1, e0 U.2.1, e1 U.2.1, e0 U.2.2, e1 U.2.2]] w (Rt w (.agg (zV r0 r1 k0 k1 zr).toArray))) (w : World) (hm : Mm w [(0, dtab), (gp, zV x0 x1 y0 y1 zb), (gn, zD nn)]) :
  Calls Tryz.prog 77 #[.agg (G2 tn (e0 u) (e1 u) (e0 b) (e1 b)).toArray, .slice (some ⟨gp, 0, none⟩) 1 1, .slice (some ⟨gn, 0, none⟩) 1 1] w (Rt w (.tuple #[.agg (zV r0 r1 k0 k1 zr).toArray, .int .i64 0])) := by
 have H0 : Hid (_ ∧ _) := ⟨hm, Below.refl w.heap.size w⟩
 clear hm
 have CK : Hid _ := ck
 clear ck
 have CZ : Hid _ := cz
 clear cz
 have CS : Hid _ := cs
 clear cs
 have CT : Hid _ := ct
 clear ct
 have CW : Hid _ := cw
 clear cw
 go_enter Tryz.func77, Tryz.ntmps77
 refine wp_seq ?_
 refine zC 3 [.made (G2 tn (e0 u) (e1 u) (e0 b) (e1 b)) 101, .made (zV 0 0 0 0 false) 104, .quiet (.int .i64 0)] (sB H0) ?ho1 ?he1
 case ho1 => exact am (zW rfl rfl) (am (ex_madePE rfl) (ar trivial))
 intro γ w1 l hM hl
 have H1 : Hid (Mm w1 ([(γ 0, G2 tn (e0 u) (e1 u) (e0 b) (e1 b)), (γ 1, zV 0 0 0 0 false)] ++ _) ∧ _) := wB H0 hM hl [0, 1]
 have o1_0 := vB H0 hM hl 0
 have o1_1 := vB H0 hM hl 1
 clear hM hl l
 generalize γ 0 = γ1_0 at H1 o1_0 ⊢
 generalize γ 1 = γ1_1 at H1 o1_1 ⊢
 clear γ
 refine rN (wp_seq (wp_seq ?_))
 refine zB 5 [.quiet (.slice (some ⟨gp, 0, none⟩) 1 1), .quiet (.int .i64 1), .quiet (.slice (some ⟨gn, 0, none⟩) 1 1), .quiet (.int .i64 1), .quiet (.bool false)] H1 ?ho2 ?he2
 case ho2 => exact ar (ag (ar (ag (ag trivial))))
 intro _ w2 H2
 clear H1
 refine rN (wp_cond_false rfl ?_)
 refine wp_skip (zA ?_)
 refine wp_seq (wp_seq ?_)
 refine zB 3 [.quiet (.slice (some ⟨gp, 0, none⟩) 1 1), .quiet (.int .i64 1), .quiet (.int .i64 0)] H2 ?ho3 ?he3
 case ho3 => exact ar (ag (ar trivial))
 intro _ w3 H3
 clear H2
 refine rN (wp_block ?_)
 refine wp_loop_rounds 2 ?_
 refine zK (n := 1) ?_
 refine wp_seq ?_
 refine zB 1 [.quiet (.bool true)] H3 ?ho4 ?he4
 case ho4 => exact ag trivial
 intro _ w4 H4
 clear H3
 refine rN (wp_seq ?_)
 refine wp_cond_true rfl (wp_skip ?_)
 refine zA (wp_seq ?_)
 refine wp_block (wp_seq ?_)
 refine zC 4 [.quiet (PT gp 0), .quiet (.agg (zV x0 x1 y0 y1 zb).toArray), .made (zV 0 0 0 0 false) 104, .laid 2 (zV 0 0 0 0 false) (zV x0 x1 y0 y1 zb)] (sB H4) ?ho5 ?he5 (hL := ?hL5)
 case hL5 => exact ⟨⟨_, rfl⟩, trivial⟩
 case ho5 => exact ag (bT 3 Tryz.isAgg104 Tryz.sizeOf104 (am (ex_madePE rfl) (ak (fun γ => ⟨rfl, rfl, rfl, fun w' h => ex_laidT h rfl rfl Tryz.sizeOf104 rfl rfl rfl⟩) trivial)))
 intro γ w5 l hM hl
 have H5 : Hid (Mm w5 ([(γ 2, zV x0 x1 y0 y1 zb)] ++ _) ∧ _) := wB H4 hM hl [2]
 have o5_2 := vB H4 hM hl 2
 clear hM hl l H4
 generalize γ 2 = γ5_2 at H5 o5_2 ⊢
 clear γ
 refine rN (wp_seq ?_)
 refine zB 4 [.quiet (.agg (G2 tn (e0 u) (e1 u) (e0 b) (e1 b)).toArray), .quiet (.agg (zV x0 x1 y0 y1 zb).toArray), .call (.bool true), .quiet (.bool false)] H5 ?ho6 ?he6
 case ho6 => exact bT 1 Tryz.isAgg101 Tryz.sizeOf101 (bT 0 Tryz.isAgg104 Tryz.sizeOf104 (ac (fun w' h => eC call63 (CK.out w' (h.one 3 rfl))) (ag trivial)))
 intro _ w6 H6
 clear H5
 refine rN (wp_cond_false rfl ?_)
 refine wp_skip (zH (zA ?_))
 refine zB 1 [.quiet (.int .i64 1)] H6 ?ho7 ?he7
 case ho7 => exact av trivial
 intro _ w7 H7
 clear H6
 refine zF (l := [1]) rfl ?_
 refine zG (d := 21) rfl rfl rfl rfl ?_
 simp only [Act.put, sa, sz, ss]
 refine zE (zA ?_)
 refine zK (n := 0) ?_
 refine wp_seq ?_
 refine zB 1 [.quiet (.bool false)] H7 ?ho8 ?he8
 case ho8 => exact ag trivial
 intro _ w8 H8
 clear H7
 refine rN (wp_seq (wp_cond_false rfl ?_))
 refine wp_exit ?_
 repeat refine zY ?_
 refine zT ?_
 refine zA (wp_seq ?_)
 refine zC 4 [.quiet (.agg (G2 tn (e0 u) (e1 u) (e0 b) (e1 b)).toArray), .call (V [e0 O.1, e1 O.1, e0 O.2.1, e1 O.2.1, e0 O.2.2, e1 O.2.2]), .made (cel [0, 0, 0, 0, 0, 0]) 139, .laid 2 (cel [0, 0, 0, 0, 0, 0]) (cel [e0 O.1, e1 O.1, e0 O.2.1, e1 O.2.1, e0 O.2.2, e1 O.2.2])] (sB H8) ?ho9 ?he9 (hL := ?hL9)
 case hL9 => exact ⟨⟨_, rfl⟩, trivial⟩
 case ho9 => exact bT 1 Tryz.isAgg101 Tryz.sizeOf101 (ac (fun w' h => eC call119 (CZ.out w' (h.one 3 rfl))) (am (ex_madeTE rfl) (ak (fun γ => ⟨rfl, rfl, rfl, fun w' h => ex_laidA h rfl Tryz.sizeOf139 rfl rfl rfl⟩) trivial)))
 intro γ w9 l hM hl
 have H9 : Hid (Mm w9 ([(γ 2, cel [e0 O.1, e1 O.1, e0 O.2.1, e1 O.2.1, e0 O.2.2, e1 O.2.2])] ++ _) ∧ _) := wB H8 hM hl [2]
 have o9_2 := vB H8 hM hl 2
 clear hM hl l H8
 generalize γ 2 = γ9_2 at H9 o9_2 ⊢
 clear γ
 refine rN (wp_seq (wp_seq ?_))
 refine zB 1 [.quiet (.int .i64 0)] H9 ?ho10 ?he10
 case ho10 => exact ar trivial
 intro _ w10 H10
 clear H9
 refine rN (wp_block ?_)
 refine wp_loop_rounds 2 ?_
 refine zK (n := 1) ?_
 refine wp_seq (wp_seq ?_)
 refine zB 4 [.quiet (.int .i64 0), .quiet (.slice (some ⟨gp, 0, none⟩) 1 1), .quiet (.int .i64 1), .quiet (.bool true)] H10 ?ho11 ?he11
 case ho11 => exact ar (ar (ag (ag trivial)))
 intro _ w11 H11
 clear H10
 refine rN (wp_cond_true rfl ?_)
 refine wp_skip (zA ?_)
 refine wp_seq (wp_block (wp_seq ?_))
 refine zB 6 [.quiet (.int .i64 0), .quiet (.int .i64 32), .quiet (.slice (some ⟨gp, 0, none⟩) 1 1), .quiet (.int .i64 1), .quiet (.int .i64 1), .quiet (.int .i64 1)] H11 ?ho12 ?he12
 case ho12 => exact ar (av (ar (ag (ak (by refine fun γ => ⟨rfl, fun w' h => ?_⟩; clear h; go_simp; rfl) (ar trivial)))))
 intro _ w12 H12
 clear H11
 refine rN ?_
 refine zP 13 [.quiet (.agg (G2 tn (e0 u) (e1 u) (e0 b) (e1 b)).toArray), .quiet (V [e0 O.1, e1 O.1, e0 O.2.1, e1 O.2.1, e0 O.2.2, e1 O.2.2]), .quiet (.agg (G2 tn (e0 u) (e1 u) (e0 b) (e1 b)).toArray), .quiet (.slice (some ⟨gp, 0, none⟩) 1 1), .quiet (.int .i64 0), .quiet (.int .i64 1), .quiet (.slice (some ⟨gp, 0, none⟩) 1 1), .quiet (.slice (some ⟨gn, 0, none⟩) 1 1), .quiet (.int .i64 0), .quiet (.int .i64 1), .quiet (.slice (some ⟨gn, 0, none⟩) 1 1), .call (V [e0 T.1, e1 T.1, e0 T.2.1, e1 T.2.1, e0 T.2.2, e1 T.2.2]), .call (V [e0 U.1, e1 U.1, e0 U.2.1, e1 U.2.1, e0 U.2.2, e1 U.2.2])] H12 ?ho13 ?he13
 case ho13 => exact bT 2 Tryz.isAgg101 Tryz.sizeOf101 (bA 0 6 0 Tryz.isAgg139 Tryz.sizeOf139 (bT 2 Tryz.isAgg101 Tryz.sizeOf101 (ar (ar (ar (ak (fun γ => ⟨rfl, fun w' _ => ex_slice117 rfl rfl rfl rfl⟩) (ar (ar (ar (ak (fun γ => ⟨rfl, fun w' _ => ex_slice65 rfl rfl rfl rfl⟩) (ac (fun w' h => eC call120 (CS.out w' (h.pick [4, 5, 6] rfl (by decide)))) (ac (fun w' h => eC call114 (CT.out w' (h.one 4 rfl))) trivial))))))))))))
 intro _ w13 H13
 clear H12
 refine zF (l := [13]) rfl ?_
 refine sF 0 [e0 U.1, e1 U.1, e0 U.2.1, e1 U.2.1, e0 U.2.2, e1 U.2.2] [_, _, _, _, _, _, _] H13 o9_2 Tryz.sizeOf139 fun w14 H14 => ?_
 clear H13
 refine zE (zH (zA ?_))
 refine zB 2 [.quiet (.int .i64 0), .quiet (.int .i64 32)] H14 ?ho14 ?he14
 case ho14 => exact ar (av trivial)
 intro _ w15 H15
 clear H14
 refine zF (l := [2]) rfl ?_
 refine zG (d := 11) rfl rfl rfl rfl ?_
 simp only [Act.put, sa, sz, ss]
 refine zE (zA ?_)
 refine zK (n := 0) ?_
 refine wp_seq (wp_seq ?_)
 refine zB 4 [.quiet (.int .i64 32), .quiet (.slice (some ⟨gp, 0, none⟩) 1 1), .quiet (.int .i64 1), .quiet (.bool false)] H15 ?ho15 ?he15
 case ho15 => exact ar (ar (ag (ag trivial)))
 intro _ w16 H16
 clear H15
 refine rN (wp_cond_false rfl ?_)
 refine wp_exit ?_
 repeat refine zY ?_
 refine zT ?_
 refine zA (wp_seq ?_)
 refine zB 3 [.quiet (.agg (G2 tn (e0 u) (e1 u) (e0 b) (e1 b)).toArray), .quiet (V [e0 U.1, e1 U.1, e0 U.2.1, e1 U.2.1, e0 U.2.2, e1 U.2.2]), .call (.agg (zV r0 r1 k0 k1 zr).toArray)] H16 ?ho16 ?he16
 case ho16 => exact bT 2 Tryz.isAgg101 Tryz.sizeOf101 (bA 0 6 0 Tryz.isAgg139 Tryz.sizeOf139 (ac (fun w' h => eC call113 (CW.out w' (h.one 4 rfl))) trivial))
 intro _ w17 H17
 clear H16
 refine zF (l := [3, 4]) rfl ?_
 refine sG rfl (fun h => ex_storeT (vs := zV r0 r1 k0 k1 zr) h 3 rfl rfl rfl rfl Tryz.sizeOf104 rfl (Nat.le_of_ble_eq_true rfl)) 3 [_, _, _, (_, zV r0 r1 k0 k1 zr), _, _, _] H17 o1_1 fun w18 H18 => ?_
 clear H17
 refine zG (d := 7) rfl rfl rfl rfl ?_
 simp only [Act.put, sa, sz, ss]
 refine zE (zA (wp_ret ?_))
 repeat (first | refine zM ?_ | refine zI ?_)
 have hf0 := var_T H18.out.1 3 rfl Tryz.isAgg104 Tryz.sizeOf104 rfl
 refine bodyPost_ret (v := .tuple #[.agg (zV r0 r1 k0 k1 zr).toArray, .int .i64 0]) (by simp [results, Tryz.results77, asAddr, Act.eval, hf0]) rfl ?_
 exact ⟨rfl, H18.out.2⟩
set_option maxHeartbeats 4000000 in
theorem Sum_2 (one four x0 x1 y0 y1 r0 r1 k0 k1 nn gl gn : Nat) (zb zr : Bool) (er : Int) (cf : ∀ w, Calls Tryz.prog 62 #[] w fun e w' => Below w.heap.size w w' ∧ ∃ g x, ∃ _y : Nat, e = .returned (.agg (G2 (.func (.func 108) #[] #[PT g 0, PT x 0]) one 0 four four).toArray) ∧ w.heap.size ≤ g ∧ g < w'.heap.size ∧ Blk w' g ([])) (cs : ∀ tn gp w, Mm w [(0, dtab), (gp, zV x0 x1 y0 y1 zb), (gn, zD nn)] → Calls Tryz.prog 77 #[(.agg (G2 tn one 0 four four).toArray), .slice (some ⟨gp, 0, none⟩) 1 1, .slice (some ⟨gn, 0, none⟩) 1 1] w (Rt w (.tuple #[.agg (zV r0 r1 k0 k1 zr).toArray, .int .i64 er]))) (w : World) (hm : Mm w [(0, dtab), (gl, zV x0 x1 y0 y1 zb), (gn, zD nn)]) :
  Calls Tryz.prog 40 #[.slice (some ⟨gl, 0, none⟩) 1 1, .slice (some ⟨gn, 0, none⟩) 1 1] w (Rt w (.tuple #[.agg (zV r0 r1 k0 k1 zr).toArray, .int .i64 er])) := by
 have H0 : Hid (_ ∧ _) := ⟨hm, Below.refl w.heap.size w⟩
 clear hm
 have CF : Hid _ := cf
 clear cf
 have CS : Hid _ := cs
 clear cs
 go_enter Tryz.func40, Tryz.ntmps40
 refine wp_seq ?_
 refine zC 2 [.made (zV 0 0 0 0 false) 42, .quiet (.int .i64 0)] (sB H0) ?ho1 ?he1
 case ho1 => exact am (ex_madeP2 rfl) (ar trivial)
 intro γ w1 l hM hl
 have H1 : Hid (Mm w1 ([(γ 0, zV 0 0 0 0 false)] ++ _) ∧ _) := wB H0 hM hl [0]
 have o1_0 := vB H0 hM hl 0
 clear hM hl l
 generalize γ 0 = γ1_0 at H1 o1_0 ⊢
 clear γ
 refine rN (wp_seq ?_)
 refine zB 2 [.quiet (.slice (some ⟨gl, 0, none⟩) 1 1), .quiet (.int .i64 1)] H1 ?ho2 ?he2
 case ho2 => exact ar (ag trivial)
 intro _ w2 H2
 clear H1
 refine zF (l := [2, 3]) rfl ?_
 refine zG (d := 13) (v := .slice (some ⟨w2.heap.size, 0, none⟩) 1 1) (w' := w2.alloc (.cells (zV 0 0 0 0 false : List Value).toArray 104)) rfl rfl rfl (ex_mkPE rfl rfl rfl) ?_
 simp only [Act.put, sa, sz, ss]
 have o_γs3 : Hid (w.heap.size ≤ w2.heap.size) := H2.out.2.size
 have H3 : Hid (Mm (w2.alloc (.cells (zV 0 0 0 0 false : List Value).toArray 104)) ((w2.heap.size, zV 0 0 0 0 false) :: [(γ1_0, zV 0 0 0 0 false), (0, dtab), (gl, zV x0 x1 y0 y1 zb), (gn, zD nn)]) ∧ Below w.heap.size w (w2.alloc (.cells (zV 0 0 0 0 false : List Value).toArray 104))) := ⟨H2.out.1.alloc _ 104 rfl, H2.out.2.alloc H2.out.2.size _⟩
 clear H2
 generalize hgw : w2.alloc (.cells (zV 0 0 0 0 false : List Value).toArray 104) = w3 at H3 ⊢
 clear hgw
 generalize w2.heap.size = γs3 at o_γs3 H3 ⊢
 refine zG (d := 6) rfl rfl rfl rfl ?_
 simp only [Act.put, sa, sz, ss]
 refine zE (zA ?_)
 refine wp_seq (wp_seq ?_)
 refine zB 3 [.quiet (.slice (some ⟨gl, 0, none⟩) 1 1), .quiet (.int .i64 1), .quiet (.int .i64 0)] H3 ?ho3 ?he3
 case ho3 => exact ar (ag (ar trivial))
 intro _ w4 H4
 clear H3
 refine rN (wp_block ?_)
 refine wp_loop_rounds 2 ?_
 refine zK (n := 1) ?_
 refine wp_seq ?_
 refine zB 1 [.quiet (.bool true)] H4 ?ho4 ?he4
 case ho4 => exact ag trivial
 intro _ w5 H5
 clear H4
 refine rN (wp_seq ?_)
 refine wp_cond_true rfl (wp_skip ?_)
 refine zA (wp_seq ?_)
 refine wp_block (wp_seq ?_)
 refine zC 6 [.quiet (.int .i64 0), .quiet (PT gl 0), .quiet (.agg (zV x0 x1 y0 y1 zb).toArray), .made (zV 0 0 0 0 false) 42, .quiet (.int .i64 0), .laid 3 (zV 0 0 0 0 false) (zV x0 x1 y0 y1 zb)] (sB H5) ?ho5 ?he5 (hL := ?hL5)
 case hL5 => exact ⟨⟨_, rfl⟩, trivial⟩
 case ho5 => exact ar (ag (bT 3 Tryz.isAgg42 Tryz.sizeOf42 (am (ex_madeP2 rfl) (ar (ak (fun γ => ⟨rfl, rfl, rfl, fun w' h => ex_laidT h rfl rfl Tryz.sizeOf42 rfl rfl rfl⟩) trivial)))))
 intro γ w6 l hM hl
 have H6 : Hid (Mm w6 ([(γ 3, zV x0 x1 y0 y1 zb)] ++ _) ∧ _) := wB H5 hM hl [3]
 have o5_3 := vB H5 hM hl 3
 clear hM hl l H5
 generalize γ 3 = γ5_3 at H6 o5_3 ⊢
 clear γ
 refine rN ?_
 refine zB 4 [.quiet (.slice (some ⟨γs3, 0, none⟩) 1 1), .quiet (.int .i64 0), .quiet (.agg (zV x0 x1 y0 y1 zb).toArray), .quiet (PT γs3 0)] H6 ?ho6 ?he6
 case ho6 => exact ar (ar (bT 0 Tryz.isAgg42 Tryz.sizeOf42 (ag trivial)))
 intro _ w7 H7
 clear H6
 refine zF (l := [4]) rfl ?_
 refine sG rfl (fun h => ex_storeT (vs := zV x0 x1 y0 y1 zb) h 1 rfl rfl rfl rfl Tryz.sizeOf104 rfl (Nat.le_of_ble_eq_true rfl)) 1 [_, (_, zV x0 x1 y0 y1 zb), _, _, _, _] H7 o_γs3 fun w8 H8 => ?_
 clear H7
 refine zE (zH (zA ?_))
 refine zB 1 [.quiet (.int .i64 1)] H8 ?ho7 ?he7
 case ho7 => exact av trivial
 intro _ w9 H9
 clear H8
 refine zF (l := [1]) rfl ?_
 refine zG (d := 16) rfl rfl rfl rfl ?_
 simp only [Act.put, sa, sz, ss]
 refine zE (zA ?_)
 refine zK (n := 0) ?_
 refine wp_seq ?_
 refine zB 1 [.quiet (.bool false)] H9 ?ho8 ?he8
 case ho8 => exact ag trivial
 intro _ w10 H10
 clear H9
 refine rN (wp_seq (wp_cond_false rfl ?_))
 refine wp_exit ?_
 repeat refine zY ?_
 refine zT ?_
 refine zA (wp_seq ?_)
 refine zC 10 [.bornX (fun g x y => .agg (G2 (.func (.func 108) #[] #[PT g 0, PT x 0]) one 0 four four).toArray) ([]), .quiet (.slice (some ⟨γs3, 0, none⟩) 1 1), .quiet (.slice (some ⟨gn, 0, none⟩) 1 1), .over (.tuple #[.agg (zV r0 r1 k0 k1 zr).toArray, .int .i64 er]) 0 ([]), .quiet (.tuple #[.agg (zV r0 r1 k0 k1 zr).toArray, .int .i64 er]), .quiet (.agg (zV r0 r1 k0 k1 zr).toArray), .quiet (.int .i64 er), .made (zV 0 0 0 0 false) 104, .laid 7 (zV 0 0 0 0 false) (zV r0 r1 k0 k1 zr), .quiet (.int .i64 er)] (sB H10) ?ho9 ?he9 (hL := ?hL9)
 case hL9 => exact ⟨⟨_, rfl⟩, ⟨_, rfl⟩, trivial⟩
 case ho9 => exact ak (fun γ => ⟨rfl, fun w' h => eC call62 (CF.out w')⟩) (ar (ar (ak (fun γ => ⟨rfl, fun u w' h0 hge h1 hb hlt => by have h := Mm.over h0 hge h1 hb hlt; exact eC call77 (CS.out _ _ w' (h.pick [4, 2, 6] rfl (by decide)))⟩) (ar (ag (ag (am (ex_madePE rfl) (ak (fun γ => ⟨rfl, rfl, rfl, fun w' h => ex_laidT h rfl rfl Tryz.sizeOf104 rfl rfl rfl⟩) (ar trivial)))))))))
 intro γ w11 l hM hl
 have H11 : Hid (Mm w11 ([(γ 0, []), (γ 7, zV r0 r1 k0 k1 zr)] ++ _) ∧ _) := wB H10 hM hl [0, 7]
 have o9_0 := vB H10 hM hl 0
 have o9_7 := vB H10 hM hl 7
 clear hM hl l H10
 generalize γ 0 = γ9_0 at H11 o9_0 ⊢
 generalize γ 7 = γ9_7 at H11 o9_7 ⊢
 generalize γ 65536 = γ9_65536
 clear γ
 refine rN (wp_seq ?_)
 refine zB 2 [.quiet (.agg (zV r0 r1 k0 k1 zr).toArray), .quiet (.int .i64 er)] H11 ?ho10 ?he10
 case ho10 => exact bT 1 Tryz.isAgg104 Tryz.sizeOf104 (ar trivial)
 intro _ w12 H12
 clear H11
 refine zF (l := [2, 3]) rfl ?_
 refine sG rfl (fun h => ex_storeT (vs := zV r0 r1 k0 k1 zr) h 4 rfl rfl rfl rfl Tryz.sizeOf42 rfl (Nat.le_of_ble_eq_true rfl)) 4 [_, _, _, _, (_, zV r0 r1 k0 k1 zr), _, _, _] H12 o1_0 fun w13 H13 => ?_
 clear H12
 refine zG (d := 5) rfl rfl rfl rfl ?_
 simp only [Act.put, sa, sz, ss]
 refine zE (zA (wp_ret ?_))
 repeat (first | refine zM ?_ | refine zI ?_)
 have hf0 := var_T H13.out.1 4 rfl Tryz.isAgg42 Tryz.sizeOf42 rfl
 refine bodyPost_ret (v := .tuple #[.agg (zV r0 r1 k0 k1 zr).toArray, .int .i64 er]) (by simp [results, Tryz.results40, asAddr, Act.eval, hf0]) rfl ?_
 exact ⟨rfl, H13.out.2⟩
set_option maxHeartbeats 4000000 in
theorem Mul_2 (x0 x1 y0 y1 r0 r1 k0 k1 nn : Nat) (zb zr : Bool) (er : Int) (cs : ∀ gl gn w, Mm w [(0, dtab), (gl, zV x0 x1 y0 y1 zb), (gn, zD nn)] → Calls Tryz.prog 40 #[.slice (some ⟨gl, 0, none⟩) 1 1, .slice (some ⟨gn, 0, none⟩) 1 1] w (Rt w (.tuple #[.agg (zV r0 r1 k0 k1 zr).toArray, .int .i64 er]))) (w : World) (hm : Mm w [(0, dtab)]) :
  Calls Tryz.prog 30 #[.agg (zV x0 x1 y0 y1 zb).toArray, N nn] w (Rt w (.tuple #[.agg (zV r0 r1 k0 k1 zr).toArray, .int .i64 er])) := by
 have H0 : Hid (_ ∧ _) := ⟨hm, Below.refl w.heap.size w⟩
 clear hm
 have CS : Hid _ := cs
 clear cs
 go_enter Tryz.func30, Tryz.ntmps30
 refine wp_seq ?_
 refine zC 4 [.made (zV x0 x1 y0 y1 zb) 42, .made (zD nn) 24, .made (zV 0 0 0 0 false) 42, .quiet (.int .i64 0)] (sB H0) ?ho1 ?he1
 case ho1 => exact am (zW rfl rfl) (am (yF rfl rfl) (am (ex_madeP2 rfl) (ar trivial)))
 intro γ w1 l hM hl
 have H1 : Hid (Mm w1 ([(γ 0, zV x0 x1 y0 y1 zb), (γ 1, zD nn), (γ 2, zV 0 0 0 0 false)] ++ _) ∧ _) := wB H0 hM hl [0, 1, 2]
 have o1_0 := vB H0 hM hl 0
 have o1_1 := vB H0 hM hl 1
 have o1_2 := vB H0 hM hl 2
 clear hM hl l
 generalize γ 0 = γ1_0 at H1 o1_0 ⊢
 generalize γ 1 = γ1_1 at H1 o1_1 ⊢
 generalize γ 2 = γ1_2 at H1 o1_2 ⊢
 clear γ
 refine rN (wp_seq ?_)
 refine zB 1 [.quiet (.agg (zV x0 x1 y0 y1 zb).toArray)] H1 ?ho2 ?he2
 case ho2 => exact bT 0 Tryz.isAgg42 Tryz.sizeOf42 trivial
 intro _ w2 H2
 clear H1
 refine zF (l := [1, 2, 3, 4, 5, 6, 7, 8]) rfl ?_
 refine zG (d := 7) (v := .slice (some ⟨w2.heap.size, 0, none⟩) 1 1) (w' := w2.alloc (.cells (zV x0 x1 y0 y1 zb : List Value).toArray 42)) rfl rfl rfl (ex_bs64 rfl rfl) ?_
 simp only [Act.put, sa, sz, ss]
 have o_γs3 : Hid (w.heap.size ≤ w2.heap.size) := H2.out.2.size
 have H3 : Hid (Mm (w2.alloc (.cells (zV x0 x1 y0 y1 zb : List Value).toArray 42)) ((w2.heap.size, zV x0 x1 y0 y1 zb) :: [(γ1_0, zV x0 x1 y0 y1 zb), (γ1_1, zD nn), (γ1_2, zV 0 0 0 0 false), (0, dtab)]) ∧ Below w.heap.size w (w2.alloc (.cells (zV x0 x1 y0 y1 zb : List Value).toArray 42))) := ⟨H2.out.1.alloc _ 42 rfl, H2.out.2.alloc H2.out.2.size _⟩
 clear H2
 generalize hgw : w2.alloc (.cells (zV x0 x1 y0 y1 zb : List Value).toArray 42) = w3 at H3 ⊢
 clear hgw
 generalize w2.heap.size = γs3 at o_γs3 H3 ⊢
 refine zG (d := 8) (v := N nn) rfl rfl rfl (ex_load6 H3.out.1 2 rfl rfl rfl rfl) ?_
 simp only [Act.put, sa, sz, ss]
 refine zG (d := 9) (v := .slice (some ⟨w3.heap.size, 0, none⟩) 1 1) (w' := w3.alloc (.cells (zD nn : List Value).toArray 24)) rfl rfl rfl (ex_bs65 rfl rfl) ?_
 simp only [Act.put, sa, sz, ss]
 have o_γs4 : Hid (w.heap.size ≤ w3.heap.size) := H3.out.2.size
 have H4 : Hid (Mm (w3.alloc (.cells (zD nn : List Value).toArray 24)) ((w3.heap.size, zD nn) :: [(γs3, zV x0 x1 y0 y1 zb), (γ1_0, zV x0 x1 y0 y1 zb), (γ1_1, zD nn), (γ1_2, zV 0 0 0 0 false), (0, dtab)]) ∧ Below w.heap.size w (w3.alloc (.cells (zD nn : List Value).toArray 24))) := ⟨H3.out.1.alloc _ 24 rfl, H3.out.2.alloc H3.out.2.size _⟩
 clear H3
 generalize hgw : w3.alloc (.cells (zD nn : List Value).toArray 24) = w4 at H4 ⊢
 clear hgw
 generalize w3.heap.size = γs4 at o_γs4 H4 ⊢
 refine rest_enter (d := 10) (R := fun vv w' => vv = .tuple #[.agg (zV r0 r1 k0 k1 zr).toArray, .int .i64 er] ∧ Below w4.heap.size w4 w') rfl rfl rfl (exec_call (args := #[.slice (some ⟨γs3, 0, none⟩) 1 1, .slice (some ⟨γs4, 0, none⟩) 1 1]) rfl call40 rfl (mpn rfl)) (Calls.mono (CS.out _ _ w4 (H4.out.1.pick [5, 1, 0] rfl (by decide))) (fun e w2 hh => ⟨_, hh.1, rfl, hh.2⟩)) ?_
 rintro _ w5 ⟨rfl, hb⟩
 have H5 : Hid (_ ∧ _) := ⟨H4.out.1.below hb, H4.out.2.trans (hb.mono H4.out.2.size)⟩
 clear hb H4
 simp only [Act.put, sa, sz, ss]
 refine zG (d := 11) (v := .agg (zV r0 r1 k0 k1 zr).toArray) (w' := w5) rfl rfl rfl (by go_simp) ?_
 simp only [Act.put, sa, sz, ss]
 refine zG (d := 12) (v := .int .i64 er) (w' := w5) rfl rfl rfl (by go_simp) ?_
 simp only [Act.put, sa, sz, ss]
 refine sG rfl (fun h => ex_storeT (vs := zV r0 r1 k0 k1 zr) h 4 rfl rfl rfl rfl Tryz.sizeOf42 rfl (Nat.le_of_ble_eq_true rfl)) 4 [_, _, _, _, (_, zV r0 r1 k0 k1 zr), _] H5 o1_2 fun w6 H6 => ?_
 clear H5
 refine zG (d := 5) rfl rfl rfl rfl ?_
 simp only [Act.put, sa, sz, ss]
 refine zE (zA (wp_ret ?_))
 repeat (first | refine zM ?_ | refine zI ?_)
 have hf0 := var_T H6.out.1 4 rfl Tryz.isAgg42 Tryz.sizeOf42 rfl
 refine bodyPost_ret (v := .tuple #[.agg (zV r0 r1 k0 k1 zr).toArray, .int .i64 er]) (by simp [results, Tryz.results30, asAddr, Act.eval, hf0]) rfl ?_
 exact ⟨rfl, H6.out.2⟩
end Rg
end Go.Proofs.YtaomlijondiaoaaGreatDoor
end
section
namespace Go.Proofs.YtaomlijondiaoaaGreatDoor
open Go.RowKit
namespace Rg
open NT
def tab2 {I : Fp → Fp} (hI : yC I) (P : Option (Fq × Fq)) : Nat → EC.Tri Fq
 | 0 => (K2 hI).lift none
 | 1 => (K2 hI).lift P
 | 2 => (K2 hI).twice ((K2 hI).lift P)
 | 3 => (K2 hI).tog ((K2 hI).twice ((K2 hI).lift P)) ((K2 hI).lift P)
 | 4 => (K2 hI).twice ((K2 hI).twice ((K2 hI).lift P))
 | 5 => (K2 hI).tog ((K2 hI).twice ((K2 hI).twice ((K2 hI).lift P))) ((K2 hI).lift P)
 | 6 => (K2 hI).twice ((K2 hI).tog ((K2 hI).twice ((K2 hI).lift P)) ((K2 hI).lift P))
 | 7 => (K2 hI).tog ((K2 hI).twice ((K2 hI).tog ((K2 hI).twice ((K2 hI).lift P)) ((K2 hI).lift P))) ((K2 hI).lift P)
 | 8 => (K2 hI).twice ((K2 hI).twice ((K2 hI).twice ((K2 hI).lift P)))
 | 9 => (K2 hI).tog ((K2 hI).twice ((K2 hI).twice ((K2 hI).twice ((K2 hI).lift P)))) ((K2 hI).lift P)
 | 10 => (K2 hI).twice ((K2 hI).tog ((K2 hI).twice ((K2 hI).twice ((K2 hI).lift P))) ((K2 hI).lift P))
 | 11 => (K2 hI).tog ((K2 hI).twice ((K2 hI).tog ((K2 hI).twice ((K2 hI).twice ((K2 hI).lift P))) ((K2 hI).lift P))) ((K2 hI).lift P)
 | 12 => (K2 hI).twice ((K2 hI).twice ((K2 hI).tog ((K2 hI).twice ((K2 hI).lift P)) ((K2 hI).lift P)))
 | 13 => (K2 hI).tog ((K2 hI).twice ((K2 hI).twice ((K2 hI).tog ((K2 hI).twice ((K2 hI).lift P)) ((K2 hI).lift P)))) ((K2 hI).lift P)
 | 14 => (K2 hI).twice ((K2 hI).tog ((K2 hI).twice ((K2 hI).tog ((K2 hI).twice ((K2 hI).lift P)) ((K2 hI).lift P))) ((K2 hI).lift P))
 | 15 => (K2 hI).tog ((K2 hI).twice ((K2 hI).tog ((K2 hI).twice ((K2 hI).tog ((K2 hI).twice ((K2 hI).lift P)) ((K2 hI).lift P))) ((K2 hI).lift P))) ((K2 hI).lift P)
 | _ => (K2 hI).lift none
def fn2 {I : Fp → Fp} (hI : yC I) (P : Option (Fq × Fq)) (k : Nat) : Nat :=
 match k % 6 with
 | 0 => q0 (tab2 hI P (k / 6)).1
 | 1 => q1 (tab2 hI P (k / 6)).1
 | 2 => q0 (tab2 hI P (k / 6)).2.1
 | 3 => q1 (tab2 hI P (k / 6)).2.1
 | 4 => q0 (tab2 hI P (k / 6)).2.2
 | _ => q1 (tab2 hI P (k / 6)).2.2
theorem fn2_0 {I : Fp → Fp} (hI : yC I) (P : Option (Fq × Fq)) (d : Nat) : fn2 hI P (6 * d) = q0 (tab2 hI P d).1 := by
 unfold fn2
 rw [show (6 * d) % 6 = 0 by omega, show (6 * d) / 6 = d by omega]
 rfl
theorem fn2_1 {I : Fp → Fp} (hI : yC I) (P : Option (Fq × Fq)) (d : Nat) : fn2 hI P (6 * d + 1) = q1 (tab2 hI P d).1 := by
 unfold fn2
 rw [show (6 * d + 1) % 6 = 1 by omega, show (6 * d + 1) / 6 = d by omega]
 rfl
theorem fn2_2 {I : Fp → Fp} (hI : yC I) (P : Option (Fq × Fq)) (d : Nat) : fn2 hI P (6 * d + 2) = q0 (tab2 hI P d).2.1 := by
 unfold fn2
 rw [show (6 * d + 2) % 6 = 2 by omega, show (6 * d + 2) / 6 = d by omega]
 rfl
theorem fn2_3 {I : Fp → Fp} (hI : yC I) (P : Option (Fq × Fq)) (d : Nat) : fn2 hI P (6 * d + 3) = q1 (tab2 hI P d).2.1 := by
 unfold fn2
 rw [show (6 * d + 3) % 6 = 3 by omega, show (6 * d + 3) / 6 = d by omega]
 rfl
theorem fn2_4 {I : Fp → Fp} (hI : yC I) (P : Option (Fq × Fq)) (d : Nat) : fn2 hI P (6 * d + 4) = q0 (tab2 hI P d).2.2 := by
 unfold fn2
 rw [show (6 * d + 4) % 6 = 4 by omega, show (6 * d + 4) / 6 = d by omega]
 rfl
theorem fn2_5 {I : Fp → Fp} (hI : yC I) (P : Option (Fq × Fq)) (d : Nat) : fn2 hI P (6 * d + 5) = q1 (tab2 hI P d).2.2 := by
 unfold fn2
 rw [show (6 * d + 5) % 6 = 5 by omega, show (6 * d + 5) / 6 = d by omega]
 rfl
theorem tabrep2 {I : Fp → Fp} (hI : yC I) {P : Option (Fq × Fq)} (h : (K2 hI).on P) : ∀ j, j < 16 → (K2 hI).rep (tab2 hI P j) ((K2 hI).times P j) := by
 have o := fun k => (K2 hI).times_on h k
 have rp : (K2 hI).rep ((K2 hI).lift P) P := (K2 hI).rep_lift P
 have r1 : (K2 hI).rep ((K2 hI).lift P) ((K2 hI).times P 1) := by rw [(K2 hI).times_one h]; exact rp
 have two : ∀ k (A : EC.Tri Fq), (K2 hI).rep A ((K2 hI).times P k) → (K2 hI).rep ((K2 hI).twice A) ((K2 hI).times P (2 * k)) := fun k A hk => by
  rw [← (K2 hI).times_two h]
  exact (K2 hI).rep_twice hk (o k)
 have odd : ∀ k (A : EC.Tri Fq), (K2 hI).rep A ((K2 hI).times P k) → (K2 hI).rep ((K2 hI).tog A ((K2 hI).lift P)) ((K2 hI).times P (k + 1)) := fun k A hk => (K2 hI).rep_tog hk rp (o k) h
 have r2 : (K2 hI).rep (tab2 hI P 2) ((K2 hI).times P 2) := two 1 _ r1
 have r3 : (K2 hI).rep (tab2 hI P 3) ((K2 hI).times P 3) := odd 2 _ r2
 have r4 : (K2 hI).rep (tab2 hI P 4) ((K2 hI).times P 4) := two 2 _ r2
 have r5 : (K2 hI).rep (tab2 hI P 5) ((K2 hI).times P 5) := odd 4 _ r4
 have r6 : (K2 hI).rep (tab2 hI P 6) ((K2 hI).times P 6) := two 3 _ r3
 have r7 : (K2 hI).rep (tab2 hI P 7) ((K2 hI).times P 7) := odd 6 _ r6
 have r8 : (K2 hI).rep (tab2 hI P 8) ((K2 hI).times P 8) := two 4 _ r4
 have r9 : (K2 hI).rep (tab2 hI P 9) ((K2 hI).times P 9) := odd 8 _ r8
 have r10 : (K2 hI).rep (tab2 hI P 10) ((K2 hI).times P 10) := two 5 _ r5
 have r11 : (K2 hI).rep (tab2 hI P 11) ((K2 hI).times P 11) := odd 10 _ r10
 have r12 : (K2 hI).rep (tab2 hI P 12) ((K2 hI).times P 12) := two 6 _ r6
 have r13 : (K2 hI).rep (tab2 hI P 13) ((K2 hI).times P 13) := odd 12 _ r12
 have r14 : (K2 hI).rep (tab2 hI P 14) ((K2 hI).times P 14) := two 7 _ r7
 have r15 : (K2 hI).rep (tab2 hI P 15) ((K2 hI).times P 15) := odd 14 _ r14
 intro j hj
 match j, hj with
 | 0, _ => exact (K2 hI).rep_lift none
 | 1, _ => exact r1
 | 2, _ => exact r2
 | 3, _ => exact r3
 | 4, _ => exact r4
 | 5, _ => exact r5
 | 6, _ => exact r6
 | 7, _ => exact r7
 | 8, _ => exact r8
 | 9, _ => exact r9
 | 10, _ => exact r10
 | 11, _ => exact r11
 | 12, _ => exact r12
 | 13, _ => exact r13
 | 14, _ => exact r14
 | 15, _ => exact r15
 | _ + 16, h => exact absurd h (by omega)
theorem fnl2 {I : Fp → Fp} (hI : yC I) (P : Option (Fq × Fq)) (d : Nat) : [fn2 hI P (6 * d), fn2 hI P (6 * d + 1), fn2 hI P (6 * d + 2), fn2 hI P (6 * d + 3), fn2 hI P (6 * d + 4), fn2 hI P (6 * d + 5)] = t2 (tab2 hI P d) := by rw [fn2_0, fn2_1, fn2_2, fn2_3, fn2_4, fn2_5]
theorem fl2_0 {I : Fp → Fp} (hI : yC I) (P : Option (Fq × Fq)) : [fn2 hI P 0, fn2 hI P 1, fn2 hI P 2, fn2 hI P 3, fn2 hI P 4, fn2 hI P 5] = t2 (tab2 hI P 0) := fnl2 hI P 0
theorem fl2_1 {I : Fp → Fp} (hI : yC I) (P : Option (Fq × Fq)) : [fn2 hI P 6, fn2 hI P 7, fn2 hI P 8, fn2 hI P 9, fn2 hI P 10, fn2 hI P 11] = t2 (tab2 hI P 1) := fnl2 hI P 1
theorem fl2_2 {I : Fp → Fp} (hI : yC I) (P : Option (Fq × Fq)) : [fn2 hI P 12, fn2 hI P 13, fn2 hI P 14, fn2 hI P 15, fn2 hI P 16, fn2 hI P 17] = t2 (tab2 hI P 2) := fnl2 hI P 2
theorem fl2_3 {I : Fp → Fp} (hI : yC I) (P : Option (Fq × Fq)) : [fn2 hI P 18, fn2 hI P 19, fn2 hI P 20, fn2 hI P 21, fn2 hI P 22, fn2 hI P 23] = t2 (tab2 hI P 3) := fnl2 hI P 3
theorem fl2_4 {I : Fp → Fp} (hI : yC I) (P : Option (Fq × Fq)) : [fn2 hI P 24, fn2 hI P 25, fn2 hI P 26, fn2 hI P 27, fn2 hI P 28, fn2 hI P 29] = t2 (tab2 hI P 4) := fnl2 hI P 4
theorem fl2_5 {I : Fp → Fp} (hI : yC I) (P : Option (Fq × Fq)) : [fn2 hI P 30, fn2 hI P 31, fn2 hI P 32, fn2 hI P 33, fn2 hI P 34, fn2 hI P 35] = t2 (tab2 hI P 5) := fnl2 hI P 5
theorem fl2_6 {I : Fp → Fp} (hI : yC I) (P : Option (Fq × Fq)) : [fn2 hI P 36, fn2 hI P 37, fn2 hI P 38, fn2 hI P 39, fn2 hI P 40, fn2 hI P 41] = t2 (tab2 hI P 6) := fnl2 hI P 6
theorem fl2_7 {I : Fp → Fp} (hI : yC I) (P : Option (Fq × Fq)) : [fn2 hI P 42, fn2 hI P 43, fn2 hI P 44, fn2 hI P 45, fn2 hI P 46, fn2 hI P 47] = t2 (tab2 hI P 7) := fnl2 hI P 7
theorem fl2_8 {I : Fp → Fp} (hI : yC I) (P : Option (Fq × Fq)) : [fn2 hI P 48, fn2 hI P 49, fn2 hI P 50, fn2 hI P 51, fn2 hI P 52, fn2 hI P 53] = t2 (tab2 hI P 8) := fnl2 hI P 8
theorem fl2_9 {I : Fp → Fp} (hI : yC I) (P : Option (Fq × Fq)) : [fn2 hI P 54, fn2 hI P 55, fn2 hI P 56, fn2 hI P 57, fn2 hI P 58, fn2 hI P 59] = t2 (tab2 hI P 9) := fnl2 hI P 9
theorem fl2_10 {I : Fp → Fp} (hI : yC I) (P : Option (Fq × Fq)) : [fn2 hI P 60, fn2 hI P 61, fn2 hI P 62, fn2 hI P 63, fn2 hI P 64, fn2 hI P 65] = t2 (tab2 hI P 10) := fnl2 hI P 10
theorem fl2_11 {I : Fp → Fp} (hI : yC I) (P : Option (Fq × Fq)) : [fn2 hI P 66, fn2 hI P 67, fn2 hI P 68, fn2 hI P 69, fn2 hI P 70, fn2 hI P 71] = t2 (tab2 hI P 11) := fnl2 hI P 11
theorem fl2_12 {I : Fp → Fp} (hI : yC I) (P : Option (Fq × Fq)) : [fn2 hI P 72, fn2 hI P 73, fn2 hI P 74, fn2 hI P 75, fn2 hI P 76, fn2 hI P 77] = t2 (tab2 hI P 12) := fnl2 hI P 12
theorem fl2_13 {I : Fp → Fp} (hI : yC I) (P : Option (Fq × Fq)) : [fn2 hI P 78, fn2 hI P 79, fn2 hI P 80, fn2 hI P 81, fn2 hI P 82, fn2 hI P 83] = t2 (tab2 hI P 13) := fnl2 hI P 13
theorem fl2_14 {I : Fp → Fp} (hI : yC I) (P : Option (Fq × Fq)) : [fn2 hI P 84, fn2 hI P 85, fn2 hI P 86, fn2 hI P 87, fn2 hI P 88, fn2 hI P 89] = t2 (tab2 hI P 14) := fnl2 hI P 14
theorem fl2_15 {I : Fp → Fp} (hI : yC I) (P : Option (Fq × Fq)) : [fn2 hI P 90, fn2 hI P 91, fn2 hI P 92, fn2 hI P 93, fn2 hI P 94, fn2 hI P 95] = t2 (tab2 hI P 15) := fnl2 hI P 15
theorem ts2_2 {I : Fp → Fp} (hI : yC I) (P : Option (Fq × Fq)) : tab2 hI P 2 = (K2 hI).twice (tab2 hI P 1) := rfl
theorem ts2_3 {I : Fp → Fp} (hI : yC I) (P : Option (Fq × Fq)) : tab2 hI P 3 = (K2 hI).tog (tab2 hI P 2) (tab2 hI P 1) := rfl
theorem ts2_4 {I : Fp → Fp} (hI : yC I) (P : Option (Fq × Fq)) : tab2 hI P 4 = (K2 hI).twice (tab2 hI P 2) := rfl
theorem ts2_5 {I : Fp → Fp} (hI : yC I) (P : Option (Fq × Fq)) : tab2 hI P 5 = (K2 hI).tog (tab2 hI P 4) (tab2 hI P 1) := rfl
theorem ts2_6 {I : Fp → Fp} (hI : yC I) (P : Option (Fq × Fq)) : tab2 hI P 6 = (K2 hI).twice (tab2 hI P 3) := rfl
theorem ts2_7 {I : Fp → Fp} (hI : yC I) (P : Option (Fq × Fq)) : tab2 hI P 7 = (K2 hI).tog (tab2 hI P 6) (tab2 hI P 1) := rfl
theorem ts2_8 {I : Fp → Fp} (hI : yC I) (P : Option (Fq × Fq)) : tab2 hI P 8 = (K2 hI).twice (tab2 hI P 4) := rfl
theorem ts2_9 {I : Fp → Fp} (hI : yC I) (P : Option (Fq × Fq)) : tab2 hI P 9 = (K2 hI).tog (tab2 hI P 8) (tab2 hI P 1) := rfl
theorem ts2_10 {I : Fp → Fp} (hI : yC I) (P : Option (Fq × Fq)) : tab2 hI P 10 = (K2 hI).twice (tab2 hI P 5) := rfl
theorem ts2_11 {I : Fp → Fp} (hI : yC I) (P : Option (Fq × Fq)) : tab2 hI P 11 = (K2 hI).tog (tab2 hI P 10) (tab2 hI P 1) := rfl
theorem ts2_12 {I : Fp → Fp} (hI : yC I) (P : Option (Fq × Fq)) : tab2 hI P 12 = (K2 hI).twice (tab2 hI P 6) := rfl
theorem ts2_13 {I : Fp → Fp} (hI : yC I) (P : Option (Fq × Fq)) : tab2 hI P 13 = (K2 hI).tog (tab2 hI P 12) (tab2 hI P 1) := rfl
theorem ts2_14 {I : Fp → Fp} (hI : yC I) (P : Option (Fq × Fq)) : tab2 hI P 14 = (K2 hI).twice (tab2 hI P 7) := rfl
theorem ts2_15 {I : Fp → Fp} (hI : yC I) (P : Option (Fq × Fq)) : tab2 hI P 15 = (K2 hI).tog (tab2 hI P 14) (tab2 hI P 1) := rfl
theorem tableE_2 {I : Fp → Fp} (hI : yC I) {tn : Value} (P : Option (Fq × Fq)) (w : World) (hm : Mm w [(0, dtab)]) : Calls Tryz.prog 154 #[(GV2 tn), enc2 P] w (Rt w (V (tb2 (fn2 hI P)))) :=
 tableOf_2 (u := (K2 hI).R.one) (b := (K2 hI).b) (tn := tn) (fd2 hI) (fn2 hI P) (c2x0 P) (c2x1 P) (c2y0 P) (c2y1 P) (c2z P) (fun w hm => by rw [fl2_0 hI P]; exact zeroE_2 hI w hm) (fun w hm => by rw [fl2_1 hI P]; exact liftE_2 hI P w hm)
  (fun w hm => by rw [fl2_1 hI P, fl2_2 hI P, ts2_2]; exact twiceE_2 hI (tab2 hI P 1) w hm)
  (fun w hm => by rw [fl2_2 hI P, fl2_1 hI P, fl2_3 hI P, ts2_3]; exact togE_2 hI (tab2 hI P 2) (tab2 hI P 1) w hm)
  (fun w hm => by rw [fl2_2 hI P, fl2_4 hI P, ts2_4]; exact twiceE_2 hI (tab2 hI P 2) w hm)
  (fun w hm => by rw [fl2_4 hI P, fl2_1 hI P, fl2_5 hI P, ts2_5]; exact togE_2 hI (tab2 hI P 4) (tab2 hI P 1) w hm)
  (fun w hm => by rw [fl2_3 hI P, fl2_6 hI P, ts2_6]; exact twiceE_2 hI (tab2 hI P 3) w hm)
  (fun w hm => by rw [fl2_6 hI P, fl2_1 hI P, fl2_7 hI P, ts2_7]; exact togE_2 hI (tab2 hI P 6) (tab2 hI P 1) w hm)
  (fun w hm => by rw [fl2_4 hI P, fl2_8 hI P, ts2_8]; exact twiceE_2 hI (tab2 hI P 4) w hm)
  (fun w hm => by rw [fl2_8 hI P, fl2_1 hI P, fl2_9 hI P, ts2_9]; exact togE_2 hI (tab2 hI P 8) (tab2 hI P 1) w hm)
  (fun w hm => by rw [fl2_5 hI P, fl2_10 hI P, ts2_10]; exact twiceE_2 hI (tab2 hI P 5) w hm)
  (fun w hm => by rw [fl2_10 hI P, fl2_1 hI P, fl2_11 hI P, ts2_11]; exact togE_2 hI (tab2 hI P 10) (tab2 hI P 1) w hm)
  (fun w hm => by rw [fl2_6 hI P, fl2_12 hI P, ts2_12]; exact twiceE_2 hI (tab2 hI P 6) w hm)
  (fun w hm => by rw [fl2_12 hI P, fl2_1 hI P, fl2_13 hI P, ts2_13]; exact togE_2 hI (tab2 hI P 12) (tab2 hI P 1) w hm)
  (fun w hm => by rw [fl2_7 hI P, fl2_14 hI P, ts2_14]; exact twiceE_2 hI (tab2 hI P 7) w hm)
  (fun w hm => by rw [fl2_14 hI P, fl2_1 hI P, fl2_15 hI P, ts2_15]; exact togE_2 hI (tab2 hI P 14) (tab2 hI P 1) w hm) w hm
def rowA2 {I : Fp → Fp} (hI : yC I) (P : Option (Fq × Fq)) (A : EC.Tri Fq) (v : Nat) : Nat → EC.Tri Fq
 | 0 => A
 | k + 1 => if dgt v k = 0 then (K2 hI).twice ((K2 hI).twice ((K2 hI).twice ((K2 hI).twice (rowA2 hI P A v k)))) else (K2 hI).tog ((K2 hI).twice ((K2 hI).twice ((K2 hI).twice ((K2 hI).twice (rowA2 hI P A v k))))) (tab2 hI P (dgt v k))
theorem rowrep2 {I : Fp → Fp} (hI : yC I) {P : Option (Fq × Fq)} (h : (K2 hI).on P) {A : EC.Tri Fq} {m : Nat} (hA : (K2 hI).rep A ((K2 hI).times P m)) {v : Nat} (hv : v < 18446744073709551616) : ∀ k, (K2 hI).rep (rowA2 hI P A v k) ((K2 hI).times P (m * 16 ^ k + v * 16 ^ k / 18446744073709551616))
 | 0 => by
  rw [Nat.pow_zero, Nat.mul_one, Nat.mul_one, Nat.div_eq_of_lt hv, Nat.add_zero]
  exact hA
 | k + 1 => by
  have ih := (K2 hI).times_sixteen h _ (rowrep2 hI h hA hv k)
  have e : m * 16 ^ (k + 1) + v * 16 ^ (k + 1) / 18446744073709551616 = 16 * (m * 16 ^ k + v * 16 ^ k / 18446744073709551616) + dgt v k := by
   rw [hi_next, Nat.pow_succ]
   generalize v * 16 ^ k / 18446744073709551616 = Y
   rw [← Nat.mul_assoc]
   omega
  rw [e]
  show (K2 hI).rep (if dgt v k = 0 then _ else _) _
  split
  ·next hz =>
   rw [hz, Nat.add_zero]
   exact ih
  ·rw [← (K2 hI).times_step h]
   exact (K2 hI).rep_tog ih (tabrep2 hI h _ (dgt_lt v k)) ((K2 hI).times_on h _) ((K2 hI).times_on h _)
theorem rowE_2 {I : Fp → Fp} (hI : yC I) {tn : Value} (P : Option (Fq × Fq)) (A : EC.Tri Fq) {v : Nat} (hv : v < 18446744073709551616) (gt gr : Nat) (w : World) (hm : Mm w [(0, dtab), (gt, cel (tb2 (fn2 hI P))), (gr, [Value.int .u64 ((v : Nat) : Int)])]) :
  Calls Tryz.prog 155 #[(GV2 tn), V (t2 A), .slice (some ⟨gt, 0, none⟩) 1 1, .slice (some ⟨gr, 0, none⟩) 1 1] w fun e w' => e = .returned (V (t2 (rowA2 hI P A v 16))) ∧ Mm w' [(gr, [Value.int .u64 0])] ∧ Kp gr w w' := by
 rw [← wof_0 hv] at hm
 have h := byRow_2 (u := (K2 hI).R.one) (b := (K2 hI).b) (tn := tn) (fd2 hI) (fn2 hI P) (K2 hI).twice (fun T d => (K2 hI).tog T (tab2 hI P d)) (rowA2 hI P A v) (wof v) (dgt v) gt gr
  (fun T w hm => twiceE_2 hI T w hm)
  (fun T d _ w hm => by
   rw [fn2_0, fn2_1, fn2_2, fn2_3, fn2_4, fn2_5]
   exact togE_2 hI T (tab2 hI P d) w hm)
  (wof_d v) (dgt_lt v) (wof_w v) (fun k hk => (if_pos hk).symm) (fun k hk => (if_neg (by omega)).symm) w hm
 rw [wof_16] at h
 exact h
def sumS2 {I : Fp → Fp} (hI : yC I) (P : Option (Fq × Fq)) (nn : Nat) : Nat → EC.Tri Fq
 | 0 => (K2 hI).lift none
 | r + 1 => rowA2 hI P (sumS2 hI P nn r) (wn nn (5 - r)) 16
theorem sumrep2 {I : Fp → Fp} (hI : yC I) {P : Option (Fq × Fq)} (h : (K2 hI).on P) {nn : Nat} (hn : nn < big) : ∀ r, r ≤ 6 → (K2 hI).rep (sumS2 hI P nn r) ((K2 hI).times P (nn / 2 ^ (64 * (6 - r))))
 | 0, _ => by
  rw [hi_top hn]
  exact (K2 hI).rep_lift none
 | r + 1, hr => by
  have h1 := rowrep2 hI h (sumrep2 hI h hn r (by omega)) (wn_lt nn (5 - r)) 16
  rw [show (16 : Nat) ^ 16 = 18446744073709551616 by decide, Nat.mul_div_cancel _ (by decide), show 6 - r = 5 - r + 1 by omega, hi_word] at h1
  rw [show 6 - (r + 1) = 5 - r by omega]
  exact h1
theorem someE_2 {I : Fp → Fp} (hI : yC I) {tn : Value} (P : Option (Fq × Fq)) {nn gp gn : Nat} (w : World) (hm : Mm w [(0, dtab), (gp, cel [c2x0 P, c2x1 P, c2y0 P, c2y1 P] ++ [Value.bool (c2z P)]), (gn, zD nn)]) :
  Calls Tryz.prog 120 #[(GV2 tn), .slice (some ⟨gp, 0, none⟩) 1 1, .slice (some ⟨gn, 0, none⟩) 1 1] w (Rt w (V (t2 (sumS2 hI P nn 6)))) :=
 some_2 (u := (K2 hI).R.one) (b := (K2 hI).b) (tn := tn) (fd2 hI) (fn2 hI P) (sumS2 hI P nn) (c2x0 P) (c2x1 P) (c2y0 P) (c2y1 P) nn gp gn (c2z P) (fun w hm => zeroE_2 hI w hm) (fun w hm => tableE_2 hI P w hm)
  (fun gt gr w hm => rowE_2 hI P (sumS2 hI P nn 0) (wn_lt nn 5) gt gr w hm) (fun gt gr w hm => rowE_2 hI P (sumS2 hI P nn 1) (wn_lt nn 4) gt gr w hm) (fun gt gr w hm => rowE_2 hI P (sumS2 hI P nn 2) (wn_lt nn 3) gt gr w hm) (fun gt gr w hm => rowE_2 hI P (sumS2 hI P nn 3) (wn_lt nn 2) gt gr w hm) (fun gt gr w hm => rowE_2 hI P (sumS2 hI P nn 4) (wn_lt nn 1) gt gr w hm) (fun gt gr w hm => rowE_2 hI P (sumS2 hI P nn 5) (wn_lt nn 0) gt gr w hm) w hm
theorem total2 {I : Fp → Fp} (hI : yC I) {P : Option (Fq × Fq)} (h : (K2 hI).on P) {nn : Nat} (hn : nn < big) : (K2 hI).lower ((K2 hI).tog ((K2 hI).lift none) (sumS2 hI P nn 6)) = (K2 hI).times P nn := by
 have h6 := sumrep2 hI h hn 6 (Nat.le_refl 6)
 rw [Nat.sub_self, Nat.mul_zero, Nat.pow_zero, Nat.div_one] at h6
 have e := (K2 hI).rep_lower ((K2 hI).rep_tog ((K2 hI).rep_lift none) h6 trivial ((K2 hI).times_on h nn))
 rw [e, (K2 hI).zero_add ((K2 hI).times_on h nn)]
theorem sumE_2 {I : Fp → Fp} (hI : yC I) {tn : Value} {P : Option (Fq × Fq)} (h : (K2 hI).on P) {nn gp gn : Nat} (hn : nn < big) (w : World) (hm : Mm w [(0, dtab), (gp, cel [c2x0 P, c2x1 P, c2y0 P, c2y1 P] ++ [Value.bool (c2z P)]), (gn, zD nn)]) :
  Calls Tryz.prog 77 #[(GV2 tn), .slice (some ⟨gp, 0, none⟩) 1 1, .slice (some ⟨gn, 0, none⟩) 1 1] w (Rt w (.tuple #[enc2 ((K2 hI).times P nn), .int .i64 0])) :=
 sumY_2 (u := (K2 hI).R.one) (b := (K2 hI).b) (tn := tn) (fd2 hI) ((K2 hI).lift none) (sumS2 hI P nn 6) ((K2 hI).tog ((K2 hI).lift none) (sumS2 hI P nn 6)) (c2x0 P) (c2x1 P) (c2y0 P) (c2y1 P) (c2x0 ((K2 hI).times P nn)) (c2x1 ((K2 hI).times P nn)) (c2y0 ((K2 hI).times P nn)) (c2y1 ((K2 hI).times P nn)) nn gp gn (c2z P) (c2z ((K2 hI).times P nn))
  (fun w hm => ckE_2 hI h w hm) (fun w hm => zeroE_2 hI w hm) (fun w hm => someE_2 hI P w hm) (fun w hm => togE_2 hI _ _ w hm) (fun w hm => by
   have e := lowerE_2 hI (tn := tn) ((K2 hI).tog ((K2 hI).lift none) (sumS2 hI P nn 6)) w hm
   rw [total2 hI h hn] at e
   exact e) w hm
theorem MulE_2 {I : Fp → Fp} (hI : yC I) {P : Option (Fq × Fq)} (h : (K2 hI).on P) {nn : Nat} (hn : nn < big) (w : World) (hm : Mm w [(0, dtab)]) : Calls Tryz.prog 30 #[enc2 P, N nn] w (Rt w (.tuple #[enc2 ((K2 hI).times P nn), .int .i64 0])) :=
 Mul_2 (c2x0 P) (c2x1 P) (c2y0 P) (c2y1 P) (c2x0 ((K2 hI).times P nn)) (c2x1 ((K2 hI).times P nn)) (c2y0 ((K2 hI).times P nn)) (c2y1 ((K2 hI).times P nn)) nn (c2z P) (c2z ((K2 hI).times P nn)) 0 (fun gl gn w hm =>
  Sum_2 1 4 (c2x0 P) (c2x1 P) (c2y0 P) (c2y1 P) (c2x0 ((K2 hI).times P nn)) (c2x1 ((K2 hI).times P nn)) (c2y0 ((K2 hI).times P nn)) (c2y1 ((K2 hI).times P nn)) nn gl gn (c2z P) (c2z ((K2 hI).times P nn)) 0 secondE (fun tn _ w hm => sumE_2 hI (tn := tn) h hn w hm) w hm) w hm
end Rg
end Go.Proofs.YtaomlijondiaoaaGreatDoor
end
section
namespace Go.Proofs.YtaomlijondiaoaaGreatDoor
open Go.RowKit
namespace Rg
open NT
def zR (m : Nat) : Nat := m * 2 ^ 194 % big / 2 ^ 194
theorem big_cut : big = 2 ^ 194 * 2 ^ 190 := by
 obtain ⟨k, hk, hb⟩ := big_pow
 rw [hb, ← Nat.pow_add, show 64 * k = 194 + 190 by omega]
theorem cutN_lt (m : Nat) : zR m < 2 ^ 190 := by
 unfold zR
 refine Nat.div_lt_of_lt_mul ?_
 rw [← big_cut]
 exact Nat.mod_lt _ big_pos
theorem pw_le : 2 ^ 190 ≤ 2 ^ 194 := Nat.pow_le_pow_right (by decide) (by decide)
theorem cutN_big (m : Nat) : zR m < big := by
 have h := cutN_lt m
 have h2 : 1 * 2 ^ 190 ≤ 2 ^ 194 * 2 ^ 190 := Nat.mul_le_mul (Nat.pow_pos (by decide)) (Nat.le_refl _)
 rw [big_cut]
 omega
theorem cut_sum (m n : Nat) : zR m + zR n < big := by
 have h := cutN_lt m
 have h1 := cutN_lt n
 have h2 : 2 * 2 ^ 190 ≤ 2 ^ 194 * 2 ^ 190 := Nat.mul_le_mul (by decide) (Nat.le_refl _)
 rw [big_cut]
 omega
theorem cut_mul (m n : Nat) : zR m * zR n < big := by
 have h : zR m * zR n < 2 ^ 190 * 2 ^ 190 := Nat.mul_lt_mul'' (cutN_lt m) (cutN_lt n)
 have h2 : 2 ^ 190 * 2 ^ 190 ≤ 2 ^ 194 * 2 ^ 190 := Nat.mul_le_mul pw_le (Nat.le_refl _)
 rw [big_cut]
 exact Nat.lt_of_lt_of_le h h2
theorem cut_up (m : Nat) (w : World) : Calls Tryz.prog 36 #[N m, .int .i64 194] w (Rt w (N (m * 2 ^ 194 % big))) := shift_up m 194 (by decide) w
theorem cut_down (m : Nat) (w : World) : Calls Tryz.prog 36 #[N (m * 2 ^ 194 % big), .int .i64 (-194)] w (Rt w (N (zR m))) := shift_neg' (m * 2 ^ 194 % big) 194 (Nat.mod_lt _ big_pos) (by decide) w
theorem times_any ma0 ma1 maz mb0 mb1 mb2 mb3 mbz m n (hma0 : ma0 < big) (hma1 : ma1 < big) (hmb0 : mb0 < big) (hmb1 : mb1 < big) (hmb2 : mb2 < big) (hmb3 : mb3 < big) (_hm : m < big) (_hn : n < big) (w : World) (hm : Mm w [(0, dtab)]) : Calls Tryz.prog 7 #[pv1 ma0 ma1 maz, pv2 mb0 mb1 mb2 mb3 mbz, N m, N n] w (Rt w (.bool true)) := by
 obtain ⟨I, hI⟩ := inv1_ex
 have sm := fun w => add_any (zR m) (zR n) (cutN_big m) (cutN_big n) w
 rw [Nat.mod_eq_of_lt (cut_sum m n)] at sm
 have pr := fun w => mul_any (zR m) (zR n) (cutN_big m) (cutN_big n) w
 rw [Nat.mod_eq_of_lt (cut_mul m n)] at pr
 have ca := fun w hm => CheckE_1 hI ma0 ma1 maz hma0 hma1 w hm
 have cb := fun w hm => CheckE_2 hI mb0 mb1 mb2 mb3 mbz hmb0 hmb1 hmb2 hmb3 w hm
 cases hA : rd1 ma0 ma1 maz with
 | none =>
  rw [hA] at ca
  cases hB : rd2 mb0 mb1 mb2 mb3 mbz with
  | none =>
   rw [hB] at cb
   exact times_3 m n (m * 2 ^ 194 % big) (zR m) (n * 2 ^ 194 % big) (zR n) (zR m + zR n) (zR m * zR n) (zR m * zR n / big) ma0 ma1 mb0 mb1 mb2 mb3   (decide (big ≤ zR m + zR n)) maz mbz   awakeE (cut_up m) (cut_down m) (cut_up n) (cut_down n) sm pr ca cb  w hm
  | some U =>
   obtain ⟨eB, oU⟩ := rd2_enc hI hB
   rw [eB]
   clear eB hB cb
   have x2 := fun w hm => MulE_2 hI oU (cutN_big m) w hm
   have y2 := fun w hm => MulE_2 hI oU (cutN_big n) w hm
   have s2 := fun w hm => MulE_2 hI oU (cut_sum m n) w hm
   have a2 := fun w hm => AddE_2 hI ((K2 hI).times_on oU (zR m)) ((K2 hI).times_on oU (zR n)) w hm
   rw [← (K2 hI).times_add oU] at a2
   have p2 := fun w hm => MulE_2 hI ((K2 hI).times_on oU (zR m)) (cutN_big n) w hm
   rw [← (K2 hI).times_mul oU] at p2
   have q2 := fun w hm => MulE_2 hI oU (cut_mul m n) w hm
   exact times_2 m n (m * 2 ^ 194 % big) (zR m) (n * 2 ^ 194 % big) (zR n) (zR m + zR n) (zR m * zR n) (zR m * zR n / big) ma0 ma1 (c2x0 U) (c2x1 U) (c2y0 U) (c2y1 U)  (c2x0 ((K2 hI).times U (zR m))) (c2x1 ((K2 hI).times U (zR m))) (c2y0 ((K2 hI).times U (zR m))) (c2y1 ((K2 hI).times U (zR m))) (c2x0 ((K2 hI).times U (zR n))) (c2x1 ((K2 hI).times U (zR n))) (c2y0 ((K2 hI).times U (zR n))) (c2y1 ((K2 hI).times U (zR n))) (c2x0 ((K2 hI).times U (zR m + zR n))) (c2x1 ((K2 hI).times U (zR m + zR n))) (c2y0 ((K2 hI).times U (zR m + zR n))) (c2y1 ((K2 hI).times U (zR m + zR n))) (c2x0 ((K2 hI).times U (zR m * zR n))) (c2x1 ((K2 hI).times U (zR m * zR n))) (c2y0 ((K2 hI).times U (zR m * zR n))) (c2y1 ((K2 hI).times U (zR m * zR n))) (decide (big ≤ zR m + zR n)) maz (c2z U)  (c2z ((K2 hI).times U (zR m))) (c2z ((K2 hI).times U (zR n))) (c2z ((K2 hI).times U (zR m + zR n))) (c2z ((K2 hI).times U (zR m * zR n))) awakeE (cut_up m) (cut_down m) (cut_up n) (cut_down n) sm pr ca (fun w hm => CkE_2 hI oU w hm) x2 y2 s2 a2 p2 q2 (refl_P2 (c2x0 ((K2 hI).times U (zR m + zR n))) (c2x1 ((K2 hI).times U (zR m + zR n))) (c2y0 ((K2 hI).times U (zR m + zR n))) (c2y1 ((K2 hI).times U (zR m + zR n))) (c2z ((K2 hI).times U (zR m + zR n))) (c2x0_big _) (c2x1_big _) (c2y0_big _) (c2y1_big _)) (refl_P2 (c2x0 ((K2 hI).times U (zR m * zR n))) (c2x1 ((K2 hI).times U (zR m * zR n))) (c2y0 ((K2 hI).times U (zR m * zR n))) (c2y1 ((K2 hI).times U (zR m * zR n))) (c2z ((K2 hI).times U (zR m * zR n))) (c2x0_big _) (c2x1_big _) (c2y0_big _) (c2y1_big _)) w hm
 | some P =>
  obtain ⟨eA, oP⟩ := rd1_enc hI hA
  rw [eA]
  clear eA hA ca
  have x1 := fun w hm => MulE_1 hI oP (cutN_big m) w hm
  have y1 := fun w hm => MulE_1 hI oP (cutN_big n) w hm
  have s1 := fun w hm => MulE_1 hI oP (cut_sum m n) w hm
  have a1 := fun w hm => AddE_1 hI ((K1 hI).times_on oP (zR m)) ((K1 hI).times_on oP (zR n)) w hm
  rw [← (K1 hI).times_add oP] at a1
  have p1 := fun w hm => MulE_1 hI ((K1 hI).times_on oP (zR m)) (cutN_big n) w hm
  rw [← (K1 hI).times_mul oP] at p1
  have q1 := fun w hm => MulE_1 hI oP (cut_mul m n) w hm
  cases hB : rd2 mb0 mb1 mb2 mb3 mbz with
  | none =>
   rw [hB] at cb
   exact times_1 m n (m * 2 ^ 194 % big) (zR m) (n * 2 ^ 194 % big) (zR n) (zR m + zR n) (zR m * zR n) (zR m * zR n / big) (c1x P) (c1y P) mb0 mb1 mb2 mb3 (c1x ((K1 hI).times P (zR m))) (c1y ((K1 hI).times P (zR m))) (c1x ((K1 hI).times P (zR n))) (c1y ((K1 hI).times P (zR n))) (c1x ((K1 hI).times P (zR m + zR n))) (c1y ((K1 hI).times P (zR m + zR n))) (c1x ((K1 hI).times P (zR m * zR n))) (c1y ((K1 hI).times P (zR m * zR n)))  (decide (big ≤ zR m + zR n)) (c1z P) mbz (c1z ((K1 hI).times P (zR m))) (c1z ((K1 hI).times P (zR n))) (c1z ((K1 hI).times P (zR m + zR n))) (c1z ((K1 hI).times P (zR m * zR n)))  awakeE (cut_up m) (cut_down m) (cut_up n) (cut_down n) sm pr (fun w hm => CkE_1 hI oP w hm) cb x1 y1 s1 a1 p1 q1 (refl_P1 (c1x ((K1 hI).times P (zR m + zR n))) (c1y ((K1 hI).times P (zR m + zR n))) (c1z ((K1 hI).times P (zR m + zR n))) (c1x_big _) (c1y_big _)) (refl_P1 (c1x ((K1 hI).times P (zR m * zR n))) (c1y ((K1 hI).times P (zR m * zR n))) (c1z ((K1 hI).times P (zR m * zR n))) (c1x_big _) (c1y_big _))  w hm
  | some U =>
   obtain ⟨eB, oU⟩ := rd2_enc hI hB
   rw [eB]
   clear eB hB cb
   have x2 := fun w hm => MulE_2 hI oU (cutN_big m) w hm
   have y2 := fun w hm => MulE_2 hI oU (cutN_big n) w hm
   have s2 := fun w hm => MulE_2 hI oU (cut_sum m n) w hm
   have a2 := fun w hm => AddE_2 hI ((K2 hI).times_on oU (zR m)) ((K2 hI).times_on oU (zR n)) w hm
   rw [← (K2 hI).times_add oU] at a2
   have p2 := fun w hm => MulE_2 hI ((K2 hI).times_on oU (zR m)) (cutN_big n) w hm
   rw [← (K2 hI).times_mul oU] at p2
   have q2 := fun w hm => MulE_2 hI oU (cut_mul m n) w hm
   exact times_0 m n (m * 2 ^ 194 % big) (zR m) (n * 2 ^ 194 % big) (zR n) (zR m + zR n) (zR m * zR n) (zR m * zR n / big) (c1x P) (c1y P) (c2x0 U) (c2x1 U) (c2y0 U) (c2y1 U) (c1x ((K1 hI).times P (zR m))) (c1y ((K1 hI).times P (zR m))) (c1x ((K1 hI).times P (zR n))) (c1y ((K1 hI).times P (zR n))) (c1x ((K1 hI).times P (zR m + zR n))) (c1y ((K1 hI).times P (zR m + zR n))) (c1x ((K1 hI).times P (zR m * zR n))) (c1y ((K1 hI).times P (zR m * zR n))) (c2x0 ((K2 hI).times U (zR m))) (c2x1 ((K2 hI).times U (zR m))) (c2y0 ((K2 hI).times U (zR m))) (c2y1 ((K2 hI).times U (zR m))) (c2x0 ((K2 hI).times U (zR n))) (c2x1 ((K2 hI).times U (zR n))) (c2y0 ((K2 hI).times U (zR n))) (c2y1 ((K2 hI).times U (zR n))) (c2x0 ((K2 hI).times U (zR m + zR n))) (c2x1 ((K2 hI).times U (zR m + zR n))) (c2y0 ((K2 hI).times U (zR m + zR n))) (c2y1 ((K2 hI).times U (zR m + zR n))) (c2x0 ((K2 hI).times U (zR m * zR n))) (c2x1 ((K2 hI).times U (zR m * zR n))) (c2y0 ((K2 hI).times U (zR m * zR n))) (c2y1 ((K2 hI).times U (zR m * zR n))) (decide (big ≤ zR m + zR n)) (c1z P) (c2z U) (c1z ((K1 hI).times P (zR m))) (c1z ((K1 hI).times P (zR n))) (c1z ((K1 hI).times P (zR m + zR n))) (c1z ((K1 hI).times P (zR m * zR n))) (c2z ((K2 hI).times U (zR m))) (c2z ((K2 hI).times U (zR n))) (c2z ((K2 hI).times U (zR m + zR n))) (c2z ((K2 hI).times U (zR m * zR n))) awakeE (cut_up m) (cut_down m) (cut_up n) (cut_down n) sm pr (fun w hm => CkE_1 hI oP w hm) (fun w hm => CkE_2 hI oU w hm) x1 y1 s1 a1 p1 q1 x2 y2 s2 a2 p2 q2 (refl_P1 (c1x ((K1 hI).times P (zR m + zR n))) (c1y ((K1 hI).times P (zR m + zR n))) (c1z ((K1 hI).times P (zR m + zR n))) (c1x_big _) (c1y_big _)) (refl_P1 (c1x ((K1 hI).times P (zR m * zR n))) (c1y ((K1 hI).times P (zR m * zR n))) (c1z ((K1 hI).times P (zR m * zR n))) (c1x_big _) (c1y_big _)) (refl_P2 (c2x0 ((K2 hI).times U (zR m + zR n))) (c2x1 ((K2 hI).times U (zR m + zR n))) (c2y0 ((K2 hI).times U (zR m + zR n))) (c2y1 ((K2 hI).times U (zR m + zR n))) (c2z ((K2 hI).times U (zR m + zR n))) (c2x0_big _) (c2x1_big _) (c2y0_big _) (c2y1_big _)) (refl_P2 (c2x0 ((K2 hI).times U (zR m * zR n))) (c2x1 ((K2 hI).times U (zR m * zR n))) (c2y0 ((K2 hI).times U (zR m * zR n))) (c2y1 ((K2 hI).times U (zR m * zR n))) (c2z ((K2 hI).times U (zR m * zR n))) (c2x0_big _) (c2x1_big _) (c2y0_big _) (c2y1_big _)) w hm
end Rg
end Go.Proofs.YtaomlijondiaoaaGreatDoor
end
