/- Texts of the proof, joined. -/
import Derived.Test.YtmanelnacifgcaaGreatDoorP9
import Derived.ProofKit
import Derived.OpenShut
import Derived.Test.YtmanelnacifgcaaGreatDoorRows
import Derived.LaidMore
import Derived.Stop.Joined
import Derived.Test.YtmanelnacifgcaaGreatDoorTie
set_option maxRecDepth 100000
section
namespace Go.Proofs.YtmanelnacifgcaaGreatDoor
open Go.RowKit
namespace Rg
open NT
def tab2 {I : Fp → Fp} (hI : zW I) (P : Option (Fq × Fq)) : Nat → EC.Tri Fq
 | 0 => (K2 hI).lift none
 | 1 => (K2 hI).lift P
 | 2 => (K2 hI).twice ((K2 hI).lift P)
 | 3 => (K2 hI).tog ((K2 hI).twice ((K2 hI).lift P)) ((K2 hI).lift P)
 | 4 => (K2 hI).twice ((K2 hI).twice ((K2 hI).lift P))
 | 5 => (K2 hI).tog ((K2 hI).twice ((K2 hI).twice ((K2 hI).lift P))) ((K2 hI).lift P)
 | 6 => (K2 hI).twice ((K2 hI).tog ((K2 hI).twice ((K2 hI).lift P)) ((K2 hI).lift P))
 | 7 => (K2 hI).tog ((K2 hI).twice ((K2 hI).tog ((K2 hI).twice ((K2 hI).lift P)) ((K2 hI).lift P))) ((K2 hI).lift P)
 | 8 => (K2 hI).twice ((K2 hI).twice ((K2 hI).twice ((K2 hI).lift P)))
 | 9 => (K2 hI).tog ((K2 hI).twice ((K2 hI).twice ((K2 hI).twice ((K2 hI).lift P)))) ((K2 hI).lift P)
 | 10 => (K2 hI).twice ((K2 hI).tog ((K2 hI).twice ((K2 hI).twice ((K2 hI).lift P))) ((K2 hI).lift P))
 | 11 => (K2 hI).tog ((K2 hI).twice ((K2 hI).tog ((K2 hI).twice ((K2 hI).twice ((K2 hI).lift P))) ((K2 hI).lift P))) ((K2 hI).lift P)
 | 12 => (K2 hI).twice ((K2 hI).twice ((K2 hI).tog ((K2 hI).twice ((K2 hI).lift P)) ((K2 hI).lift P)))
 | 13 => (K2 hI).tog ((K2 hI).twice ((K2 hI).twice ((K2 hI).tog ((K2 hI).twice ((K2 hI).lift P)) ((K2 hI).lift P)))) ((K2 hI).lift P)
 | 14 => (K2 hI).twice ((K2 hI).tog ((K2 hI).twice ((K2 hI).tog ((K2 hI).twice ((K2 hI).lift P)) ((K2 hI).lift P))) ((K2 hI).lift P))
 | 15 => (K2 hI).tog ((K2 hI).twice ((K2 hI).tog ((K2 hI).twice ((K2 hI).tog ((K2 hI).twice ((K2 hI).lift P)) ((K2 hI).lift P))) ((K2 hI).lift P))) ((K2 hI).lift P)
 | _ => (K2 hI).lift none
def fn2 {I : Fp → Fp} (hI : zW I) (P : Option (Fq × Fq)) (k : Nat) : Nat :=
 match k % 6 with
 | 0 => q0 (tab2 hI P (k / 6)).1
 | 1 => q1 (tab2 hI P (k / 6)).1
 | 2 => q0 (tab2 hI P (k / 6)).2.1
 | 3 => q1 (tab2 hI P (k / 6)).2.1
 | 4 => q0 (tab2 hI P (k / 6)).2.2
 | _ => q1 (tab2 hI P (k / 6)).2.2
theorem fn2_0 {I : Fp → Fp} (hI : zW I) (P : Option (Fq × Fq)) (d : Nat) : fn2 hI P (6 * d) = q0 (tab2 hI P d).1 := by
 unfold fn2
 rw [show (6 * d) % 6 = 0 by omega, show (6 * d) / 6 = d by omega]
 rfl
theorem fn2_1 {I : Fp → Fp} (hI : zW I) (P : Option (Fq × Fq)) (d : Nat) : fn2 hI P (6 * d + 1) = q1 (tab2 hI P d).1 := by
 unfold fn2
 rw [show (6 * d + 1) % 6 = 1 by omega, show (6 * d + 1) / 6 = d by omega]
 rfl
theorem fn2_2 {I : Fp → Fp} (hI : zW I) (P : Option (Fq × Fq)) (d : Nat) : fn2 hI P (6 * d + 2) = q0 (tab2 hI P d).2.1 := by
 unfold fn2
 rw [show (6 * d + 2) % 6 = 2 by omega, show (6 * d + 2) / 6 = d by omega]
 rfl
theorem fn2_3 {I : Fp → Fp} (hI : zW I) (P : Option (Fq × Fq)) (d : Nat) : fn2 hI P (6 * d + 3) = q1 (tab2 hI P d).2.1 := by
 unfold fn2
 rw [show (6 * d + 3) % 6 = 3 by omega, show (6 * d + 3) / 6 = d by omega]
 rfl
theorem fn2_4 {I : Fp → Fp} (hI : zW I) (P : Option (Fq × Fq)) (d : Nat) : fn2 hI P (6 * d + 4) = q0 (tab2 hI P d).2.2 := by
 unfold fn2
 rw [show (6 * d + 4) % 6 = 4 by omega, show (6 * d + 4) / 6 = d by omega]
 rfl
theorem fn2_5 {I : Fp → Fp} (hI : zW I) (P : Option (Fq × Fq)) (d : Nat) : fn2 hI P (6 * d + 5) = q1 (tab2 hI P d).2.2 := by
 unfold fn2
 rw [show (6 * d + 5) % 6 = 5 by omega, show (6 * d + 5) / 6 = d by omega]
 rfl
theorem tabrep2 {I : Fp → Fp} (hI : zW I) {P : Option (Fq × Fq)} (h : (K2 hI).on P) : ∀ j, j < 16 → (K2 hI).rep (tab2 hI P j) ((K2 hI).times P j) := by
 have o := fun k => (K2 hI).times_on h k
 have rp : (K2 hI).rep ((K2 hI).lift P) P := (K2 hI).rep_lift P
 have r1 : (K2 hI).rep ((K2 hI).lift P) ((K2 hI).times P 1) := by rw [(K2 hI).times_one h]; exact rp
 have two : ∀ k (A : EC.Tri Fq), (K2 hI).rep A ((K2 hI).times P k) → (K2 hI).rep ((K2 hI).twice A) ((K2 hI).times P (2 * k)) := fun k A hk => by
  rw [← (K2 hI).times_two h]
  exact (K2 hI).rep_twice hk (o k)
 have odd : ∀ k (A : EC.Tri Fq), (K2 hI).rep A ((K2 hI).times P k) → (K2 hI).rep ((K2 hI).tog A ((K2 hI).lift P)) ((K2 hI).times P (k + 1)) := fun k A hk => (K2 hI).rep_tog hk rp (o k) h
 have r2 : (K2 hI).rep (tab2 hI P 2) ((K2 hI).times P 2) := two 1 _ r1
 have r3 : (K2 hI).rep (tab2 hI P 3) ((K2 hI).times P 3) := odd 2 _ r2
 have r4 : (K2 hI).rep (tab2 hI P 4) ((K2 hI).times P 4) := two 2 _ r2
 have r5 : (K2 hI).rep (tab2 hI P 5) ((K2 hI).times P 5) := odd 4 _ r4
 have r6 : (K2 hI).rep (tab2 hI P 6) ((K2 hI).times P 6) := two 3 _ r3
 have r7 : (K2 hI).rep (tab2 hI P 7) ((K2 hI).times P 7) := odd 6 _ r6
 have r8 : (K2 hI).rep (tab2 hI P 8) ((K2 hI).times P 8) := two 4 _ r4
 have r9 : (K2 hI).rep (tab2 hI P 9) ((K2 hI).times P 9) := odd 8 _ r8
 have r10 : (K2 hI).rep (tab2 hI P 10) ((K2 hI).times P 10) := two 5 _ r5
 have r11 : (K2 hI).rep (tab2 hI P 11) ((K2 hI).times P 11) := odd 10 _ r10
 have r12 : (K2 hI).rep (tab2 hI P 12) ((K2 hI).times P 12) := two 6 _ r6
 have r13 : (K2 hI).rep (tab2 hI P 13) ((K2 hI).times P 13) := odd 12 _ r12
 have r14 : (K2 hI).rep (tab2 hI P 14) ((K2 hI).times P 14) := two 7 _ r7
 have r15 : (K2 hI).rep (tab2 hI P 15) ((K2 hI).times P 15) := odd 14 _ r14
 intro j hj
 match j, hj with
 | 0, _ => exact (K2 hI).rep_lift none
 | 1, _ => exact r1
 | 2, _ => exact r2
 | 3, _ => exact r3
 | 4, _ => exact r4
 | 5, _ => exact r5
 | 6, _ => exact r6
 | 7, _ => exact r7
 | 8, _ => exact r8
 | 9, _ => exact r9
 | 10, _ => exact r10
 | 11, _ => exact r11
 | 12, _ => exact r12
 | 13, _ => exact r13
 | 14, _ => exact r14
 | 15, _ => exact r15
 | _ + 16, h => exact absurd h (by omega)
theorem fnl2 {I : Fp → Fp} (hI : zW I) (P : Option (Fq × Fq)) (d : Nat) : [fn2 hI P (6 * d), fn2 hI P (6 * d + 1), fn2 hI P (6 * d + 2), fn2 hI P (6 * d + 3), fn2 hI P (6 * d + 4), fn2 hI P (6 * d + 5)] = t2 (tab2 hI P d) := by rw [fn2_0, fn2_1, fn2_2, fn2_3, fn2_4, fn2_5]
theorem fl2_0 {I : Fp → Fp} (hI : zW I) (P : Option (Fq × Fq)) : [fn2 hI P 0, fn2 hI P 1, fn2 hI P 2, fn2 hI P 3, fn2 hI P 4, fn2 hI P 5] = t2 (tab2 hI P 0) := fnl2 hI P 0
theorem fl2_1 {I : Fp → Fp} (hI : zW I) (P : Option (Fq × Fq)) : [fn2 hI P 6, fn2 hI P 7, fn2 hI P 8, fn2 hI P 9, fn2 hI P 10, fn2 hI P 11] = t2 (tab2 hI P 1) := fnl2 hI P 1
theorem fl2_2 {I : Fp → Fp} (hI : zW I) (P : Option (Fq × Fq)) : [fn2 hI P 12, fn2 hI P 13, fn2 hI P 14, fn2 hI P 15, fn2 hI P 16, fn2 hI P 17] = t2 (tab2 hI P 2) := fnl2 hI P 2
theorem fl2_3 {I : Fp → Fp} (hI : zW I) (P : Option (Fq × Fq)) : [fn2 hI P 18, fn2 hI P 19, fn2 hI P 20, fn2 hI P 21, fn2 hI P 22, fn2 hI P 23] = t2 (tab2 hI P 3) := fnl2 hI P 3
theorem fl2_4 {I : Fp → Fp} (hI : zW I) (P : Option (Fq × Fq)) : [fn2 hI P 24, fn2 hI P 25, fn2 hI P 26, fn2 hI P 27, fn2 hI P 28, fn2 hI P 29] = t2 (tab2 hI P 4) := fnl2 hI P 4
theorem fl2_5 {I : Fp → Fp} (hI : zW I) (P : Option (Fq × Fq)) : [fn2 hI P 30, fn2 hI P 31, fn2 hI P 32, fn2 hI P 33, fn2 hI P 34, fn2 hI P 35] = t2 (tab2 hI P 5) := fnl2 hI P 5
theorem fl2_6 {I : Fp → Fp} (hI : zW I) (P : Option (Fq × Fq)) : [fn2 hI P 36, fn2 hI P 37, fn2 hI P 38, fn2 hI P 39, fn2 hI P 40, fn2 hI P 41] = t2 (tab2 hI P 6) := fnl2 hI P 6
theorem fl2_7 {I : Fp → Fp} (hI : zW I) (P : Option (Fq × Fq)) : [fn2 hI P 42, fn2 hI P 43, fn2 hI P 44, fn2 hI P 45, fn2 hI P 46, fn2 hI P 47] = t2 (tab2 hI P 7) := fnl2 hI P 7
theorem fl2_8 {I : Fp → Fp} (hI : zW I) (P : Option (Fq × Fq)) : [fn2 hI P 48, fn2 hI P 49, fn2 hI P 50, fn2 hI P 51, fn2 hI P 52, fn2 hI P 53] = t2 (tab2 hI P 8) := fnl2 hI P 8
theorem fl2_9 {I : Fp → Fp} (hI : zW I) (P : Option (Fq × Fq)) : [fn2 hI P 54, fn2 hI P 55, fn2 hI P 56, fn2 hI P 57, fn2 hI P 58, fn2 hI P 59] = t2 (tab2 hI P 9) := fnl2 hI P 9
theorem fl2_10 {I : Fp → Fp} (hI : zW I) (P : Option (Fq × Fq)) : [fn2 hI P 60, fn2 hI P 61, fn2 hI P 62, fn2 hI P 63, fn2 hI P 64, fn2 hI P 65] = t2 (tab2 hI P 10) := fnl2 hI P 10
theorem fl2_11 {I : Fp → Fp} (hI : zW I) (P : Option (Fq × Fq)) : [fn2 hI P 66, fn2 hI P 67, fn2 hI P 68, fn2 hI P 69, fn2 hI P 70, fn2 hI P 71] = t2 (tab2 hI P 11) := fnl2 hI P 11
theorem fl2_12 {I : Fp → Fp} (hI : zW I) (P : Option (Fq × Fq)) : [fn2 hI P 72, fn2 hI P 73, fn2 hI P 74, fn2 hI P 75, fn2 hI P 76, fn2 hI P 77] = t2 (tab2 hI P 12) := fnl2 hI P 12
theorem fl2_13 {I : Fp → Fp} (hI : zW I) (P : Option (Fq × Fq)) : [fn2 hI P 78, fn2 hI P 79, fn2 hI P 80, fn2 hI P 81, fn2 hI P 82, fn2 hI P 83] = t2 (tab2 hI P 13) := fnl2 hI P 13
theorem fl2_14 {I : Fp → Fp} (hI : zW I) (P : Option (Fq × Fq)) : [fn2 hI P 84, fn2 hI P 85, fn2 hI P 86, fn2 hI P 87, fn2 hI P 88, fn2 hI P 89] = t2 (tab2 hI P 14) := fnl2 hI P 14
theorem fl2_15 {I : Fp → Fp} (hI : zW I) (P : Option (Fq × Fq)) : [fn2 hI P 90, fn2 hI P 91, fn2 hI P 92, fn2 hI P 93, fn2 hI P 94, fn2 hI P 95] = t2 (tab2 hI P 15) := fnl2 hI P 15
theorem ts2_2 {I : Fp → Fp} (hI : zW I) (P : Option (Fq × Fq)) : tab2 hI P 2 = (K2 hI).twice (tab2 hI P 1) := rfl
theorem ts2_3 {I : Fp → Fp} (hI : zW I) (P : Option (Fq × Fq)) : tab2 hI P 3 = (K2 hI).tog (tab2 hI P 2) (tab2 hI P 1) := rfl
theorem ts2_4 {I : Fp → Fp} (hI : zW I) (P : Option (Fq × Fq)) : tab2 hI P 4 = (K2 hI).twice (tab2 hI P 2) := rfl
theorem ts2_5 {I : Fp → Fp} (hI : zW I) (P : Option (Fq × Fq)) : tab2 hI P 5 = (K2 hI).tog (tab2 hI P 4) (tab2 hI P 1) := rfl
theorem ts2_6 {I : Fp → Fp} (hI : zW I) (P : Option (Fq × Fq)) : tab2 hI P 6 = (K2 hI).twice (tab2 hI P 3) := rfl
theorem ts2_7 {I : Fp → Fp} (hI : zW I) (P : Option (Fq × Fq)) : tab2 hI P 7 = (K2 hI).tog (tab2 hI P 6) (tab2 hI P 1) := rfl
theorem ts2_8 {I : Fp → Fp} (hI : zW I) (P : Option (Fq × Fq)) : tab2 hI P 8 = (K2 hI).twice (tab2 hI P 4) := rfl
theorem ts2_9 {I : Fp → Fp} (hI : zW I) (P : Option (Fq × Fq)) : tab2 hI P 9 = (K2 hI).tog (tab2 hI P 8) (tab2 hI P 1) := rfl
theorem ts2_10 {I : Fp → Fp} (hI : zW I) (P : Option (Fq × Fq)) : tab2 hI P 10 = (K2 hI).twice (tab2 hI P 5) := rfl
theorem ts2_11 {I : Fp → Fp} (hI : zW I) (P : Option (Fq × Fq)) : tab2 hI P 11 = (K2 hI).tog (tab2 hI P 10) (tab2 hI P 1) := rfl
theorem ts2_12 {I : Fp → Fp} (hI : zW I) (P : Option (Fq × Fq)) : tab2 hI P 12 = (K2 hI).twice (tab2 hI P 6) := rfl
theorem ts2_13 {I : Fp → Fp} (hI : zW I) (P : Option (Fq × Fq)) : tab2 hI P 13 = (K2 hI).tog (tab2 hI P 12) (tab2 hI P 1) := rfl
theorem ts2_14 {I : Fp → Fp} (hI : zW I) (P : Option (Fq × Fq)) : tab2 hI P 14 = (K2 hI).twice (tab2 hI P 7) := rfl
theorem ts2_15 {I : Fp → Fp} (hI : zW I) (P : Option (Fq × Fq)) : tab2 hI P 15 = (K2 hI).tog (tab2 hI P 14) (tab2 hI P 1) := rfl
theorem tableE_2 {I : Fp → Fp} (hI : zW I) {tn : Value} (P : Option (Fq × Fq)) (w : World) (hm : Mm w [(2, dtab)]) : Calls Tryz.prog 128 #[(GV2 tn), enc2 P] w (Rt w (V (tb2 (fn2 hI P)))) :=
 tableOf_2 (u := (K2 hI).R.one) (b := (K2 hI).b) (tn := tn) (fd2 hI) (fn2 hI P) (c2x0 P) (c2x1 P) (c2y0 P) (c2y1 P) (c2z P) (fun w hm => by rw [fl2_0 hI P]; exact zeroE_2 hI w hm) (fun w hm => by rw [fl2_1 hI P]; exact liftE_2 hI P w hm)
  (fun w hm => by rw [fl2_1 hI P, fl2_2 hI P, ts2_2]; exact twiceE_2 hI (tab2 hI P 1) w hm)
  (fun w hm => by rw [fl2_2 hI P, fl2_1 hI P, fl2_3 hI P, ts2_3]; exact togE_2 hI (tab2 hI P 2) (tab2 hI P 1) w hm)
  (fun w hm => by rw [fl2_2 hI P, fl2_4 hI P, ts2_4]; exact twiceE_2 hI (tab2 hI P 2) w hm)
  (fun w hm => by rw [fl2_4 hI P, fl2_1 hI P, fl2_5 hI P, ts2_5]; exact togE_2 hI (tab2 hI P 4) (tab2 hI P 1) w hm)
  (fun w hm => by rw [fl2_3 hI P, fl2_6 hI P, ts2_6]; exact twiceE_2 hI (tab2 hI P 3) w hm)
  (fun w hm => by rw [fl2_6 hI P, fl2_1 hI P, fl2_7 hI P, ts2_7]; exact togE_2 hI (tab2 hI P 6) (tab2 hI P 1) w hm)
  (fun w hm => by rw [fl2_4 hI P, fl2_8 hI P, ts2_8]; exact twiceE_2 hI (tab2 hI P 4) w hm)
  (fun w hm => by rw [fl2_8 hI P, fl2_1 hI P, fl2_9 hI P, ts2_9]; exact togE_2 hI (tab2 hI P 8) (tab2 hI P 1) w hm)
  (fun w hm => by rw [fl2_5 hI P, fl2_10 hI P, ts2_10]; exact twiceE_2 hI (tab2 hI P 5) w hm)
  (fun w hm => by rw [fl2_10 hI P, fl2_1 hI P, fl2_11 hI P, ts2_11]; exact togE_2 hI (tab2 hI P 10) (tab2 hI P 1) w hm)
  (fun w hm => by rw [fl2_6 hI P, fl2_12 hI P, ts2_12]; exact twiceE_2 hI (tab2 hI P 6) w hm)
  (fun w hm => by rw [fl2_12 hI P, fl2_1 hI P, fl2_13 hI P, ts2_13]; exact togE_2 hI (tab2 hI P 12) (tab2 hI P 1) w hm)
  (fun w hm => by rw [fl2_7 hI P, fl2_14 hI P, ts2_14]; exact twiceE_2 hI (tab2 hI P 7) w hm)
  (fun w hm => by rw [fl2_14 hI P, fl2_1 hI P, fl2_15 hI P, ts2_15]; exact togE_2 hI (tab2 hI P 14) (tab2 hI P 1) w hm) w hm
def rowA2 {I : Fp → Fp} (hI : zW I) (P : Option (Fq × Fq)) (A : EC.Tri Fq) (v : Nat) : Nat → EC.Tri Fq
 | 0 => A
 | k + 1 => if dgt v k = 0 then (K2 hI).twice ((K2 hI).twice ((K2 hI).twice ((K2 hI).twice (rowA2 hI P A v k)))) else (K2 hI).tog ((K2 hI).twice ((K2 hI).twice ((K2 hI).twice ((K2 hI).twice (rowA2 hI P A v k))))) (tab2 hI P (dgt v k))
theorem rowrep2 {I : Fp → Fp} (hI : zW I) {P : Option (Fq × Fq)} (h : (K2 hI).on P) {A : EC.Tri Fq} {m : Nat} (hA : (K2 hI).rep A ((K2 hI).times P m)) {v : Nat} (hv : v < 18446744073709551616) : ∀ k, (K2 hI).rep (rowA2 hI P A v k) ((K2 hI).times P (m * 16 ^ k + v * 16 ^ k / 18446744073709551616))
 | 0 => by
  rw [Nat.pow_zero, Nat.mul_one, Nat.mul_one, Nat.div_eq_of_lt hv, Nat.add_zero]
  exact hA
 | k + 1 => by
  have ih := (K2 hI).times_sixteen h _ (rowrep2 hI h hA hv k)
  have e : m * 16 ^ (k + 1) + v * 16 ^ (k + 1) / 18446744073709551616 = 16 * (m * 16 ^ k + v * 16 ^ k / 18446744073709551616) + dgt v k := by
   rw [hi_next, Nat.pow_succ]
   generalize v * 16 ^ k / 18446744073709551616 = Y
   rw [← Nat.mul_assoc]
   omega
  rw [e]
  show (K2 hI).rep (if dgt v k = 0 then _ else _) _
  split
  ·next hz =>
   rw [hz, Nat.add_zero]
   exact ih
  ·rw [← (K2 hI).times_step h]
   exact (K2 hI).rep_tog ih (tabrep2 hI h _ (dgt_lt v k)) ((K2 hI).times_on h _) ((K2 hI).times_on h _)
theorem rowE_2 {I : Fp → Fp} (hI : zW I) {tn : Value} (P : Option (Fq × Fq)) (A : EC.Tri Fq) {v : Nat} (hv : v < 18446744073709551616) (gt gr : Nat) (w : World) (hm : Mm w [(2, dtab), (gt, cel (tb2 (fn2 hI P))), (gr, [Value.int .u64 ((v : Nat) : Int)])]) :
  Calls Tryz.prog 129 #[(GV2 tn), V (t2 A), .slice (some ⟨gt, 0, none⟩) 1 1, .slice (some ⟨gr, 0, none⟩) 1 1] w fun e w' => e = .returned (V (t2 (rowA2 hI P A v 16))) ∧ Mm w' [(gr, [Value.int .u64 0])] ∧ Kp gr w w' := by
 rw [← wof_0 hv] at hm
 have h := byRow_2 (u := (K2 hI).R.one) (b := (K2 hI).b) (tn := tn) (fd2 hI) (fn2 hI P) (K2 hI).twice (fun T d => (K2 hI).tog T (tab2 hI P d)) (rowA2 hI P A v) (wof v) (dgt v) gt gr
  (fun T w hm => twiceE_2 hI T w hm)
  (fun T d _ w hm => by
   rw [fn2_0, fn2_1, fn2_2, fn2_3, fn2_4, fn2_5]
   exact togE_2 hI T (tab2 hI P d) w hm)
  (wof_d v) (dgt_lt v) (wof_w v) (fun k hk => (if_pos hk).symm) (fun k hk => (if_neg (by omega)).symm) w hm
 rw [wof_16] at h
 exact h
def sumS2 {I : Fp → Fp} (hI : zW I) (P : Option (Fq × Fq)) (nn : Nat) : Nat → EC.Tri Fq
 | 0 => (K2 hI).lift none
 | r + 1 => rowA2 hI P (sumS2 hI P nn r) (wn nn (5 - r)) 16
theorem sumrep2 {I : Fp → Fp} (hI : zW I) {P : Option (Fq × Fq)} (h : (K2 hI).on P) {nn : Nat} (hn : nn < big) : ∀ r, r ≤ 6 → (K2 hI).rep (sumS2 hI P nn r) ((K2 hI).times P (nn / 2 ^ (64 * (6 - r))))
 | 0, _ => by
  rw [hi_top hn]
  exact (K2 hI).rep_lift none
 | r + 1, hr => by
  have h1 := rowrep2 hI h (sumrep2 hI h hn r (by omega)) (wn_lt nn (5 - r)) 16
  rw [show (16 : Nat) ^ 16 = 18446744073709551616 by decide, Nat.mul_div_cancel _ (by decide), show 6 - r = 5 - r + 1 by omega, hi_word] at h1
  rw [show 6 - (r + 1) = 5 - r by omega]
  exact h1
theorem someE_2 {I : Fp → Fp} (hI : zW I) {tn : Value} (P : Option (Fq × Fq)) {nn gp gn : Nat} (w : World) (hm : Mm w [(2, dtab), (gp, cel [c2x0 P, c2x1 P, c2y0 P, c2y1 P] ++ [Value.bool (c2z P)]), (gn, zD nn)]) :
  Calls Tryz.prog 101 #[(GV2 tn), .slice (some ⟨gp, 0, none⟩) 1 1, .slice (some ⟨gn, 0, none⟩) 1 1] w (Rt w (V (t2 (sumS2 hI P nn 6)))) :=
 some_2 (u := (K2 hI).R.one) (b := (K2 hI).b) (tn := tn) (fd2 hI) (fn2 hI P) (sumS2 hI P nn) (c2x0 P) (c2x1 P) (c2y0 P) (c2y1 P) nn gp gn (c2z P) (fun w hm => zeroE_2 hI w hm) (fun w hm => tableE_2 hI P w hm)
  (fun r _ gt gr w hm => rowE_2 hI P (sumS2 hI P nn r) (wn_lt nn (5 - r)) gt gr w hm) w hm
theorem total2 {I : Fp → Fp} (hI : zW I) {P : Option (Fq × Fq)} (h : (K2 hI).on P) {nn : Nat} (hn : nn < big) : (K2 hI).lower ((K2 hI).tog ((K2 hI).lift none) (sumS2 hI P nn 6)) = (K2 hI).times P nn := by
 have h6 := sumrep2 hI h hn 6 (Nat.le_refl 6)
 rw [Nat.sub_self, Nat.mul_zero, Nat.pow_zero, Nat.div_one] at h6
 have e := (K2 hI).rep_lower ((K2 hI).rep_tog ((K2 hI).rep_lift none) h6 trivial ((K2 hI).times_on h nn))
 rw [e, (K2 hI).zero_add ((K2 hI).times_on h nn)]
theorem sumE_2 {I : Fp → Fp} (hI : zW I) {tn : Value} {P : Option (Fq × Fq)} (h : (K2 hI).on P) {nn gp gn : Nat} (hn : nn < big) (w : World) (hm : Mm w [(2, dtab), (gp, cel [c2x0 P, c2x1 P, c2y0 P, c2y1 P] ++ [Value.bool (c2z P)]), (gn, zD nn)]) :
  Calls Tryz.prog 59 #[(GV2 tn), .slice (some ⟨gp, 0, none⟩) 1 1, .slice (some ⟨gn, 0, none⟩) 1 1] w (Rt w (.tuple #[enc2 ((K2 hI).times P nn), .int .i64 0])) :=
 sumY_2 (u := (K2 hI).R.one) (b := (K2 hI).b) (tn := tn) (fd2 hI) ((K2 hI).lift none) (sumS2 hI P nn 6) ((K2 hI).tog ((K2 hI).lift none) (sumS2 hI P nn 6)) (c2x0 P) (c2x1 P) (c2y0 P) (c2y1 P) (c2x0 ((K2 hI).times P nn)) (c2x1 ((K2 hI).times P nn)) (c2y0 ((K2 hI).times P nn)) (c2y1 ((K2 hI).times P nn)) nn gp gn (c2z P) (c2z ((K2 hI).times P nn))
  (fun w hm => ckE_2 hI h w hm) (fun w hm => zeroE_2 hI w hm) (fun w hm => someE_2 hI P w hm) (fun w hm => togE_2 hI _ _ w hm) (fun w hm => by
   have e := lowerE_2 hI (tn := tn) ((K2 hI).tog ((K2 hI).lift none) (sumS2 hI P nn 6)) w hm
   rw [total2 hI h hn] at e
   exact e) w hm
theorem MulE_2 {I : Fp → Fp} (hI : zW I) {P : Option (Fq × Fq)} (h : (K2 hI).on P) {nn : Nat} (hn : nn < big) (w : World) (hm : Mm w [(2, dtab)]) : Calls Tryz.prog 10 #[enc2 P, N nn] w (Rt w (.tuple #[enc2 ((K2 hI).times P nn), .int .i64 0])) :=
 Mul_2 (c2x0 P) (c2x1 P) (c2y0 P) (c2y1 P) (c2x0 ((K2 hI).times P nn)) (c2x1 ((K2 hI).times P nn)) (c2y0 ((K2 hI).times P nn)) (c2y1 ((K2 hI).times P nn)) nn (c2z P) (c2z ((K2 hI).times P nn)) 0 (fun gl gn w hm =>
  Sum_2 1 4 (c2x0 P) (c2x1 P) (c2y0 P) (c2y1 P) (c2x0 ((K2 hI).times P nn)) (c2x1 ((K2 hI).times P nn)) (c2y0 ((K2 hI).times P nn)) (c2y1 ((K2 hI).times P nn)) nn gl gn (c2z P) (c2z ((K2 hI).times P nn)) 0 secondE (fun tn _ w hm => sumE_2 hI (tn := tn) h hn w hm) w hm) w hm
end Rg
end Go.Proofs.YtmanelnacifgcaaGreatDoor
end
section
namespace Go.Proofs.YtmanelnacifgcaaGreatDoor
open Go.RowKit
namespace Rg
theorem eq_zero6 (q : Nat) (hq : q < big) {r : Bool} (hr : decide (q = 0) = r) (w : World) : (Op.equalIn 10000 24 (N q) (N 0)).run Tryz.prog w = .ok r w := by
 have h := run_eqGD 9998 q 0 hq big_pos w
 rw [hr] at h
 exact h
theorem c1z_none {P : Option (Fp × Fp)} (h : P = none) : c1z P = true := by rw [h]; rfl
theorem c1z_some {P : Option (Fp × Fp)} (h : P ≠ none) : c1z P = false := by
 cases P with
 | none => exact absurd rfl h
 | some q => rfl
theorem c2z_none {P : Option (Fq × Fq)} (h : P = none) : c2z P = true := by rw [h]; rfl
theorem c2z_some {P : Option (Fq × Fq)} (h : P ≠ none) : c2z P = false := by
 cases P with
 | none => exact absurd rfl h
 | some q => rfl
theorem orders_any (n : Nat) (hn : n < big) (w : World) (hm : Mm w [(2, dtab)]) : Calls Tryz.prog 3 #[N n] w (Rt w (.bool true)) := by
 obtain ⟨I, hI⟩ := inv1_ex
 have hq : n % rB < big := Nat.lt_trans (Nat.mod_lt _ NT.prm_r.pos) rB_lt
 have oX := (K1 hI).times_on (on_Q1 hI) n
 have oY := (K2 hI).times_on (on_Q2 hI) n
 have m1 := fun w hm => MulE_1 hI (on_Q1 hI) hn w hm
 have m2 := fun w hm => MulE_2 hI (on_Q2 hI) hn w hm
 have q1 := fun w hm => MulE_1 hI (on_Q1 hI) hq w hm
 have q2 := fun w hm => MulE_2 hI (on_Q2 hI) hq w hm
 rw [← (K1 hI).times_mod (on_Q1 hI) (times_r1 hI) n] at q1
 rw [← (K2 hI).times_mod (on_Q2 hI) (times_r2 hI) n] at q2
 have i1 := fun w hm => In1E hI (c1x ((K1 hI).times Q1 n)) (c1y ((K1 hI).times Q1 n)) (c1z ((K1 hI).times Q1 n)) (c1x_big _) (c1y_big _) w hm
 have i2 := fun w hm => In2E hI (c2x0 ((K2 hI).times Q2 n)) (c2x1 ((K2 hI).times Q2 n)) (c2y0 ((K2 hI).times Q2 n)) (c2y1 ((K2 hI).times Q2 n)) (c2z ((K2 hI).times Q2 n)) (c2x0_big _) (c2x1_big _) (c2y0_big _) (c2y1_big _) w hm
 have b1 : inB1 hI (c1x ((K1 hI).times Q1 n)) (c1y ((K1 hI).times Q1 n)) (c1z ((K1 hI).times Q1 n)) = true := by
  unfold inB1
  rw [rd1_of hI oX]
  exact in1_times hI n
 have b2 : inB2 hI (c2x0 ((K2 hI).times Q2 n)) (c2x1 ((K2 hI).times Q2 n)) (c2y0 ((K2 hI).times Q2 n)) (c2y1 ((K2 hI).times Q2 n)) (c2z ((K2 hI).times Q2 n)) = true := by
  unfold inB2
  rw [rd2_of hI oY]
  exact in2_times hI n
 rw [b1] at i1
 rw [b2] at i2
 have z1 := zero_iff1 hI n
 have z2 := zero_iff2 hI n
 have r1 := refl_P1 (c1x ((K1 hI).times Q1 n)) (c1y ((K1 hI).times Q1 n)) (c1z ((K1 hI).times Q1 n)) (c1x_big _) (c1y_big _)
 have r2 := refl_P2 (c2x0 ((K2 hI).times Q2 n)) (c2x1 ((K2 hI).times Q2 n)) (c2y0 ((K2 hI).times Q2 n)) (c2y1 ((K2 hI).times Q2 n)) (c2z ((K2 hI).times Q2 n)) (c2x0_big _) (c2x1_big _) (c2y0_big _) (c2y1_big _)
 have ez := eq_zero6 (n % rB) hq rfl
 unfold enc1 at m1 q1
 unfold enc2 at m2 q2
 clear b1 b2 oX oY
 generalize (K1 hI).times Q1 n = X at *
 generalize (K2 hI).times Q2 n = Y at *
 have f1 : c1z X = decide (n % rB = 0) := by
  by_cases hz : n % rB = 0
  ·rw [decide_eq_true hz, c1z_none (z1.2 hz)]
  ·rw [decide_eq_false hz, c1z_some (fun e => hz (z1.1 e))]
 have f2 : c2z Y = decide (n % rB = 0) := by
  by_cases hz : n % rB = 0
  ·rw [decide_eq_true hz, c2z_none (z2.2 hz)]
  ·rw [decide_eq_false hz, c2z_some (fun e => hz (z2.1 e))]
 rw [f1] at m1 q1 i1 r1
 rw [f2] at m2 q2 i2 r2
 exact orders_g n rB (n % rB) (c1x Q1) (c1y Q1) (c2x0 Q2) (c2x1 Q2) (c2y0 Q2) (c2y1 Q2) (c1x X) (c1y X) (c2x0 Y) (c2x1 Y) (c2y0 Y) (c2y1 Y) (c1z Q1) (c2z Q2) (decide (n % rB = 0)) awakeE GenE_1 m1 GenE_2 m2 base_rB q1 q2 i1 i2 (fun w => new_ok rB_ok w) (fun g w hm => reduce_any rB_ok hn w hm) r1 r2 ez w hm
end Rg
end Go.Proofs.YtmanelnacifgcaaGreatDoor
end
section
namespace Go.Proofs.YtmanelnacifgcaaGreatDoor
open Go.ChangeShapes Go.WideShapes Go.ChangeAt Go.RowKit
set_option maxRecDepth 100000
theorem Tryz.own : ownKnob Tryz.prog.godebug = none := by kernel_rfl
theorem Tryz.laidOut : laidOutB Tryz.prog = true := by kernel_rfl
theorem wd_cons_zero (x r : Nat) (hx : x < 18446744073709551616) : wd (x + 18446744073709551616 * r) 0 = x := by
 unfold wd; rw [Nat.mul_zero, Nat.pow_zero, Nat.div_one]; omega
theorem wd_cons_succ (x r i : Nat) (hx : x < 18446744073709551616) : wd (x + 18446744073709551616 * r) (i + 1) = wd r i := by
 unfold wd
 rw [pow_step, Nat.mul_comm (2 ^ (64 * i)), ← Nat.div_div_eq_div_mul, show (x + 18446744073709551616 * r) / 18446744073709551616 = r by omega]
theorem lt_cons (x r k : Nat) (hx : x < 18446744073709551616) (hr : r < 2 ^ (64 * k)) : x + 18446744073709551616 * r < 2 ^ (64 * (k + 1)) := by
 rw [pow_step]; omega
theorem num_of_words (x : Nat → Nat) (hx : ∀ i, x i < 18446744073709551616) (n : Nat) : ∃ a, a < 2 ^ (64 * n) ∧ ∀ i, i < n → wd a i = x i := by
 induction n generalizing x with
 | zero => exact ⟨0, Nat.two_pow_pos _, fun i h => absurd h (Nat.not_lt_zero _)⟩
 | succ n ih =>
  obtain ⟨r, hr, hw⟩ := ih (fun i => x (i + 1)) (fun i => hx _)
  refine ⟨x 0 + 18446744073709551616 * r, lt_cons _ _ _ (hx 0) hr, fun i hi => ?_⟩
  cases i with
  | zero => exact wd_cons_zero _ _ (hx 0)
  | succ i => rw [wd_cons_succ _ _ _ (hx 0)]; exact hw i (by omega)
theorem open_num {H : Type} {enc : TypeId × Value → H} {w : World} {base : Nat} {sp : Nat → Bool} {held : Bool} {r : Reach} {b0 : Nat} {v : Value} {d : DataW H} {ps : List MemPlace}
  (hval : Value.okWide Tryz.prog w r b0 24 v) (hd : DataW.Trod enc Tryz.prog w base sp held 24 v d ps) : ∃ a, a < big ∧ v = N a ∧ ps = [] := by
 unfold Value.okWide at hval
 rw [Tryz.underlying24] at hval
 obtain ⟨cs, rfl, hsz, _⟩ := hval
 obtain ⟨fuel, hf⟩ := hd
 obtain ⟨xs, m, -, hx, hl, hn, hel⟩ := DataW.trod_array Tryz.underlying24 hf
 have hc : Tryz.prog.cellsOf 22 = 1 := by kernel_rfl
 have hc6 : Tryz.prog.cellsOf 24 = 6 := by kernel_rfl
 rw [hc6] at hsz
 have key : ∀ i, i < 6 → ∃ n : Nat, n < 18446744073709551616 ∧ cs[i]? = some (.int .u64 n) ∧ ∃ z, xs[i]? = some z ∧ z.2 = [] := by
  intro i hi
  have h := hel i hi
  rw [hc] at h
  have hlt : i < xs.length := by rw [hn]; exact hi
  obtain ⟨z, hz⟩ : ∃ z, xs[i]? = some z := ⟨xs[i], List.getElem?_eq_getElem hlt⟩
  rw [hz] at h
  obtain ⟨n, e1, e2, e3⟩ := DataW.trod_int Tryz.underlying22 h
  have hb := bounds_u64 e3
  have hi' : i < cs.size := by omega
  have e4 : cs[i]? = some (.int .u64 n) := by
   have e5 : (cs.toList.drop i)[0]? = some (.int .u64 n) := by
    have e6 : ((cs.toList.drop (i * 1)).take 1)[0]? = some (.int .u64 n) := by
     have e7 : (Value.agg cs).cells.toList = cs.toList := rfl
     rw [e7] at e1
     rw [e1]; rfl
    rw [Nat.mul_one, List.getElem?_take] at e6
    simpa using e6
   rw [List.getElem?_drop] at e5
   simpa using e5
  refine ⟨n.toNat, by omega, ?_, z, hz, by rw [e2]⟩
  rw [e4, Int.toNat_of_nonneg hb.1]
 obtain ⟨n0, l0, c0, z0, y0, q0⟩ := key 0 (by omega)
 obtain ⟨n1, l1, c1, z1, y1, q1⟩ := key 1 (by omega)
 obtain ⟨n2, l2, c2, z2, y2, q2⟩ := key 2 (by omega)
 obtain ⟨n3, l3, c3, z3, y3, q3⟩ := key 3 (by omega)
 obtain ⟨n4, l4, c4, z4, y4, q4⟩ := key 4 (by omega)
 obtain ⟨n5, l5, c5, z5, y5, q5⟩ := key 5 (by omega)
 have hps : ps = [] := by
  have hx2 : ps = xs.flatMap (·.2) := congrArg Prod.snd hx
  rw [hx2, List.flatMap_eq_nil_iff]
  intro z hz
  obtain ⟨i, hi⟩ := List.mem_iff_getElem?.1 hz
  have hi6 : i < 6 := by
   have := (List.getElem?_eq_some_iff.1 hi).1
   omega
  obtain ⟨n, _, _, z', y, q⟩ := key i hi6
  rw [hi] at y; injection y with y; rw [y]; exact q
 obtain ⟨a, ha, hw⟩ := num_of_words (fun i => [n0, n1, n2, n3, n4, n5].getD i 0) (by
  intro i
  match i with
  | 0 => exact l0
  | 1 => exact l1
  | 2 => exact l2
  | 3 => exact l3
  | 4 => exact l4
  | 5 => exact l5
  | (i + 6) => simp) 6
 refine ⟨a, by rw [big]; exact ha, ?_, hps⟩
 unfold N
 have w0 : wd a 0 = n0 := hw 0 (by omega)
 have w1 : wd a 1 = n1 := hw 1 (by omega)
 have w2 : wd a 2 = n2 := hw 2 (by omega)
 have w3 : wd a 3 = n3 := hw 3 (by omega)
 have w4 : wd a 4 = n4 := hw 4 (by omega)
 have w5 : wd a 5 = n5 := hw 5 (by omega)
 rw [w0, w1, w2, w3, w4, w5]
 congr 1
 apply Array.ext (by simpa using hsz)
 intro i hi1 hi2
 have : i < 6 := by simpa using hi2
 have g : cs[i]? = some cs[i] := Array.getElem?_eq_getElem hi1
 match i, this with
 | 0, _ => rw [c0] at g; injection g with g; rw [← g]; rfl
 | 1, _ => rw [c1] at g; injection g with g; rw [← g]; rfl
 | 2, _ => rw [c2] at g; injection g with g; rw [← g]; rfl
 | 3, _ => rw [c3] at g; injection g with g; rw [← g]; rfl
 | 4, _ => rw [c4] at g; injection g with g; rw [← g]; rfl
 | 5, _ => rw [c5] at g; injection g with g; rw [← g]; rfl
/-- What was read of a number ahead of the call reads so behind it. -/
theorem num_stays {H : Type} {enc : TypeId × Value → H} {W W' : World} {v : Value} {d : DataW H}
  (h : DataW.Trod enc Tryz.prog W 0 (fun _ => true) true 24 v d []) (hb : Below W.heap.size W W') :
  DataW.Trod enc Tryz.prog W' 0 (fun b => decide (b < W.heap.size)) true 24 v d [] :=
 Below.trod Tryz.laidOut (by kernel_rfl) (by decide +kernel) h hb (fun _ hx => by cases hx)
end Go.Proofs.YtmanelnacifgcaaGreatDoor
end
section
namespace Go.Proofs.YtmanelnacifgcaaGreatDoor
open Go.ChangeShapes Go.WideShapes Go.ChangeAt Go.RowKit
namespace Rg
set_option maxRecDepth 100000
abbrev laidL : List (String × DataW Unit) := Rows.curveOrdersRow.laid
abbrev tabName : String := match laidL with
 | (n, _) :: _ => n
 | [] => Tryz.f3.name
theorem gTab : Tryz.prog.globalNamed tabName = some 2 := by kernel_rfl
theorem tTab : (Tryz.prog.globals[2]?).map (·.type) = some 192 := by kernel_rfl
theorem datTab : (Rows.laid_math_bits_deBruijn64tab : DataW Unit) = .agg (Lib.deBruijn64tab.map fun k => .lit (.int .u8 ((k : Nat) : Int))) := by kernel_rfl
theorem tab_of_laid {W : World} (h : laidMetH Tryz.prog laidL W) : Mm W [(2, dtab)] := by
 rw [MakeChecks.laidMetH_plain _ _ _ (by kernel_rfl)] at h
 obtain ⟨ps, ⟨g, t, cs, fuel, p, q, hg, ht, hv, hd, hq, hps⟩, hnd, hc⟩ := h
 obtain rfl := Option.some.inj (gTab.symm.trans hg)
 obtain rfl := Option.some.inj (tTab.symm.trans ht)
 obtain ⟨xs, m, -, hx, hlen, hn, hel⟩ := DataW.trod_array Tryz.underlying192 hd
 rw [datTab] at hx
 simp only [Prod.mk.injEq, DataW.agg.injEq] at hx
 have hc5 : Tryz.prog.cellsOf 5 = 1 := by kernel_rfl
 have hc81 : Tryz.prog.cellsOf 192 = 64 := by kernel_rfl
 rw [hc81] at hlen
 have hsz : cs.size = 64 := by simpa using hlen
 have hpl : ∀ i, i < 64 → MemPlace.cell 2 i ∈ ps := fun i hi => by
  rw [hps]
  refine List.mem_append_left _ (List.mem_append_left _ ?_)
  unfold MemPlace.row
  simp [hsz]
  omega
 obtain ⟨⟨c0, t0, hheap⟩, _⟩ := hc 2 0 (hpl 0 (by decide))
 have h0 : 2 < W.heap.size := by
  rcases Nat.lt_or_ge 2 W.heap.size with h' | h'
  ·exact h'
  ·rw [Array.getElem?_eq_none (by omega)] at hheap; cases hheap
 refine ⟨fun pq hpq => ?_, List.pairwise_singleton _ _⟩
 rw [List.mem_singleton.1 hpq]
 refine ⟨h0, fun j v hj => ?_⟩
 have hj64 : j < 64 := by
  have := (List.getElem?_eq_some_iff.1 hj).1
  exact this
 refine ⟨?_, ?_⟩
 ·rw [World.var?_cell hg hv j]
  have h1 := hel j hj64
  rw [hc5, Nat.mul_one] at h1
  have hlt : j < xs.length := by omega
  rw [List.getElem?_eq_getElem hlt] at h1
  obtain ⟨n, e1, e2, _⟩ := DataW.trod_int Tryz.underlying5 h1
  have e3 : cs[j]? = some (.int .u8 n) := by
   have e4 : ((cs.toList.drop j).take 1)[0]? = some (.int .u8 n) := by rw [e1]; rfl
   rw [List.getElem?_take, if_pos (by decide), List.getElem?_drop] at e4
   simpa using e4
  have e5 : (xs.map (·.1))[j]? = (Lib.deBruijn64tab.map fun k => DataW.lit (.int .u8 ((k : Nat) : Int)))[j]? := by rw [hx.1]
  rw [List.getElem?_map, List.getElem?_eq_getElem hlt, e2, List.getElem?_map] at e5
  unfold dtab at hj
  rw [List.getElem?_map] at hj
  cases hk : Lib.deBruijn64tab[j]? with
  | none => rw [hk] at hj; cases hj
  | some k =>
   rw [hk] at hj e5
   simp only [Option.map_some, Option.some.injEq, DataW.lit.injEq] at hj e5
   rw [e3, ← hj]
   simp only [Option.some.injEq]
   injection e5 with _ e6
   rw [e6]
 ·unfold World.frozen?
  rw [hheap]
  simp
theorem door_met (os : Os) (args : Array Value) : laidMetH Tryz.prog laidL ((World.doorLaid Tryz.prog 400 os).forCall (fun _ _ => 0) ⟨#[], args, []⟩).memory :=
 laidMetH_of_parts3 (fuel := 8) (laidMet_of_run' 8 (by kernel_rfl) (by kernel_rfl)) (by kernel_rfl) (by kernel_rfl)
end Rg
end Go.Proofs.YtmanelnacifgcaaGreatDoor
end
