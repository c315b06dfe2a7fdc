/- Texts of the proof, joined. -/
import Derived.Test.YtmanelnacifgcaaGreatDoorP9
import Derived.BigRegion
import Derived.Deep.OwnRows
import Derived.Laws.BytesArg
import Derived.ProofKit
import Derived.OpenShut
import Derived.Test.YtmanelnacifgcaaGreatDoorRows
import Derived.LaidMore
import Derived.Stop.Joined
import Derived.Test.YtmanelnacifgcaaGreatDoorTie
set_option maxRecDepth 100000
section
namespace Go.Proofs.YtmanelnacifgcaaGreatDoor
open Go.RowKit
namespace Rg
open NT
def tab2 {I : Fp → Fp} (hI : zX I) (P : Option (Fq × Fq)) : Nat → EC.Tri Fq
 | 0 => (K2 hI).lift none
 | 1 => (K2 hI).lift P
 | 2 => (K2 hI).twice ((K2 hI).lift P)
 | 3 => (K2 hI).tog ((K2 hI).twice ((K2 hI).lift P)) ((K2 hI).lift P)
 | 4 => (K2 hI).twice ((K2 hI).twice ((K2 hI).lift P))
 | 5 => (K2 hI).tog ((K2 hI).twice ((K2 hI).twice ((K2 hI).lift P))) ((K2 hI).lift P)
 | 6 => (K2 hI).twice ((K2 hI).tog ((K2 hI).twice ((K2 hI).lift P)) ((K2 hI).lift P))
 | 7 => (K2 hI).tog ((K2 hI).twice ((K2 hI).tog ((K2 hI).twice ((K2 hI).lift P)) ((K2 hI).lift P))) ((K2 hI).lift P)
 | 8 => (K2 hI).twice ((K2 hI).twice ((K2 hI).twice ((K2 hI).lift P)))
 | 9 => (K2 hI).tog ((K2 hI).twice ((K2 hI).twice ((K2 hI).twice ((K2 hI).lift P)))) ((K2 hI).lift P)
 | 10 => (K2 hI).twice ((K2 hI).tog ((K2 hI).twice ((K2 hI).twice ((K2 hI).lift P))) ((K2 hI).lift P))
 | 11 => (K2 hI).tog ((K2 hI).twice ((K2 hI).tog ((K2 hI).twice ((K2 hI).twice ((K2 hI).lift P))) ((K2 hI).lift P))) ((K2 hI).lift P)
 | 12 => (K2 hI).twice ((K2 hI).twice ((K2 hI).tog ((K2 hI).twice ((K2 hI).lift P)) ((K2 hI).lift P)))
 | 13 => (K2 hI).tog ((K2 hI).twice ((K2 hI).twice ((K2 hI).tog ((K2 hI).twice ((K2 hI).lift P)) ((K2 hI).lift P)))) ((K2 hI).lift P)
 | 14 => (K2 hI).twice ((K2 hI).tog ((K2 hI).twice ((K2 hI).tog ((K2 hI).twice ((K2 hI).lift P)) ((K2 hI).lift P))) ((K2 hI).lift P))
 | 15 => (K2 hI).tog ((K2 hI).twice ((K2 hI).tog ((K2 hI).twice ((K2 hI).tog ((K2 hI).twice ((K2 hI).lift P)) ((K2 hI).lift P))) ((K2 hI).lift P))) ((K2 hI).lift P)
 | _ => (K2 hI).lift none
def fn2 {I : Fp → Fp} (hI : zX I) (P : Option (Fq × Fq)) (k : Nat) : Nat :=
 match k % 6 with
 | 0 => q0 (tab2 hI P (k / 6)).1
 | 1 => q1 (tab2 hI P (k / 6)).1
 | 2 => q0 (tab2 hI P (k / 6)).2.1
 | 3 => q1 (tab2 hI P (k / 6)).2.1
 | 4 => q0 (tab2 hI P (k / 6)).2.2
 | _ => q1 (tab2 hI P (k / 6)).2.2
theorem fn2_0 {I : Fp → Fp} (hI : zX I) (P : Option (Fq × Fq)) (d : Nat) : fn2 hI P (6 * d) = q0 (tab2 hI P d).1 := by
 unfold fn2
 rw [show (6 * d) % 6 = 0 by omega, show (6 * d) / 6 = d by omega]
 rfl
theorem fn2_1 {I : Fp → Fp} (hI : zX I) (P : Option (Fq × Fq)) (d : Nat) : fn2 hI P (6 * d + 1) = q1 (tab2 hI P d).1 := by
 unfold fn2
 rw [show (6 * d + 1) % 6 = 1 by omega, show (6 * d + 1) / 6 = d by omega]
 rfl
theorem fn2_2 {I : Fp → Fp} (hI : zX I) (P : Option (Fq × Fq)) (d : Nat) : fn2 hI P (6 * d + 2) = q0 (tab2 hI P d).2.1 := by
 unfold fn2
 rw [show (6 * d + 2) % 6 = 2 by omega, show (6 * d + 2) / 6 = d by omega]
 rfl
theorem fn2_3 {I : Fp → Fp} (hI : zX I) (P : Option (Fq × Fq)) (d : Nat) : fn2 hI P (6 * d + 3) = q1 (tab2 hI P d).2.1 := by
 unfold fn2
 rw [show (6 * d + 3) % 6 = 3 by omega, show (6 * d + 3) / 6 = d by omega]
 rfl
theorem fn2_4 {I : Fp → Fp} (hI : zX I) (P : Option (Fq × Fq)) (d : Nat) : fn2 hI P (6 * d + 4) = q0 (tab2 hI P d).2.2 := by
 unfold fn2
 rw [show (6 * d + 4) % 6 = 4 by omega, show (6 * d + 4) / 6 = d by omega]
 rfl
theorem fn2_5 {I : Fp → Fp} (hI : zX I) (P : Option (Fq × Fq)) (d : Nat) : fn2 hI P (6 * d + 5) = q1 (tab2 hI P d).2.2 := by
 unfold fn2
 rw [show (6 * d + 5) % 6 = 5 by omega, show (6 * d + 5) / 6 = d by omega]
 rfl
theorem tabrep2 {I : Fp → Fp} (hI : zX I) {P : Option (Fq × Fq)} (h : (K2 hI).on P) : ∀ j, j < 16 → (K2 hI).rep (tab2 hI P j) ((K2 hI).times P j) := by
 have o := fun k => (K2 hI).times_on h k
 have rp : (K2 hI).rep ((K2 hI).lift P) P := (K2 hI).rep_lift P
 have r1 : (K2 hI).rep ((K2 hI).lift P) ((K2 hI).times P 1) := by rw [(K2 hI).times_one h]; exact rp
 have two : ∀ k (A : EC.Tri Fq), (K2 hI).rep A ((K2 hI).times P k) → (K2 hI).rep ((K2 hI).twice A) ((K2 hI).times P (2 * k)) := fun k A hk => by
  rw [← (K2 hI).times_two h]
  exact (K2 hI).rep_twice hk (o k)
 have odd : ∀ k (A : EC.Tri Fq), (K2 hI).rep A ((K2 hI).times P k) → (K2 hI).rep ((K2 hI).tog A ((K2 hI).lift P)) ((K2 hI).times P (k + 1)) := fun k A hk => (K2 hI).rep_tog hk rp (o k) h
 have r2 : (K2 hI).rep (tab2 hI P 2) ((K2 hI).times P 2) := two 1 _ r1
 have r3 : (K2 hI).rep (tab2 hI P 3) ((K2 hI).times P 3) := odd 2 _ r2
 have r4 : (K2 hI).rep (tab2 hI P 4) ((K2 hI).times P 4) := two 2 _ r2
 have r5 : (K2 hI).rep (tab2 hI P 5) ((K2 hI).times P 5) := odd 4 _ r4
 have r6 : (K2 hI).rep (tab2 hI P 6) ((K2 hI).times P 6) := two 3 _ r3
 have r7 : (K2 hI).rep (tab2 hI P 7) ((K2 hI).times P 7) := odd 6 _ r6
 have r8 : (K2 hI).rep (tab2 hI P 8) ((K2 hI).times P 8) := two 4 _ r4
 have r9 : (K2 hI).rep (tab2 hI P 9) ((K2 hI).times P 9) := odd 8 _ r8
 have r10 : (K2 hI).rep (tab2 hI P 10) ((K2 hI).times P 10) := two 5 _ r5
 have r11 : (K2 hI).rep (tab2 hI P 11) ((K2 hI).times P 11) := odd 10 _ r10
 have r12 : (K2 hI).rep (tab2 hI P 12) ((K2 hI).times P 12) := two 6 _ r6
 have r13 : (K2 hI).rep (tab2 hI P 13) ((K2 hI).times P 13) := odd 12 _ r12
 have r14 : (K2 hI).rep (tab2 hI P 14) ((K2 hI).times P 14) := two 7 _ r7
 have r15 : (K2 hI).rep (tab2 hI P 15) ((K2 hI).times P 15) := odd 14 _ r14
 intro j hj
 match j, hj with
 | 0, _ => exact (K2 hI).rep_lift none
 | 1, _ => exact r1
 | 2, _ => exact r2
 | 3, _ => exact r3
 | 4, _ => exact r4
 | 5, _ => exact r5
 | 6, _ => exact r6
 | 7, _ => exact r7
 | 8, _ => exact r8
 | 9, _ => exact r9
 | 10, _ => exact r10
 | 11, _ => exact r11
 | 12, _ => exact r12
 | 13, _ => exact r13
 | 14, _ => exact r14
 | 15, _ => exact r15
 | _ + 16, h => exact absurd h (by omega)
theorem fnl2 {I : Fp → Fp} (hI : zX I) (P : Option (Fq × Fq)) (d : Nat) : [fn2 hI P (6 * d), fn2 hI P (6 * d + 1), fn2 hI P (6 * d + 2), fn2 hI P (6 * d + 3), fn2 hI P (6 * d + 4), fn2 hI P (6 * d + 5)] = t2 (tab2 hI P d) := by rw [fn2_0, fn2_1, fn2_2, fn2_3, fn2_4, fn2_5]
theorem fl2_0 {I : Fp → Fp} (hI : zX I) (P : Option (Fq × Fq)) : [fn2 hI P 0, fn2 hI P 1, fn2 hI P 2, fn2 hI P 3, fn2 hI P 4, fn2 hI P 5] = t2 (tab2 hI P 0) := fnl2 hI P 0
theorem fl2_1 {I : Fp → Fp} (hI : zX I) (P : Option (Fq × Fq)) : [fn2 hI P 6, fn2 hI P 7, fn2 hI P 8, fn2 hI P 9, fn2 hI P 10, fn2 hI P 11] = t2 (tab2 hI P 1) := fnl2 hI P 1
theorem fl2_2 {I : Fp → Fp} (hI : zX I) (P : Option (Fq × Fq)) : [fn2 hI P 12, fn2 hI P 13, fn2 hI P 14, fn2 hI P 15, fn2 hI P 16, fn2 hI P 17] = t2 (tab2 hI P 2) := fnl2 hI P 2
theorem fl2_3 {I : Fp → Fp} (hI : zX I) (P : Option (Fq × Fq)) : [fn2 hI P 18, fn2 hI P 19, fn2 hI P 20, fn2 hI P 21, fn2 hI P 22, fn2 hI P 23] = t2 (tab2 hI P 3) := fnl2 hI P 3
theorem fl2_4 {I : Fp → Fp} (hI : zX I) (P : Option (Fq × Fq)) : [fn2 hI P 24, fn2 hI P 25, fn2 hI P 26, fn2 hI P 27, fn2 hI P 28, fn2 hI P 29] = t2 (tab2 hI P 4) := fnl2 hI P 4
theorem fl2_5 {I : Fp → Fp} (hI : zX I) (P : Option (Fq × Fq)) : [fn2 hI P 30, fn2 hI P 31, fn2 hI P 32, fn2 hI P 33, fn2 hI P 34, fn2 hI P 35] = t2 (tab2 hI P 5) := fnl2 hI P 5
theorem fl2_6 {I : Fp → Fp} (hI : zX I) (P : Option (Fq × Fq)) : [fn2 hI P 36, fn2 hI P 37, fn2 hI P 38, fn2 hI P 39, fn2 hI P 40, fn2 hI P 41] = t2 (tab2 hI P 6) := fnl2 hI P 6
theorem fl2_7 {I : Fp → Fp} (hI : zX I) (P : Option (Fq × Fq)) : [fn2 hI P 42, fn2 hI P 43, fn2 hI P 44, fn2 hI P 45, fn2 hI P 46, fn2 hI P 47] = t2 (tab2 hI P 7) := fnl2 hI P 7
theorem fl2_8 {I : Fp → Fp} (hI : zX I) (P : Option (Fq × Fq)) : [fn2 hI P 48, fn2 hI P 49, fn2 hI P 50, fn2 hI P 51, fn2 hI P 52, fn2 hI P 53] = t2 (tab2 hI P 8) := fnl2 hI P 8
theorem fl2_9 {I : Fp → Fp} (hI : zX I) (P : Option (Fq × Fq)) : [fn2 hI P 54, fn2 hI P 55, fn2 hI P 56, fn2 hI P 57, fn2 hI P 58, fn2 hI P 59] = t2 (tab2 hI P 9) := fnl2 hI P 9
theorem fl2_10 {I : Fp → Fp} (hI : zX I) (P : Option (Fq × Fq)) : [fn2 hI P 60, fn2 hI P 61, fn2 hI P 62, fn2 hI P 63, fn2 hI P 64, fn2 hI P 65] = t2 (tab2 hI P 10) := fnl2 hI P 10
theorem fl2_11 {I : Fp → Fp} (hI : zX I) (P : Option (Fq × Fq)) : [fn2 hI P 66, fn2 hI P 67, fn2 hI P 68, fn2 hI P 69, fn2 hI P 70, fn2 hI P 71] = t2 (tab2 hI P 11) := fnl2 hI P 11
theorem fl2_12 {I : Fp → Fp} (hI : zX I) (P : Option (Fq × Fq)) : [fn2 hI P 72, fn2 hI P 73, fn2 hI P 74, fn2 hI P 75, fn2 hI P 76, fn2 hI P 77] = t2 (tab2 hI P 12) := fnl2 hI P 12
theorem fl2_13 {I : Fp → Fp} (hI : zX I) (P : Option (Fq × Fq)) : [fn2 hI P 78, fn2 hI P 79, fn2 hI P 80, fn2 hI P 81, fn2 hI P 82, fn2 hI P 83] = t2 (tab2 hI P 13) := fnl2 hI P 13
theorem fl2_14 {I : Fp → Fp} (hI : zX I) (P : Option (Fq × Fq)) : [fn2 hI P 84, fn2 hI P 85, fn2 hI P 86, fn2 hI P 87, fn2 hI P 88, fn2 hI P 89] = t2 (tab2 hI P 14) := fnl2 hI P 14
theorem fl2_15 {I : Fp → Fp} (hI : zX I) (P : Option (Fq × Fq)) : [fn2 hI P 90, fn2 hI P 91, fn2 hI P 92, fn2 hI P 93, fn2 hI P 94, fn2 hI P 95] = t2 (tab2 hI P 15) := fnl2 hI P 15
theorem ts2_2 {I : Fp → Fp} (hI : zX I) (P : Option (Fq × Fq)) : tab2 hI P 2 = (K2 hI).twice (tab2 hI P 1) := rfl
theorem ts2_3 {I : Fp → Fp} (hI : zX I) (P : Option (Fq × Fq)) : tab2 hI P 3 = (K2 hI).tog (tab2 hI P 2) (tab2 hI P 1) := rfl
theorem ts2_4 {I : Fp → Fp} (hI : zX I) (P : Option (Fq × Fq)) : tab2 hI P 4 = (K2 hI).twice (tab2 hI P 2) := rfl
theorem ts2_5 {I : Fp → Fp} (hI : zX I) (P : Option (Fq × Fq)) : tab2 hI P 5 = (K2 hI).tog (tab2 hI P 4) (tab2 hI P 1) := rfl
theorem ts2_6 {I : Fp → Fp} (hI : zX I) (P : Option (Fq × Fq)) : tab2 hI P 6 = (K2 hI).twice (tab2 hI P 3) := rfl
theorem ts2_7 {I : Fp → Fp} (hI : zX I) (P : Option (Fq × Fq)) : tab2 hI P 7 = (K2 hI).tog (tab2 hI P 6) (tab2 hI P 1) := rfl
theorem ts2_8 {I : Fp → Fp} (hI : zX I) (P : Option (Fq × Fq)) : tab2 hI P 8 = (K2 hI).twice (tab2 hI P 4) := rfl
theorem ts2_9 {I : Fp → Fp} (hI : zX I) (P : Option (Fq × Fq)) : tab2 hI P 9 = (K2 hI).tog (tab2 hI P 8) (tab2 hI P 1) := rfl
theorem ts2_10 {I : Fp → Fp} (hI : zX I) (P : Option (Fq × Fq)) : tab2 hI P 10 = (K2 hI).twice (tab2 hI P 5) := rfl
theorem ts2_11 {I : Fp → Fp} (hI : zX I) (P : Option (Fq × Fq)) : tab2 hI P 11 = (K2 hI).tog (tab2 hI P 10) (tab2 hI P 1) := rfl
theorem ts2_12 {I : Fp → Fp} (hI : zX I) (P : Option (Fq × Fq)) : tab2 hI P 12 = (K2 hI).twice (tab2 hI P 6) := rfl
theorem ts2_13 {I : Fp → Fp} (hI : zX I) (P : Option (Fq × Fq)) : tab2 hI P 13 = (K2 hI).tog (tab2 hI P 12) (tab2 hI P 1) := rfl
theorem ts2_14 {I : Fp → Fp} (hI : zX I) (P : Option (Fq × Fq)) : tab2 hI P 14 = (K2 hI).twice (tab2 hI P 7) := rfl
theorem ts2_15 {I : Fp → Fp} (hI : zX I) (P : Option (Fq × Fq)) : tab2 hI P 15 = (K2 hI).tog (tab2 hI P 14) (tab2 hI P 1) := rfl
theorem tableE_2 {I : Fp → Fp} (hI : zX I) {tn : Value} (P : Option (Fq × Fq)) (w : World) (hm : Mm w [(2, dtab)]) : Calls Tryz.prog 128 #[(GV2 tn), enc2 P] w (Rt w (V (tb2 (fn2 hI P)))) :=
 tableOf_2 (u := (K2 hI).R.one) (b := (K2 hI).b) (tn := tn) (fd2 hI) (fn2 hI P) (c2x0 P) (c2x1 P) (c2y0 P) (c2y1 P) (c2z P) (fun w hm => by rw [fl2_0 hI P]; exact zeroE_2 hI w hm) (fun w hm => by rw [fl2_1 hI P]; exact liftE_2 hI P w hm)
  (fun w hm => by rw [fl2_1 hI P, fl2_2 hI P, ts2_2]; exact twiceE_2 hI (tab2 hI P 1) w hm)
  (fun w hm => by rw [fl2_2 hI P, fl2_1 hI P, fl2_3 hI P, ts2_3]; exact togE_2 hI (tab2 hI P 2) (tab2 hI P 1) w hm)
  (fun w hm => by rw [fl2_2 hI P, fl2_4 hI P, ts2_4]; exact twiceE_2 hI (tab2 hI P 2) w hm)
  (fun w hm => by rw [fl2_4 hI P, fl2_1 hI P, fl2_5 hI P, ts2_5]; exact togE_2 hI (tab2 hI P 4) (tab2 hI P 1) w hm)
  (fun w hm => by rw [fl2_3 hI P, fl2_6 hI P, ts2_6]; exact twiceE_2 hI (tab2 hI P 3) w hm)
  (fun w hm => by rw [fl2_6 hI P, fl2_1 hI P, fl2_7 hI P, ts2_7]; exact togE_2 hI (tab2 hI P 6) (tab2 hI P 1) w hm)
  (fun w hm => by rw [fl2_4 hI P, fl2_8 hI P, ts2_8]; exact twiceE_2 hI (tab2 hI P 4) w hm)
  (fun w hm => by rw [fl2_8 hI P, fl2_1 hI P, fl2_9 hI P, ts2_9]; exact togE_2 hI (tab2 hI P 8) (tab2 hI P 1) w hm)
  (fun w hm => by rw [fl2_5 hI P, fl2_10 hI P, ts2_10]; exact twiceE_2 hI (tab2 hI P 5) w hm)
  (fun w hm => by rw [fl2_10 hI P, fl2_1 hI P, fl2_11 hI P, ts2_11]; exact togE_2 hI (tab2 hI P 10) (tab2 hI P 1) w hm)
  (fun w hm => by rw [fl2_6 hI P, fl2_12 hI P, ts2_12]; exact twiceE_2 hI (tab2 hI P 6) w hm)
  (fun w hm => by rw [fl2_12 hI P, fl2_1 hI P, fl2_13 hI P, ts2_13]; exact togE_2 hI (tab2 hI P 12) (tab2 hI P 1) w hm)
  (fun w hm => by rw [fl2_7 hI P, fl2_14 hI P, ts2_14]; exact twiceE_2 hI (tab2 hI P 7) w hm)
  (fun w hm => by rw [fl2_14 hI P, fl2_1 hI P, fl2_15 hI P, ts2_15]; exact togE_2 hI (tab2 hI P 14) (tab2 hI P 1) w hm) w hm
def rowA2 {I : Fp → Fp} (hI : zX I) (P : Option (Fq × Fq)) (A : EC.Tri Fq) (v : Nat) : Nat → EC.Tri Fq
 | 0 => A
 | k + 1 => if dgt v k = 0 then (K2 hI).twice ((K2 hI).twice ((K2 hI).twice ((K2 hI).twice (rowA2 hI P A v k)))) else (K2 hI).tog ((K2 hI).twice ((K2 hI).twice ((K2 hI).twice ((K2 hI).twice (rowA2 hI P A v k))))) (tab2 hI P (dgt v k))
theorem rowrep2 {I : Fp → Fp} (hI : zX I) {P : Option (Fq × Fq)} (h : (K2 hI).on P) {A : EC.Tri Fq} {m : Nat} (hA : (K2 hI).rep A ((K2 hI).times P m)) {v : Nat} (hv : v < 18446744073709551616) : ∀ k, (K2 hI).rep (rowA2 hI P A v k) ((K2 hI).times P (m * 16 ^ k + v * 16 ^ k / 18446744073709551616))
 | 0 => by
  rw [Nat.pow_zero, Nat.mul_one, Nat.mul_one, Nat.div_eq_of_lt hv, Nat.add_zero]
  exact hA
 | k + 1 => by
  have ih := (K2 hI).times_sixteen h _ (rowrep2 hI h hA hv k)
  have e : m * 16 ^ (k + 1) + v * 16 ^ (k + 1) / 18446744073709551616 = 16 * (m * 16 ^ k + v * 16 ^ k / 18446744073709551616) + dgt v k := by
   rw [hi_next, Nat.pow_succ]
   generalize v * 16 ^ k / 18446744073709551616 = Y
   rw [← Nat.mul_assoc]
   omega
  rw [e]
  show (K2 hI).rep (if dgt v k = 0 then _ else _) _
  split
  ·next hz =>
   rw [hz, Nat.add_zero]
   exact ih
  ·rw [← (K2 hI).times_step h]
   exact (K2 hI).rep_tog ih (tabrep2 hI h _ (dgt_lt v k)) ((K2 hI).times_on h _) ((K2 hI).times_on h _)
theorem rowE_2 {I : Fp → Fp} (hI : zX I) {tn : Value} (P : Option (Fq × Fq)) (A : EC.Tri Fq) {v : Nat} (hv : v < 18446744073709551616) (gt gr : Nat) (w : World) (hm : Mm w [(2, dtab), (gt, cel (tb2 (fn2 hI P))), (gr, [Value.int .u64 ((v : Nat) : Int)])]) :
  Calls Tryz.prog 129 #[(GV2 tn), V (t2 A), .slice (some ⟨gt, 0, none⟩) 1 1, .slice (some ⟨gr, 0, none⟩) 1 1] w fun e w' => e = .returned (V (t2 (rowA2 hI P A v 16))) ∧ Mm w' [(gr, [Value.int .u64 0])] ∧ Kp gr w w' := by
 rw [← wof_0 hv] at hm
 have h := byRow_2 (u := (K2 hI).R.one) (b := (K2 hI).b) (tn := tn) (fd2 hI) (fn2 hI P) (K2 hI).twice (fun T d => (K2 hI).tog T (tab2 hI P d)) (rowA2 hI P A v) (wof v) (dgt v) gt gr
  (fun T w hm => twiceE_2 hI T w hm)
  (fun T d _ w hm => by
   rw [fn2_0, fn2_1, fn2_2, fn2_3, fn2_4, fn2_5]
   exact togE_2 hI T (tab2 hI P d) w hm)
  (wof_d v) (dgt_lt v) (wof_w v) (fun k hk => (if_pos hk).symm) (fun k hk => (if_neg (by omega)).symm) w hm
 rw [wof_16] at h
 exact h
def sumS2 {I : Fp → Fp} (hI : zX I) (P : Option (Fq × Fq)) (nn : Nat) : Nat → EC.Tri Fq
 | 0 => (K2 hI).lift none
 | r + 1 => rowA2 hI P (sumS2 hI P nn r) (wn nn (5 - r)) 16
theorem sumrep2 {I : Fp → Fp} (hI : zX I) {P : Option (Fq × Fq)} (h : (K2 hI).on P) {nn : Nat} (hn : nn < big) : ∀ r, r ≤ 6 → (K2 hI).rep (sumS2 hI P nn r) ((K2 hI).times P (nn / 2 ^ (64 * (6 - r))))
 | 0, _ => by
  rw [hi_top hn]
  exact (K2 hI).rep_lift none
 | r + 1, hr => by
  have h1 := rowrep2 hI h (sumrep2 hI h hn r (by omega)) (wn_lt nn (5 - r)) 16
  rw [show (16 : Nat) ^ 16 = 18446744073709551616 by decide, Nat.mul_div_cancel _ (by decide), show 6 - r = 5 - r + 1 by omega, hi_word] at h1
  rw [show 6 - (r + 1) = 5 - r by omega]
  exact h1
theorem someE_2 {I : Fp → Fp} (hI : zX I) {tn : Value} (P : Option (Fq × Fq)) {nn gp gn : Nat} (w : World) (hm : Mm w [(2, dtab), (gp, cel [c2x0 P, c2x1 P, c2y0 P, c2y1 P] ++ [Value.bool (c2z P)]), (gn, zC nn)]) :
  Calls Tryz.prog 101 #[(GV2 tn), .slice (some ⟨gp, 0, none⟩) 1 1, .slice (some ⟨gn, 0, none⟩) 1 1] w (Rt w (V (t2 (sumS2 hI P nn 6)))) :=
 some_2 (u := (K2 hI).R.one) (b := (K2 hI).b) (tn := tn) (fd2 hI) (fn2 hI P) (sumS2 hI P nn) (c2x0 P) (c2x1 P) (c2y0 P) (c2y1 P) nn gp gn (c2z P) (fun w hm => zeroE_2 hI w hm) (fun w hm => tableE_2 hI P w hm)
  (fun r _ gt gr w hm => rowE_2 hI P (sumS2 hI P nn r) (wn_lt nn (5 - r)) gt gr w hm) w hm
theorem total2 {I : Fp → Fp} (hI : zX I) {P : Option (Fq × Fq)} (h : (K2 hI).on P) {nn : Nat} (hn : nn < big) : (K2 hI).lower ((K2 hI).tog ((K2 hI).lift none) (sumS2 hI P nn 6)) = (K2 hI).times P nn := by
 have h6 := sumrep2 hI h hn 6 (Nat.le_refl 6)
 rw [Nat.sub_self, Nat.mul_zero, Nat.pow_zero, Nat.div_one] at h6
 have e := (K2 hI).rep_lower ((K2 hI).rep_tog ((K2 hI).rep_lift none) h6 trivial ((K2 hI).times_on h nn))
 rw [e, (K2 hI).zero_add ((K2 hI).times_on h nn)]
theorem sumE_2 {I : Fp → Fp} (hI : zX I) {tn : Value} {P : Option (Fq × Fq)} (h : (K2 hI).on P) {nn gp gn : Nat} (hn : nn < big) (w : World) (hm : Mm w [(2, dtab), (gp, cel [c2x0 P, c2x1 P, c2y0 P, c2y1 P] ++ [Value.bool (c2z P)]), (gn, zC nn)]) :
  Calls Tryz.prog 59 #[(GV2 tn), .slice (some ⟨gp, 0, none⟩) 1 1, .slice (some ⟨gn, 0, none⟩) 1 1] w (Rt w (.tuple #[enc2 ((K2 hI).times P nn), .int .i64 0])) :=
 sumY_2 (u := (K2 hI).R.one) (b := (K2 hI).b) (tn := tn) (fd2 hI) ((K2 hI).lift none) (sumS2 hI P nn 6) ((K2 hI).tog ((K2 hI).lift none) (sumS2 hI P nn 6)) (c2x0 P) (c2x1 P) (c2y0 P) (c2y1 P) (c2x0 ((K2 hI).times P nn)) (c2x1 ((K2 hI).times P nn)) (c2y0 ((K2 hI).times P nn)) (c2y1 ((K2 hI).times P nn)) nn gp gn (c2z P) (c2z ((K2 hI).times P nn))
  (fun w hm => ckE_2 hI h w hm) (fun w hm => zeroE_2 hI w hm) (fun w hm => someE_2 hI P w hm) (fun w hm => togE_2 hI _ _ w hm) (fun w hm => by
   have e := lowerE_2 hI (tn := tn) ((K2 hI).tog ((K2 hI).lift none) (sumS2 hI P nn 6)) w hm
   rw [total2 hI h hn] at e
   exact e) w hm
theorem MulE_2 {I : Fp → Fp} (hI : zX I) {P : Option (Fq × Fq)} (h : (K2 hI).on P) {nn : Nat} (hn : nn < big) (w : World) (hm : Mm w [(2, dtab)]) : Calls Tryz.prog 10 #[enc2 P, N nn] w (Rt w (.tuple #[enc2 ((K2 hI).times P nn), .int .i64 0])) :=
 Mul_2 (c2x0 P) (c2x1 P) (c2y0 P) (c2y1 P) (c2x0 ((K2 hI).times P nn)) (c2x1 ((K2 hI).times P nn)) (c2y0 ((K2 hI).times P nn)) (c2y1 ((K2 hI).times P nn)) nn (c2z P) (c2z ((K2 hI).times P nn)) 0 (fun gl gn w hm =>
  Sum_2 1 4 (c2x0 P) (c2x1 P) (c2y0 P) (c2y1 P) (c2x0 ((K2 hI).times P nn)) (c2x1 ((K2 hI).times P nn)) (c2y0 ((K2 hI).times P nn)) (c2y1 ((K2 hI).times P nn)) nn gl gn (c2z P) (c2z ((K2 hI).times P nn)) 0 secondE (fun tn _ w hm => sumE_2 hI (tn := tn) h hn w hm) w hm) w hm
end Rg
end Go.Proofs.YtmanelnacifgcaaGreatDoor
end
section
namespace Go.Proofs.YtmanelnacifgcaaGreatDoor
open Go.RowKit
/-- Digit k of a number, to the base 16. -/
def hx (a k : Nat) : Nat := a / 2 ^ (4 * k) % 16
theorem hx_lt (a k : Nat) : hx a k < 16 := Nat.mod_lt _ (by decide)
theorem hx_bits (a k : Nat) : ((a >>> (64 * (k / 16)) % 2 ^ 64) >>> (4 * (k % 16))) &&& 15 = a >>> (4 * k) % 2 ^ 4 := by
 have e15 : (15 : Nat) = 2 ^ 4 - 1 := by decide
 rw [e15, Nat.and_two_pow_sub_one_eq_mod]
 apply Nat.eq_of_testBit_eq
 intro i
 simp only [Nat.testBit_mod_two_pow, Nat.testBit_shiftRight]
 by_cases hi : i < 4
 ·have e1 : 4 * (k % 16) + i < 64 := by omega
  have e2 : 64 * (k / 16) + (4 * (k % 16) + i) = 4 * k + i := by omega
  simp [hi, e1, e2]
 ·simp [hi]
theorem hx_word (a k : Nat) : bits .and .u64 (wd a (k / 16) / 2 ^ (4 * (k % 16))) 15 = (hx a k : Int) := by
 unfold hx
 rw [wd_shr, div_shr, ← Nat.shiftRight_eq_div_pow]
 have e := hx_bits a k
 have h := bits_and_u64_nat ((a >>> (64 * (k / 16)) % 2 ^ 64) >>> (4 * (k % 16))) 15 (by rw [Nat.shiftRight_eq_div_pow (n := 4 * (k % 16))]; exact Nat.lt_of_le_of_lt (Nat.div_le_self _ _) (Nat.mod_lt _ (by decide))) (by decide)
 rw [e] at h
 exact h
/-- The sign of a digit. -/
def hc (d : Nat) : Int := if d < 10 then 48 + d else 87 + d
theorem hc_bd (d : Nat) (h : d < 16) : 0 ≤ hc d ∧ hc d < 256 := by unfold hc; split <;> omega
def Row8 (w : World) (g n : Nat) (f : Nat → Int) : Prop := ∀ j, j < n → w.cell? ⟨g, j, none⟩ = some (.int .u8 (f j)) ∧ w.frozen? ⟨g, j, none⟩ = false
theorem Row8.congr {w : World} {g n : Nat} {f f' : Nat → Int} (h : Row8 w g n f) (e : ∀ j, j < n → f j = f' j) : Row8 w g n f' := fun j hj => by rw [← e j hj]; exact h j hj
theorem Row8.set {w : World} {g n : Nat} {f : Nat → Int} (h : Row8 w g n f) {k : Nat} (v : Int) : Row8 (w.setCell ⟨g, k, none⟩ (.int .u8 v)) g n (upd f k v) := by
 intro j hj
 obtain ⟨h1, h2⟩ := h j hj
 refine ⟨?_, by rw [World.frozen?_setCell]; exact h2⟩
 unfold upd
 by_cases e : j = k
 ·subst e; rw [if_pos rfl]; exact World.cell?_setCell_same _ _ _ h1
 ·rw [if_neg e, World.cell?_setCell_other _ _ _ _ (by intro h; injection h with h1 h2; exact e h2.symm)]; exact h1
theorem Row8.made (w : World) (m t : Nat) : Row8 (w.alloc (.cells (madeCells #[.int .u8 0] m) t)) w.heap.size m (fun _ => 0) := by
 intro j hj
 refine ⟨?_, World.frozen?_alloc_at _ _ _ _ rfl⟩
 rw [World.cell?_alloc_at _ _ _ _ rfl]
 simp [madeCells, hj, Nat.mod_one]
theorem tab16_fin : ∀ D : Fin 16, ((ByteArray.mk #[48, 49, 50, 51, 52, 53, 54, 55, 56, 57, 97, 98, 99, 100, 101, 102])[D.val]'(D.isLt)).toNat = (hc D.val).toNat := by decide +kernel
theorem tab16 (D : Nat) (h : D < (ByteArray.mk #[48, 49, 50, 51, 52, 53, 54, 55, 56, 57, 97, 98, 99, 100, 101, 102]).size) : (((ByteArray.mk #[48, 49, 50, 51, 52, 53, 54, 55, 56, 57, 97, 98, 99, 100, 101, 102])[D]).toNat : Int) = hc D := by
 have h2 := tab16_fin ⟨D, h⟩
 have h3 := hc_bd D h
 show ((_ : Nat) : Int) = _
 rw [h2]
 exact Int.toNat_of_nonneg h3.1
/-- How many digits a number has, and its digits. -/
def ndig (a : Nat) : Nat := max 1 ((bl a + 3) / 4)
def txl (a : Nat) : List Int := (List.range (ndig a)).map fun p => hc (hx a (ndig a - 1 - p))
def txt (a : Nat) : ByteArray := strOfNums (txl a)
def tx (a m k p : Nat) : Int := if m ≤ p + k then hc (hx a (m - 1 - p)) else 0
theorem tx_step (a m k p : Nat) (hk : k < m) (hp : p < m) : upd (tx a m k) (m - 1 - k) (hc (hx a k)) p = tx a m (k + 1) p := by
 unfold upd tx
 by_cases h : p = m - 1 - k
 ·rw [if_pos h, if_pos (by omega), show m - 1 - p = k by omega]
 ·rw [if_neg h]
  by_cases h2 : m ≤ p + k
  ·rw [if_pos h2, if_pos (by omega)]
  ·rw [if_neg h2, if_neg (by omega)]
set_option maxHeartbeats 1000000 in
theorem text_any (a : Nat) (ha : a < big) (w : World) :
  Calls Tryz.prog 23 #[N a] w (Rt w (.string (txt a))) := by
 have hl : bl a ≤ 384 := by
  obtain ⟨n, hn, e⟩ := big_pow
  rw [e] at ha
  have := bl_le_of a _ ha
  omega
 obtain ⟨m, hm⟩ : ∃ m : Nat, m = ndig a := ⟨_, rfl⟩
 have HT : Hid (m = ndig a) := hm
 unfold ndig at hm
 have hm1 : 1 ≤ m := by omega
 have hm2 : m ≤ 96 := by omega
 have hmx : max 1 (((bl a : Int) + 3) / 4) = (m : Int) := by omega
 have hmk := run_make_row' (P := Tryz.prog) 55 5 (.int .u8 0) 1 (by kernel_rfl) (by kernel_rfl) rfl .i64 .i64 m (by omega) (by omega)
 have hc := fun w => len_any a ha w
 have HC : Hid _ := hc
 clear hc ha hm
 go_enter Tryz.func23, Tryz.ntmps23
 go_wp2_with fail
 refine (HC.out _).mono ?_
 rintro e w1 ⟨rfl, hb1⟩
 have q1 : Row w1 w.heap.size 6 (wd a) := Row.below hb1 (Row.new w _ 24 rfl (six_lt rfl)) (by simp)
 have q2 : Below w.heap.size w w1 := ((Below.refl _ _).alloc (Nat.le_refl _) _).trans (hb1.mono (by simp))
 have q3 : w.heap.size < w1.heap.size := by have := hb1.size; simp at this; omega
 have HF : Hid (_ ∧ _ ∧ _) := ⟨q1, q2, q3⟩
 clear q1 q2 q3 hb1 HC
 go_wp2
 clear hmk hmx
 go_loopw [13] (fun i wr => ∃ k : Nat, k ≤ m ∧ i = .int .i64 k ∧ Row wr w.heap.size 6 (wd a) ∧ Row8 wr w1.heap.size m (tx a m k) ∧ Below w.heap.size w wr) (fun i _ => m - (RowKit.intOf i).toNat)
 case atStart =>
  obtain ⟨q1, q2, q3⟩ := HF.out
  refine ⟨0, by omega, rfl, q1.alloc q3 _, (Row8.made w1 m 5).congr (fun p hp => ?_), q2.alloc (by omega) _⟩
  unfold tx; rw [if_neg (by omega)]
 case round =>
  obtain ⟨k, hk, rfl, hA, hS, hw⟩ := hrel
  have q3 := HF.out.2.2
  by_cases hlt : k < m
  ·have hA1 := (hA (k / 16) (by omega)).1
   obtain ⟨k1, k2⟩ := hS (m - 1 - k) (by omega)
   have ed := hx_word a k
   have hd := hx_lt a k
   generalize hD : hx a k = D at ed hd
   have HM : Hid (_ ∧ _ ∧ _ ∧ _ ∧ _) := ⟨hA, hS, hw, q3, hD⟩
   clear hA hS hw q3 hD
   go_wp2
   go_roundw
   case rel =>
    obtain ⟨hA, hS, hw, q3, hD⟩ := HM.out
    refine ⟨k + 1, by omega, by go_num, hA.set_other _ (by simp <;> omega), (hS.set _).congr (fun p hp => ?_), hw.setCell (by simp <;> omega) _⟩
    rw [tab16 D, ← hD]
    exact tx_step a m k p hlt hp
   case measure => simp [RowKit.intOf] <;> omega
  ·have hkm : k = m := by omega
   subst hkm
   have hcv := run_convert_bytes_arg (P := Tryz.prog) wr 55 5 (by kernel_rfl) (by kernel_rfl) w1.heap.size 0 k k (txl a) (by rw [HT.out]; simp [txl]) (fun i hi => by
    rw [Nat.zero_add, (hS i hi).1]
    congr 2
    unfold tx
    rw [if_pos (by omega)]
    have h5 : i < ndig a := by rw [← HT.out]; exact hi
    simp only [txl, List.getD_eq_getElem?_getD, List.getElem?_map, List.getElem?_range h5]
    rw [← HT.out]; rfl) 9 (by kernel_rfl)
   have HW : Hid _ := hw
   clear hA hS hw q3 HF
   go_wp2
   go_ret
   exact ⟨rfl, HW.out⟩
end Go.Proofs.YtmanelnacifgcaaGreatDoor
end
section
namespace Go.Proofs.YtmanelnacifgcaaGreatDoor
open Go.RowKit
namespace Rg
theorem gx_big : gx < big := Nat.lt_trans gx_lt pB_lt
theorem gy_big : gy < big := Nat.lt_trans gy_lt pB_lt
theorem sm_big (k : Nat) (h : k < 18446744073709551616) : k < big := small_big k h
theorem ck_odd : (rd1 0 2 false).isSome = true := by kernel_rfl
theorem ck_bad1 : (rd1 1 0 true).isSome = false := by kernel_rfl
theorem ck_bad2 : (rd1 1 1 false).isSome = false := by kernel_rfl
theorem ck_zero : (rd1 0 0 true).isSome = true := by kernel_rfl
theorem in_odd {I : Fp → Fp} (hI : zX I) : inB1 hI 0 2 false = false := by kernel_rfl
theorem in_gen {I : Fp → Fp} (hI : zX I) : inB1 hI gx gy false = true := by
 have h : rd1 gx gy false = some Q1 := rd1_of hI (on_Q1 hI)
 unfold inB1
 rw [h]
 exact in1_Q1 hI
theorem txt_gx : txt gx = bs_gx := by decide +kernel
theorem rB1_big : rB + 1 < big := by
 have h := rB_lt
 have h2 : 2 * rB < big := by
  have h4 : 4 * rB < big := by decide +kernel
  omega
 have h3 : 1 < rB := by decide +kernel
 omega
theorem known_any (w : World) (hm : Mm w [(2, dtab)]) : Calls Tryz.prog 4 #[] w (Rt w (.bool true)) := by
 obtain ⟨I, hI⟩ := inv1_ex
 have i1 := fun w hm => In1E hI gx gy false gx_big gy_big w hm
 rw [in_gen hI] at i1
 have i2 := fun w hm => In1E hI 0 2 false big_pos (sm_big 2 (by decide)) w hm
 rw [in_odd hI] at i2
 have k1 := fun w hm => CheckE_1 hI 0 0 true big_pos big_pos w hm
 rw [ck_zero] at k1
 have k2 := fun w hm => CheckE_1 hI 0 2 false big_pos (sm_big 2 (by decide)) w hm
 rw [ck_odd] at k2
 have k3 := fun w hm => CheckE_1 hI 1 0 true (sm_big 1 (by decide)) big_pos w hm
 rw [ck_bad1] at k3
 have k4 := fun w hm => CheckE_1 hI 1 1 false (sm_big 1 (by decide)) (sm_big 1 (by decide)) w hm
 rw [ck_bad2] at k4
 have ng := fun w hm => NegE_1 hI (on_Q1 hI) w hm
 have ad := fun w hm => AddE_1 hI (on_Q1 hI) ((K1 hI).neg_on (on_Q1 hI)) w hm
 rw [(K1 hI).add_neg] at ad
 have m0 := fun w hm => MulE_1 hI (on_Q1 hI) big_pos w hm
 have m1 := fun w hm => MulE_1 hI (on_Q1 hI) rB_lt w hm
 rw [times_r1 hI] at m1
 have m2 := fun w hm => MulE_2 hI (on_Q2 hI) rB1_big w hm
 have e2 : (K2 hI).times Q2 (rB + 1) = Q2 := by
  show (K2 hI).add ((K2 hI).times Q2 rB) Q2 = Q2
  rw [times_r2 hI, (K2 hI).zero_add (on_Q2 hI)]
 rw [e2] at m2
 have wa := fun w => add_any rB 1 rB_lt (sm_big 1 (by decide)) w
 rw [Nat.mod_eq_of_lt rB1_big] at wa
 have c5 := fun g tn w hm => checkE_1 hI (g := g) (tn := tn) gx gy false gx_big gy_big w hm
 rw [show (rd1 gx gy false).isSome = true by rw [show rd1 gx gy false = some Q1 from rd1_of hI (on_Q1 hI)]; rfl] at c5
 have c6 := fun g tn w hm => checkE_1 hI (g := g) (tn := tn) 1 1 false (sm_big 1 (by decide)) (sm_big 1 (by decide)) w hm
 rw [ck_bad2] at c6
 have a5 := fun w hm => Add_1 1 4 gx gy 1 1 0 0 false false false 5 firstE (fun g tn w hm => joinM_1 (u := (K1 hI).R.one) (b := (K1 hI).b) (fd1 hI g) gx gy 1 1 false false (fun w hm => c5 g tn w hm) (fun w hm => c6 g tn w hm) w hm) w hm
 have tx := fun w => text_any gx gx_big w
 rw [txt_gx] at tx
 have su := fun gl w hm => SumNo_1 1 4 gx gy gl false firstE (fun g tn gp w hm => sumNo_1 (u := (K1 hI).R.one) (b := (K1 hI).b) (tn := tn) (fd1 hI g) gx gy gp false w hm) w hm
 have r1 := refl_P1 0 0 true big_pos big_pos
 have r2 := refl_P2 hx0 hx1 hy0 hy1 false (c2x0_big Q2) (c2x1_big Q2) (c2y0_big Q2) (c2y1_big Q2)
 exact known_gen 1 2 rB (rB + 1) gx gy hx0 hx1 hy0 hy1 (c1x ((K1 hI).neg Q1)) (c1y ((K1 hI).neg Q1)) _ awakeE (fun w => of_any 2 (by decide) w) (fun w => of_any 1 (by decide) w) GenE_1 GenE_2 i1 k1 k2 i2 k3 k4 ng ad m0 base_rB m1 wa m2 a5 tx su r1 r2 w hm
end Rg
end Go.Proofs.YtmanelnacifgcaaGreatDoor
end
section
namespace Go.Proofs.YtmanelnacifgcaaGreatDoor
open Go.ChangeShapes Go.WideShapes Go.ChangeAt Go.RowKit
set_option maxRecDepth 100000
theorem Tryz.own : ownKnob Tryz.prog.godebug = none := by kernel_rfl
end Go.Proofs.YtmanelnacifgcaaGreatDoor
end
section
namespace Go.Proofs.YtmanelnacifgcaaGreatDoor
open Go.ChangeShapes Go.WideShapes Go.ChangeAt Go.RowKit
namespace Rg
set_option maxRecDepth 100000
abbrev laidL : List (String × DataW Unit) := Rows.curveOrdersRow.laid
abbrev tabName : String := match laidL with
 | (n, _) :: _ => n
 | [] => Tryz.f3.name
theorem gTab : Tryz.prog.globalNamed tabName = some 2 := by kernel_rfl
theorem tTab : (Tryz.prog.globals[2]?).map (·.type) = some 192 := by kernel_rfl
theorem datTab : (Rows.laid_math_bits_deBruijn64tab : DataW Unit) = .agg (Lib.deBruijn64tab.map fun k => .lit (.int .u8 ((k : Nat) : Int))) := by kernel_rfl
theorem tab_of_laid {W : World} (h : laidMetH Tryz.prog laidL W) : Mm W [(2, dtab)] := by
 rw [MakeChecks.laidMetH_plain _ _ _ (by kernel_rfl)] at h
 obtain ⟨ps, ⟨g, t, cs, fuel, p, q, hg, ht, hv, hd, hq, hps⟩, hnd, hc⟩ := h
 obtain rfl := Option.some.inj (gTab.symm.trans hg)
 obtain rfl := Option.some.inj (tTab.symm.trans ht)
 obtain ⟨xs, m, -, hx, hlen, hn, hel⟩ := DataW.trod_array Tryz.underlying192 hd
 rw [datTab] at hx
 simp only [Prod.mk.injEq, DataW.agg.injEq] at hx
 have hc5 : Tryz.prog.cellsOf 5 = 1 := by kernel_rfl
 have hc81 : Tryz.prog.cellsOf 192 = 64 := by kernel_rfl
 rw [hc81] at hlen
 have hsz : cs.size = 64 := by simpa using hlen
 have hpl : ∀ i, i < 64 → MemPlace.cell 2 i ∈ ps := fun i hi => by
  rw [hps]
  refine List.mem_append_left _ (List.mem_append_left _ ?_)
  unfold MemPlace.row
  simp [hsz]
  omega
 obtain ⟨⟨c0, t0, hheap⟩, _⟩ := hc 2 0 (hpl 0 (by decide))
 have h0 : 2 < W.heap.size := by
  rcases Nat.lt_or_ge 2 W.heap.size with h' | h'
  ·exact h'
  ·rw [Array.getElem?_eq_none (by omega)] at hheap; cases hheap
 refine ⟨fun pq hpq => ?_, List.pairwise_singleton _ _⟩
 rw [List.mem_singleton.1 hpq]
 refine ⟨h0, fun j v hj => ?_⟩
 have hj64 : j < 64 := by
  have := (List.getElem?_eq_some_iff.1 hj).1
  exact this
 refine ⟨?_, ?_⟩
 ·rw [World.var?_cell hg hv j]
  have h1 := hel j hj64
  rw [hc5, Nat.mul_one] at h1
  have hlt : j < xs.length := by omega
  rw [List.getElem?_eq_getElem hlt] at h1
  obtain ⟨n, e1, e2, _⟩ := DataW.trod_int Tryz.underlying5 h1
  have e3 : cs[j]? = some (.int .u8 n) := by
   have e4 : ((cs.toList.drop j).take 1)[0]? = some (.int .u8 n) := by rw [e1]; rfl
   rw [List.getElem?_take, if_pos (by decide), List.getElem?_drop] at e4
   simpa using e4
  have e5 : (xs.map (·.1))[j]? = (Lib.deBruijn64tab.map fun k => DataW.lit (.int .u8 ((k : Nat) : Int)))[j]? := by rw [hx.1]
  rw [List.getElem?_map, List.getElem?_eq_getElem hlt, e2, List.getElem?_map] at e5
  unfold dtab at hj
  rw [List.getElem?_map] at hj
  cases hk : Lib.deBruijn64tab[j]? with
  | none => rw [hk] at hj; cases hj
  | some k =>
   rw [hk] at hj e5
   simp only [Option.map_some, Option.some.injEq, DataW.lit.injEq] at hj e5
   rw [e3, ← hj]
   simp only [Option.some.injEq]
   injection e5 with _ e6
   rw [e6]
 ·unfold World.frozen?
  rw [hheap]
  simp
theorem door_met (os : Os) (args : Array Value) : laidMetH Tryz.prog laidL ((World.doorLaid Tryz.prog 400 os).forCall (fun _ _ => 0) ⟨#[], args, []⟩).memory :=
 laidMetH_of_parts3 (fuel := 8) (laidMet_of_run' 8 (by kernel_rfl) (by kernel_rfl)) (by kernel_rfl) (by kernel_rfl)
end Rg
end Go.Proofs.YtmanelnacifgcaaGreatDoor
end
