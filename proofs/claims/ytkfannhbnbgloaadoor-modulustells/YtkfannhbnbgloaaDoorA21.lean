/- words.Divide -/
import Derived.Test.YtkfannhbnbgloaaDoorA20
import Derived.Deep.RegionHeld3
import Derived.Deep.DeepCutAuto
namespace Go.Proofs.YtkfannhbnbgloaaDoor
open Go.RowKit

set_option maxHeartbeats 400000 in
set_option maxRecDepth 100000 in
theorem divide_zero (a : Nat) (w : World) :
    Calls Tryd.prog 32 #[N a, N 0] w fun e w' => e = .returned (.tuple #[N 0, N 0, .int .i64 2]) ∧ Below w.heap.size w w' := by
  have he := fun w => run_eqZ 0 big_pos w
  simp only [decide_true] at he
  go_enter Tryd.func32, Tryd.ntmps32
  go_wp2
  refine bodyPost_ret (v := .tuple #[N 0, N 0, .int .i64 2]) ?_ rfl ⟨rfl, ?_⟩
  · simp [results, Tryd.results32, go_sem, wd_zero]
  · exact ((((Below.refl _ _).alloc (Nat.le_refl _) _).alloc (by first | omega | (simp <;> omega)) _).alloc (by first | omega | (simp <;> omega)) _).alloc (by first | omega | (simp <;> omega)) _

/-- What stands in memory while Divide runs: a, b, two results. -/
structure DM (w wr : World) (a b : Nat) : Prop where
  ra : Row wr w.heap.size 6 (wd a)
  rb : Row wr (w.heap.size + 1) 6 (wd b)
  r2 : Row wr (w.heap.size + 1 + 1) 6 (fun _ => 0)
  r3 : Row wr (w.heap.size + 1 + 1 + 1) 6 (fun _ => 0)
  bl : Below w.heap.size w wr
  sz : w.heap.size + 1 + 1 + 1 < wr.heap.size
theorem DM.start (w : World) (a b : Nat) : DM w ((((w.alloc (O6 a)).alloc (O6 b)).alloc Z6).alloc Z6) a b :=
  ⟨(((Row.new w _ 24 rfl (six_lt rfl)).alloc (by first | omega | (simp <;> omega)) _).alloc (by first | omega | (simp <;> omega)) _).alloc (by first | omega | (simp <;> omega)) _,
   ((Row.new _ _ 24 (by first | omega | (simp <;> omega)) (six_lt rfl)).alloc (by first | omega | (simp <;> omega)) _).alloc (by first | omega | (simp <;> omega)) _,
   (Row.new _ _ 24 (by first | omega | (simp <;> omega)) (six_lt (f := fun _ => 0) rfl)).alloc (by first | omega | (simp <;> omega)) _,
   Row.new _ _ 24 (by first | omega | (simp <;> omega)) (six_lt (f := fun _ => 0) rfl),
   ((((Below.refl _ _).alloc (Nat.le_refl _) _).alloc (by first | omega | (simp <;> omega)) _).alloc (by first | omega | (simp <;> omega)) _).alloc (by first | omega | (simp <;> omega)) _,
   by simp⟩
theorem DM.below {w wr w1 : World} {a b : Nat} (h : DM w wr a b) (hb : Below wr.heap.size wr w1) : DM w w1 a b :=
  have := h.sz
  ⟨Row.below hb h.ra (by omega), Row.below hb h.rb (by omega), Row.below hb h.r2 (by omega), Row.below hb h.r3 (by omega), h.bl.trans (hb.mono (by omega)), Nat.lt_of_lt_of_le h.sz hb.size⟩
theorem DM.alloc {w wr : World} {a b : Nat} (h : DM w wr a b) (o : Obj) : DM w (wr.alloc o) a b :=
  have := h.sz
  ⟨h.ra.alloc (by omega) o, h.rb.alloc (by omega) o, h.r2.alloc (by omega) o, h.r3.alloc (by omega) o, h.bl.alloc (by omega) o, by simp; omega⟩
theorem DM.drew {w wr : World} {a b : Nat} (h : DM w wr a b) : DM w wr.drew a b := ⟨h.ra.drew, h.rb.drew, h.r2.drew, h.r3.drew, h.bl.drew, h.sz⟩
theorem DM.set {w wr : World} {a b : Nat} (h : DM w wr a b) {p : Addr} (hp : w.heap.size + 1 + 1 + 1 < p.block) (v : Value) : DM w (wr.setCell p v) a b :=
  ⟨h.ra.set_other _ (by omega), h.rb.set_other _ (by omega), h.r2.set_other _ (by omega), h.r3.set_other _ (by omega), h.bl.setCell (by omega) _, by simpa [World.setCell] using h.sz⟩
theorem DM.past7 {w wr : World} {a b : Nat} (h : DM w wr a b) {g : Nat} (hp : w.heap.size + 1 + 1 + 1 < g) (v0 v1 v2 v3 v4 v5 v6 : Value) : DM w (((((((wr.setCell ⟨g, 0, none⟩ v0).setCell ⟨g, 1, none⟩ v1).setCell ⟨g, 2, none⟩ v2).setCell ⟨g, 3, none⟩ v3).setCell ⟨g, 4, none⟩ v4).setCell ⟨g, 5, none⟩ v5).setCell ⟨g, 6, none⟩ v6) a b :=
  ((((((h.set (p := ⟨g, 0, none⟩) hp _).set (p := ⟨g, 1, none⟩) hp _).set (p := ⟨g, 2, none⟩) hp _).set (p := ⟨g, 3, none⟩) hp _).set (p := ⟨g, 4, none⟩) hp _).set (p := ⟨g, 5, none⟩) hp _).set (p := ⟨g, 6, none⟩) hp _

set_option maxHeartbeats 4000000 in
set_option maxRecDepth 100000 in
theorem divide_some (a b : Nat) (ha : a < big) (hb : b < big) (h0 : b ≠ 0) (w : World) :
    Calls Tryd.prog 32 #[N a, N b] w fun e w' => e = .returned (.tuple #[N (a / b), N (a % b), .int .i64 0]) ∧ Below w.heap.size w w' := by
  obtain ⟨s, sh, hs, hsh, hbl, hbl2, hd0, hd1, hd2⟩ := div_parts b hb h0
  have he := fun w => run_eqZ b hb w
  simp only [decide_eq_false h0] at he
  have cl := fun w => len_any b hb w
  have c1 := fun w => shift_up b sh (by omega) w
  have c2 := fun w => shiftLong_any a sh ha hsh w
  have hdb : b * 2 ^ sh < big := Nat.lt_of_lt_of_le hd1 (by
    obtain ⟨n, hn, e⟩ := big_pow
    rw [e]; exact pow_mono _ _ (by omega))
  rw [Nat.mod_eq_of_lt hdb] at c1
  obtain ⟨d, hd⟩ : ∃ d, d = b * 2 ^ sh := ⟨_, rfl⟩
  obtain ⟨A, hA⟩ : ∃ A, A = a * 2 ^ sh := ⟨_, rfl⟩
  obtain ⟨Q, hQ⟩ : ∃ Q, Q = a / b := ⟨_, rfl⟩
  have hQA : Q = A / d := by rw [hQ, hA, hd, Nat.mul_div_mul_right _ _ (Nat.two_pow_pos sh)]
  have hR : A % d / 2 ^ sh = a % b := by rw [hA, hd, mod_back]
  have hst := start_rest a d s sh ha hs hsh (by rw [hd]; exact hd2)
  rw [← hd] at c1 hd0 hd1 hdb
  rw [← hA] at c2 hst
  rw [← hQ]
  have HCL : Hid _ := cl
  have HC1 : Hid _ := c1
  have HC2 : Hid _ := c2
  have HM : Hid (Q = A / d ∧ A % d / 2 ^ sh = a % b ∧ A < d * 2 ^ (64 * (6 - s)) ∧ 0 < d ∧ d < 2 ^ (64 * (s + 1)) ∧ d < big) := ⟨hQA, hR, hst, hd0, hd1, hdb⟩
  have HL : Hid (bl b + sh = 64 * (s + 1)) := hbl
  have hl1 : (bl b : Int) ≤ 384 := by omega
  have hl2 : ((bl b : Int) + 64 - 1) / 64 = (s : Int) + 1 := by omega
  have hl3 : ((s : Int) + 1) * 64 - (bl b : Int) = (sh : Int) := by omega
  clear cl c1 c2 hdb hd hA hQ hQA hR hst hd0 hd1 hd2 ha hb h0 hbl hbl2
  go_enter Tryd.func32, Tryd.ntmps32
  go_wp2_with fail
  refine (HCL.out _).mono ?_
  rintro e w1 ⟨rfl, hb1⟩
  have d1 := (DM.start w a b).below hb1
  obtain ⟨b0, b1, b2, b3, b4, b5⟩ := d1.rb.reads
  have D1 : Hid _ := d1
  clear d1 hb1
  go_wp2_with fail
  refine (HCL.out _).mono ?_
  rintro e w2 ⟨rfl, hb2⟩
  have d2 := D1.out.below hb2
  clear b0 b1 b2 b3 b4 b5 hb2 D1
  obtain ⟨b0, b1, b2, b3, b4, b5⟩ := d2.rb.reads
  have D2 : Hid _ := d2
  clear d2
  go_wp2_with fail
  refine (HC1.out _).mono ?_
  rintro e w3 ⟨rfl, hb3⟩
  have d3 := D2.out.below hb3
  clear b0 b1 b2 b3 b4 b5 hb3 D2
  obtain ⟨a0, a1, a2, a3, a4, a5⟩ := d3.ra.reads
  have z3 : w.heap.size < w3.heap.size := by have := d3.sz; omega
  have D3 : Hid _ := d3
  clear d3
  go_wp2_with fail
  refine (HC2.out _).mono ?_
  rintro e w4 ⟨rfl, hb4⟩
  have d4 := (D3.out.alloc (O6 d)).below hb4
  have r4 : Row w4 w3.heap.size 6 (wd d) := Row.below hb4 (Row.new w3 _ 24 rfl (six_lt rfl)) (by simp)
  have z4 : w3.heap.size < w4.heap.size := by have := hb4.size; simp at this; omega
  have z5 : w.heap.size + 1 + 1 + 1 < w3.heap.size := D3.out.sz
  have D4 : Hid (_ ∧ _ ∧ _ ∧ _) := ⟨d4, r4, z4, z5⟩
  clear a0 a1 a2 a3 a4 a5 z3 hb4 D3 d4 r4 HCL HC1 HC2 z4 z5
  go_wp2
  go_loopw [12] (fun iv wr => ∃ k : Nat, k + s ≤ 6 ∧ iv = .int .i64 ((k : Int) - 1) ∧ DM w wr a b ∧ Row wr w3.heap.size 6 (wd d) ∧ Row wr w4.heap.size 7 (wd (A % (d * 2 ^ (64 * k)))) ∧ Row wr (w4.heap.size + 1) 6 (topPart Q k) ∧ w4.heap.size + 1 < wr.heap.size) (fun i _ => (intOf i + 1).toNat)
  case atStart =>
    obtain ⟨d4, r4, z4, z5⟩ := D4.out
    obtain ⟨m1, m2, m3, m4, m5, m6⟩ := HM.out
    refine ⟨6 - s, by omega, congrArg (Value.int .i64) (by omega), (d4.alloc _).alloc _, (r4.alloc z4 _).alloc (by simp; omega) _, ?_, ?_, by simp⟩
    · rw [Nat.mod_eq_of_lt m3]
      exact (Row.new w4 _ 65 rfl (seven_lt (f := wd A) rfl)).alloc (by simp) _
    · refine (Row.new _ _ 24 (by simp) (six_lt (f := fun _ => 0) rfl)).congr (fun j _ => ?_)
      unfold topPart
      split
      · exact (quo_high Q A d (6 - s) j m1 m4 m3 ‹_›).symm
      · rfl
  case round =>
    obtain ⟨k, hk, rfl, q1, q2, q3, q4, q5⟩ := hrel
    have z4 := D4.out.2.2.1
    have z5 := D4.out.2.2.2
    obtain ⟨b0, b1, b2, b3, b4, b5⟩ := q2.reads
    obtain ⟨a0, a1, a2, a3, a4, a5, a6⟩ := q3.reads7
    by_cases hk0 : 1 ≤ k
    · obtain ⟨i, rfl⟩ : ∃ i, k = i + 1 := ⟨k - 1, by omega⟩
      rw [show (((i + 1 : Nat) : Int) - 1) = (i : Int) by omega]
      have hc : Hid (∀ (wz : World), Calls Tryd.prog 57 #[L7 (A % (d * 2 ^ (64 * (i + 1)))), N d, .int .i64 i, .int .i64 ((s : Int) + 1)] wz fun e w' => e = .returned (.tuple #[.int .u64 (wn Q i : Nat), L7 (A % (d * 2 ^ (64 * i)))]) ∧ Below wz.heap.size wz w') := by
        intro wz
        obtain ⟨m1, m2, m3, m4, m5, m6⟩ := HM.out
        have := divideStep_any (A % (d * 2 ^ (64 * (i + 1)))) d i s m4 m5 (step_lt A d i m4) (by omega) wz
        rw [step_quo, step_rest, ← m1] at this
        exact this
      have HF : Hid (_ ∧ _ ∧ _ ∧ _ ∧ _ ∧ _ ∧ _) := ⟨q1, q2, q3, q4, q5, z4, z5⟩
      clear q1 q2 q3 q4 q5 z4 z5
      generalize hRe : A % (d * 2 ^ (64 * (i + 1))) = R at a0 a1 a2 a3 a4 a5 a6 hc
      generalize hRn : A % (d * 2 ^ (64 * i)) = R2 at hc
      have HRe : Hid _ := hRe
      have HRn : Hid _ := hRn
      clear hRe hRn
      go_wp2_with fail
      refine (hc.out _).mono ?_
      rintro e wt ⟨rfl, hbt⟩
      obtain ⟨q1, q2, q3, q4, q5, z4, z5⟩ := HF.out
      have r1 := q1.below hbt
      have r2 := Row.below hbt q2 (by omega)
      have r3 := Row.below hbt q3 (by omega)
      have r4 := Row.below hbt q4 q5
      have r5 : w4.heap.size + 1 < wt.heap.size := Nat.lt_of_lt_of_le q5 hbt.size
      clear hbt a0 a1 a2 a3 a4 a5 a6 b0 b1 b2 b3 b4 b5 q1 q2 q3 q4 q5 HF
      obtain ⟨a0, a1, a2, a3, a4, a5, a6⟩ := r3.reads7
      obtain ⟨w0, w1', w2', w3', w4', w5, w6⟩ := r3.writes7
      obtain ⟨k1, k2⟩ := r4 i (by omega)
      have HF : Hid (_ ∧ _ ∧ _ ∧ _ ∧ _ ∧ _ ∧ _) := ⟨r1, r2, r3, r4, r5, z4, z5⟩
      clear r1 r2 r3 r4 r5 z4 z5
      go_wp2
      go_roundw
      case rel =>
        obtain ⟨r1, r2, r3, r4, r5, z4, z5⟩ := HF.out
        refine ⟨i, by omega, by go_num, (r1.set (by simp <;> omega) _).past7 (by omega) _ _ _ _ _ _ _, (r2.set_other _ (by simp <;> omega)).past7 (by omega) _ _ _ _ _ _ _, ?_, (((r4.set _).congr (fun j _ => topPart_step (v := Q) (k := i) rfl j)).past7 (by omega) _ _ _ _ _ _ _), by rw [size7]; simpa [World.setCell] using r5⟩
        rw [HRn.out]
        exact (r3.set_other (a := ⟨w4.heap.size + 1, i, none⟩) _ (by simp)).store7 (wd R2)
      case measure => simp [intOf] <;> omega
    · have hk00 : k = 0 := by omega
      subst hk00
      rw [show (((0 : Nat) : Int) - 1) = -1 from rfl]
      obtain ⟨m1, m2, m3, m4, m5, m6⟩ := HM.out
      have hRlt : A % d < big := Nat.lt_trans (Nat.mod_lt A m4) m6
      have eR : A % (d * 2 ^ (64 * 0)) = A % d := by rw [Nat.mul_zero, Nat.pow_zero, Nat.mul_one]
      rw [eR] at a0 a1 a2 a3 a4 a5 a6
      have cl := fun w => lower_any (A % d) w
      rw [Nat.mod_eq_of_lt hRlt] at cl
      have cs := fun w => shift_any (A % d) (-(sh : Int)) hRlt w
      rw [shv_back _ _ hRlt hsh, m2] at cs
      have CL : Hid _ := cl
      have CS : Hid _ := cs
      obtain ⟨e0, e1, e2, e3, e4, e5⟩ := q4.reads
      have et : ∀ j, topPart Q 0 j = wd Q j := fun j => if_pos (Nat.zero_le _)
      rw [et] at e0 e1 e2 e3 e4 e5
      have p0_0 : w.heap.size + 1 + 1 < wr.heap.size := by have := q1.sz; omega
      have p0_1 : w.heap.size + 1 + 1 + 1 < wr.heap.size := q1.sz
      have p0_2 : w4.heap.size < wr.heap.size := by omega
      have p0_3 : w4.heap.size + 1 < wr.heap.size := q5
      obtain ⟨x0, x1, x2, x3, x4, x5⟩ := q1.r2.reads
      obtain ⟨t0, t1, t2, t3, t4, t5⟩ := q1.r2.writes
      obtain ⟨y0, y1, y2, y3, y4, y5⟩ := q1.r3.reads
      obtain ⟨u0, u1, u2, u3, u4, u5⟩ := q1.r3.writes
      have ew : IntKind.i64.wrap (-(sh : Int)) = -(sh : Int) := by rw [IntKind.wrap_i64]; omega
      have HW : Hid (Below w.heap.size w wr) := q1.bl
      have n1 : ¬ (w.heap.size + 1 = w4.heap.size) := by omega
      have n2 : ¬ (w.heap.size + 1 + 1 = w4.heap.size) := by omega
      have n3 : ¬ (w.heap.size + 1 + 1 + 1 = w4.heap.size) := by omega
      clear cl cs q1 q2 q3 q4 q5 z4 z5 m1 m2 m3 m4 m5 m6 hRlt eR et D4 HM HL b0 b1 b2 b3 b4 b5
      generalize A % d = R at a0 a1 a2 a3 a4 a5 a6 CL CS
      go_wp2
      go_region_held3 (fun w' => w'.cell? ⟨w4.heap.size, 0, none⟩ = some (.int .u64 (wd R 0)) ∧ w'.cell? ⟨w4.heap.size, 1, none⟩ = some (.int .u64 (wd R 1)) ∧ w'.cell? ⟨w4.heap.size, 2, none⟩ = some (.int .u64 (wd R 2)) ∧ w'.cell? ⟨w4.heap.size, 3, none⟩ = some (.int .u64 (wd R 3)) ∧ w'.cell? ⟨w4.heap.size, 4, none⟩ = some (.int .u64 (wd R 4)) ∧ w'.cell? ⟨w4.heap.size, 5, none⟩ = some (.int .u64 (wd R 5)) ∧ w'.cell? ⟨w4.heap.size, 6, none⟩ = some (.int .u64 (wd R 6)) ∧ w'.cell? ⟨w4.heap.size + 1, 0, none⟩ = some (.int .u64 (wd Q 0)) ∧ w'.cell? ⟨w4.heap.size + 1, 1, none⟩ = some (.int .u64 (wd Q 1)) ∧ w'.cell? ⟨w4.heap.size + 1, 2, none⟩ = some (.int .u64 (wd Q 2)) ∧ w'.cell? ⟨w4.heap.size + 1, 3, none⟩ = some (.int .u64 (wd Q 3)) ∧ w'.cell? ⟨w4.heap.size + 1, 4, none⟩ = some (.int .u64 (wd Q 4)) ∧ w'.cell? ⟨w4.heap.size + 1, 5, none⟩ = some (.int .u64 (wd Q 5))) (simp [go_sem, *])
        (first
          | (go_at_call 58; refine (CL.out _).mono ?_; rintro e v1 ⟨rfl, hb1⟩; obtain ⟨hc1, hf1⟩ := bcell hb1; have c1_0 := fun o => hc1 _ o p0_0; have f1_0 := fun o => hf1 _ o p0_0; have p1_0 := Nat.lt_of_lt_of_le p0_0 hb1.size; have c1_1 := fun o => hc1 _ o p0_1; have f1_1 := fun o => hf1 _ o p0_1; have p1_1 := Nat.lt_of_lt_of_le p0_1 hb1.size; have c1_2 := fun o => hc1 _ o p0_2; have f1_2 := fun o => hf1 _ o p0_2; have p1_2 := Nat.lt_of_lt_of_le p0_2 hb1.size; have c1_3 := fun o => hc1 _ o p0_3; have f1_3 := fun o => hf1 _ o p0_3; have p1_3 := Nat.lt_of_lt_of_le p0_3 hb1.size; clear hc1 hf1)
          | (go_at_call 53; refine (CS.out _).mono ?_; rintro e v2 ⟨rfl, hb2⟩; obtain ⟨hc2, hf2⟩ := bcell hb2; have c2_0 := fun o => hc2 _ o p1_0; have f2_0 := fun o => hf2 _ o p1_0; have p2_0 := Nat.lt_of_lt_of_le p1_0 hb2.size; have c2_1 := fun o => hc2 _ o p1_1; have f2_1 := fun o => hf2 _ o p1_1; have p2_1 := Nat.lt_of_lt_of_le p1_1 hb2.size; have c2_2 := fun o => hc2 _ o p1_2; have f2_2 := fun o => hf2 _ o p1_2; have p2_2 := Nat.lt_of_lt_of_le p1_2 hb2.size; have c2_3 := fun o => hc2 _ o p1_3; have f2_3 := fun o => hf2 _ o p1_3; have p2_3 := Nat.lt_of_lt_of_le p1_3 hb2.size; clear hc2 hf2))
      go_wp2
      have hw2 : Below w.heap.size w v2 := (HW.out.drew.trans (hb1.mono (show w.heap.size ≤ wr.heap.size by omega))).trans (hb2.mono (by omega))
      refine bodyPost_ret (v := .tuple #[N Q, N (a % b), .int .i64 0]) ?_ rfl ⟨rfl, ?_⟩
      · simp [results, Tryd.results32, go_sem, *]
      · exact below6 (below6 hw2 (by omega) _ _ _ _ _ _) (by omega) _ _ _ _ _ _

/-- What Divide tells. -/
theorem divide_any (a b : Nat) (ha : a < big) (hb : b < big) (w : World) :
    Calls Tryd.prog 32 #[N a, N b] w fun e w' => e = .returned (.tuple #[N (if b = 0 then 0 else a / b), N (if b = 0 then 0 else a % b), .int .i64 (if b = 0 then 2 else 0)]) ∧ Below w.heap.size w w' := by
  by_cases h : b = 0
  · rw [if_pos h, if_pos h, if_pos h, h]; exact divide_zero a w
  · rw [if_neg h, if_neg h, if_neg h]; exact divide_some a b ha hb h w
end Go.Proofs.YtkfannhbnbgloaaDoor
