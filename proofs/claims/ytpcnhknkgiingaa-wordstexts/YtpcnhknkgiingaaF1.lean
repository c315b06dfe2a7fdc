/- The document's own Parse. -/
import Derived.Test.YtpcnhknkgiingaaF0
import Derived.Test.YtpcnhknkgiingaaD6
import Derived.Test.YtpcnhknkgiingaaA35
namespace Go.Proofs.Ytpcnhknkgiingaa
open Go.RowKit

/-- A digit laid below a number. -/
theorem nib (X d Y : Nat) (hX : X = Y) (hd : d < 16) (j : Nat) (h16 : Y % 16 = 0 := by omega) : upd (wd X) 0 (bits .or .u64 (wd X 0) (d : Int)) j = wd (X + d) j := by
  subst hX
  have hx : X = (X / 16) * 2 ^ 4 := by omega
  have hor : X + d = d <<< 0 ||| X := by
    rw [Nat.shiftLeft_zero]
    have h := Nat.shiftLeft_add_eq_or_of_lt (b := d) (i := 4) (by omega) (X / 16)
    rw [Nat.shiftLeft_eq, ← hx] at h
    rw [h, Nat.or_comm]
  rw [hor]
  have h1 := or_word' X d 0
  rw [show IntKind.u64.wrap ((d : Int) * 2 ^ (0 % 64)) = (d : Int) by rw [IntKind.wrap_u64]; simp; omega] at h1
  unfold upd
  by_cases h : j = 0
  · subst h; rw [if_pos rfl]; exact h1
  · rw [if_neg h]
    exact (or_other' X d 0 4 j (by omega) (by decide) (by simpa using h)).symm
theorem ch_fwd (s : ByteArray) (k : Nat) (hlt : k < s.size) : ch s (s.size - 1 - k) = ((s[k]'hlt).toNat : Int) := by
  rw [ch_eq s (s.size - 1 - k) (by omega)]
  simp only [show s.size - 1 - (s.size - 1 - k) = k by omega]
theorem okk_of (s : ByteArray) : ∀ n, (∀ j, j < n → dgk (ch s j) = true) → okk s n = true
  | 0, _ => rfl
  | n + 1, h => by
    unfold okk
    rw [okk_of s n (fun j hj => h j (by omega)), h n (by omega)]
    rfl
theorem fwd_step (R n k : Nat) (hk : k < n) : R / 2 ^ (4 * (n - (k + 1))) = 16 * (R / 2 ^ (4 * (n - k))) + hx R (n - 1 - k) := by
  unfold hx
  rw [show n - (k + 1) = n - 1 - k by omega, show 4 * (n - k) = 4 * (n - 1 - k) + 4 by omega, Nat.pow_add, ← Nat.div_div_eq_div_mul, show (2 : Nat) ^ 4 = 16 from rfl]
  omega
set_option maxHeartbeats 2000000 in
set_option maxRecDepth 100000 in
theorem parse_ref_loop (s : ByteArray) (h1 : 1 ≤ s.size) (h2 : s.size ≤ 96) (h3 : (((s[0]'h1).toNat : Int) == 48) = false ∨ s.size = 1) (w : World) :
    Calls Try.prog 32 #[.string s] w fun e w' => e = .returned (prv s) ∧ Below w.heap.size w w' := by
  have hg : decide ((96 : Int) < (s.size : Int)) = false := decide_eq_false (by omega)
  have hne : ((s.size : Int) == 0) = false := beq_eq_false_iff_ne.2 (by omega)
  have hq : ((((s[0]'h1).toNat : Int) == 48) && decide ((1 : Int) < (s.size : Int))) = false := by
    rcases h3 with h3 | h3
    · rw [h3]; rfl
    · rw [decide_eq_false (show ¬ (1 : Int) < (s.size : Int) by omega), Bool.and_false]
  have hz : ((((s[0]'h1).toNat : Int) == 48) = true ∧ decide ((1 : Int) < (s.size : Int)) = false) ∨ (((s[0]'h1).toNat : Int) == 48) = false := by
    cases hc : (((s[0]'h1).toNat : Int) == 48) with
    | true => rw [hc, Bool.true_and] at hq; exact Or.inl ⟨rfl, hq⟩
    | false => exact Or.inr rfl
  have HR : Hid (pvv s s.size < big) := pvv_big s h2
  have HRl : Hid (pvv s s.size < 2 ^ (4 * s.size)) := pvv_lt s s.size
  have HDg : Hid _ := fun k hk => pvv_dig s s.size k hk
  clear h3 hq
  have H2 : Hid (s.size ≤ 96) := h2
  rcases hz with ⟨hz, hz1⟩ | hz
  all_goals
    go_enter Try.func32, Try.ntmps32
    go_wp2
    try clear hz1
    clear hz hg hne
    go_loopw [5] (fun i wr => ∃ k : Nat, k ≤ s.size ∧ i = .int .i64 k ∧ (∀ j, j < k → ∀ hj : j < s.size, dgk ((s[j]'hj).toNat : Int) = true) ∧ Row wr w.heap.size 6 (fun _ => 0) ∧ Row wr (w.heap.size + 1) 6 (wd (pvv s s.size / 2 ^ (4 * (s.size - k)))) ∧ Below w.heap.size w wr ∧ w.heap.size + 1 < wr.heap.size) (fun i _ => s.size - (intOf i).toNat)
    case atStart =>
      refine ⟨0, by omega, rfl, fun j hj => by omega, ?_, ?_, ?_, by simp⟩
      · exact (Row.new w _ 24 rfl (six_lt (f := fun _ => 0) rfl)).alloc (by simp) _
      · refine (Row.new _ _ 24 (by simp) (six_lt (f := fun _ => 0) rfl)).congr (fun j _ => ?_)
        rw [Nat.sub_zero, Nat.div_eq_of_lt HRl.out, wd_zero]
      · exact ((Below.refl _ _).alloc (Nat.le_refl _) _).alloc (by simp) _
    case round =>
      obtain ⟨k, hk, rfl, hok, hZ, hS, hw, hg⟩ := hrel
      by_cases hlt : k < s.size
      · have hch := ch_fwd s k hlt
        have hst := fwd_step (pvv s s.size) s.size k hlt
        rw [HDg.out _ (by omega), hch] at hst
        have hC0 : (0 : Int) ≤ ((s[k]'hlt).toNat : Int) := by omega
        have hC1 : ((s[k]'hlt).toNat : Int) ≤ 255 := by have := (s[k]'hlt).toNat_lt; omega
        obtain ⟨D, hD⟩ : ∃ D : Nat, (D : Int) = dgv ((s[k]'hlt).toNat : Int) := ⟨(dgv ((s[k]'hlt).toNat : Int)).toNat, by have := dgv_bd ((s[k]'hlt).toNat : Int); omega⟩
        have hDb : D < 16 := by have := dgv_bd ((s[k]'hlt).toNat : Int); omega
        rw [← hD, Int.toNat_natCast] at hst
        have hVb : 16 * (pvv s s.size / 2 ^ (4 * (s.size - k))) < big := by
          have e1 : pvv s s.size / 2 ^ (4 * (s.size - (k + 1))) ≤ pvv s s.size := Nat.div_le_self _ _
          have e2 := HR.out
          omega
        generalize pvv s s.size / 2 ^ (4 * (s.size - k)) = V at hS hst hVb
        obtain ⟨X, hX⟩ : ∃ X : Nat, X = 16 * V := ⟨_, rfl⟩
        have cs := fun w => shift_ref V 4 (by omega) w
        rw [show shv V 4 = X by unfold shv; rw [if_neg (by omega), if_neg (by omega), show ((4 : Int)).toNat = 4 from rfl, show (2 : Nat) ^ 4 = 16 from rfl, Nat.mod_eq_of_lt (by omega)]; omega] at cs
        have CS : Hid _ := cs
        have HST : Hid (pvv s s.size / 2 ^ (4 * (s.size - (k + 1))) = X + D) := by show _ = _; rw [hst, hX]
        have HX : Hid (X = 16 * V) := hX
        have HB : Hid (D < 16) := hDb
        have HOK : Hid _ := hok
        obtain ⟨a0, a1, a2, a3, a4, a5⟩ := hS.reads
        have HM : Hid (_ ∧ _ ∧ _ ∧ _) := ⟨hZ, hS, hw, hg⟩
        clear hZ hS hw hg hok cs hst hX hDb hVb
        cases hkk : dgk ((s[k]'hlt).toNat : Int) with
        | true =>
          have HK : Hid _ := hkk
          clear hkk hch
          by_cases cA : 48 ≤ ((s[k]'hlt).toNat : Int) ∧ ((s[k]'hlt).toNat : Int) ≤ 57
          · obtain ⟨x1, x2⟩ := cA
            have d1 : decide (48 ≤ ((s[k]'hlt).toNat : Int)) = true := decide_eq_true x1
            have d2 : decide (((s[k]'hlt).toNat : Int) ≤ 57) = true := decide_eq_true x2
            have hDe : ((s[k]'hlt).toNat : Int) - 48 = (D : Int) := by rw [hD]; unfold dgv; rw [if_pos ⟨x1, x2⟩]
            go_wp2_with fail
            refine (CS.out _).mono ?_
            rintro e w1 ⟨rfl, hb1⟩
            obtain ⟨hZ, hS, hw, hg⟩ := HM.out
            have hZ1 := Row.below hb1 hZ (by omega)
            have hS1 := Row.below hb1 hS hg
            have hw1 := hw.trans (hb1.mono hw.size)
            have hg1 := Nat.lt_of_lt_of_le hg hb1.size
            clear hZ hS hw hg HM hb1 a0 a1 a2 a3 a4 a5
            obtain ⟨a0, a1, a2, a3, a4, a5⟩ := hS1.reads
            obtain ⟨f0, f1, f2, f3, f4, f5⟩ := hS1.writes
            have HM : Hid (_ ∧ _ ∧ _ ∧ _) := ⟨hZ1, hS1, hw1, hg1⟩
            clear hZ1 hS1 hw1 hg1
            go_wp2
            go_roundw
            case rel =>
              obtain ⟨hZ, hS, hw, hg⟩ := HM.out
              refine ⟨k + 1, by omega, by go_num, ?_, ?_, ?_, ?_, ?_⟩
              · intro j hj hjn
                by_cases e : j = k
                · subst e; exact HK.out
                · exact HOK.out j (by omega) hjn
              · exact ((hZ.past6v X (by omega)).set_other _ (by simp <;> omega))
              · rw [HST.out]
                refine ((hS.six X).set _).congr (fun j _ => ?_)
                have := nib X D (16 * V) HX.out HB.out j
                rw [← this]
                first | rfl | (rw [hD]; done) | (rw [hDe]; done)
              · exact (below6 hw (by omega) _ _ _ _ _ _).setCell (by simp <;> omega) _
              · simpa using hg
            case measure => simp [intOf] <;> omega
          · have x3 : 97 ≤ ((s[k]'hlt).toNat : Int) ∧ ((s[k]'hlt).toNat : Int) ≤ 102 := by
              have := HK.out
              unfold dgk at this
              simp only [Bool.or_eq_true, decide_eq_true_eq] at this
              omega
            obtain ⟨x1, x2⟩ := x3
            have d1 : decide (48 ≤ ((s[k]'hlt).toNat : Int)) = true := decide_eq_true (by omega)
            have d2 : decide (((s[k]'hlt).toNat : Int) ≤ 57) = false := decide_eq_false (by omega)
            have d3 : decide (97 ≤ ((s[k]'hlt).toNat : Int)) = true := decide_eq_true x1
            have d4 : decide (((s[k]'hlt).toNat : Int) ≤ 102) = true := decide_eq_true x2
            clear cA
            have hDe : ((s[k]'hlt).toNat : Int) - 97 + 10 = (D : Int) := by rw [hD]; unfold dgv; rw [if_neg (by omega), if_pos ⟨x1, x2⟩]; omega
            go_wp2_with fail
            refine (CS.out _).mono ?_
            rintro e w1 ⟨rfl, hb1⟩
            obtain ⟨hZ, hS, hw, hg⟩ := HM.out
            have hZ1 := Row.below hb1 hZ (by omega)
            have hS1 := Row.below hb1 hS hg
            have hw1 := hw.trans (hb1.mono hw.size)
            have hg1 := Nat.lt_of_lt_of_le hg hb1.size
            clear hZ hS hw hg HM hb1 a0 a1 a2 a3 a4 a5
            obtain ⟨a0, a1, a2, a3, a4, a5⟩ := hS1.reads
            obtain ⟨f0, f1, f2, f3, f4, f5⟩ := hS1.writes
            have HM : Hid (_ ∧ _ ∧ _ ∧ _) := ⟨hZ1, hS1, hw1, hg1⟩
            clear hZ1 hS1 hw1 hg1
            go_wp2
            go_roundw
            case rel =>
              obtain ⟨hZ, hS, hw, hg⟩ := HM.out
              refine ⟨k + 1, by omega, by go_num, ?_, ?_, ?_, ?_, ?_⟩
              · intro j hj hjn
                by_cases e : j = k
                · subst e; exact HK.out
                · exact HOK.out j (by omega) hjn
              · exact ((hZ.past6v X (by omega)).set_other _ (by simp <;> omega))
              · rw [HST.out]
                refine ((hS.six X).set _).congr (fun j _ => ?_)
                have := nib X D (16 * V) HX.out HB.out j
                rw [← this]
                first | rfl | (rw [hD]; done) | (rw [hDe]; done)
              · exact (below6 hw (by omega) _ _ _ _ _ _).setCell (by simp <;> omega) _
              · simpa using hg
            case measure => simp [intOf] <;> omega
        | false =>
          have hfin : Hid (prv s = .tuple #[N 0, .int .i64 4]) := by
            show prv s = _
            unfold prv
            rw [if_neg]
            intro hh
            have h5 := okk_dig s s.size (s.size - 1 - k) hh (by omega)
            rw [hch, hkk] at h5
            exact absurd h5 (by decide)
          have hno : ¬ (48 ≤ ((s[k]'hlt).toNat : Int) ∧ ((s[k]'hlt).toNat : Int) ≤ 57) ∧ ¬ (97 ≤ ((s[k]'hlt).toNat : Int) ∧ ((s[k]'hlt).toNat : Int) ≤ 102) := by
            unfold dgk at hkk
            simp only [Bool.or_eq_false_iff, decide_eq_false_iff_not] at hkk
            exact hkk
          clear hkk hch
          by_cases x1 : 48 ≤ ((s[k]'hlt).toNat : Int)
          · have d1 : decide (48 ≤ ((s[k]'hlt).toNat : Int)) = true := decide_eq_true x1
            have d2 : decide (((s[k]'hlt).toNat : Int) ≤ 57) = false := decide_eq_false (by omega)
            by_cases x2 : 97 ≤ ((s[k]'hlt).toNat : Int)
            · have d3 : decide (97 ≤ ((s[k]'hlt).toNat : Int)) = true := decide_eq_true x2
              have d4 : decide (((s[k]'hlt).toNat : Int) ≤ 102) = false := decide_eq_false (by omega)
              clear hno
              obtain ⟨z0, z1, z2, z3, z4, z5⟩ := (HM.out.1).writes
              obtain ⟨y0, y1, y2, y3, y4, y5⟩ := (HM.out.1).reads
              clear a0 a1 a2 a3 a4 a5
              go_wp2
              refine bodyPost_ret (v := .tuple #[N 0, .int .i64 4]) ?_ rfl ⟨by rw [hfin.out], ?_⟩
              · simp [results, Try.results32, go_sem, wd_zero, *]
              · exact below6 HM.out.2.2.1 (by omega) _ _ _ _ _ _
            · have d3 : decide (97 ≤ ((s[k]'hlt).toNat : Int)) = false := decide_eq_false x2
              clear hno
              obtain ⟨z0, z1, z2, z3, z4, z5⟩ := (HM.out.1).writes
              obtain ⟨y0, y1, y2, y3, y4, y5⟩ := (HM.out.1).reads
              clear a0 a1 a2 a3 a4 a5
              go_wp2
              refine bodyPost_ret (v := .tuple #[N 0, .int .i64 4]) ?_ rfl ⟨by rw [hfin.out], ?_⟩
              · simp [results, Try.results32, go_sem, wd_zero, *]
              · exact below6 HM.out.2.2.1 (by omega) _ _ _ _ _ _
          · have d1 : decide (48 ≤ ((s[k]'hlt).toNat : Int)) = false := decide_eq_false x1
            have d3 : decide (97 ≤ ((s[k]'hlt).toNat : Int)) = false := decide_eq_false (by omega)
            clear hno
            obtain ⟨z0, z1, z2, z3, z4, z5⟩ := (HM.out.1).writes
            obtain ⟨y0, y1, y2, y3, y4, y5⟩ := (HM.out.1).reads
            clear a0 a1 a2 a3 a4 a5
            go_wp2
            refine bodyPost_ret (v := .tuple #[N 0, .int .i64 4]) ?_ rfl ⟨by rw [hfin.out], ?_⟩
            · simp [results, Try.results32, go_sem, wd_zero, *]
            · exact below6 HM.out.2.2.1 (by omega) _ _ _ _ _ _
      · have hks : k = s.size := by omega
        subst hks
        have hfin : Hid (prv s = .tuple #[N (pvv s s.size), .int .i64 0]) := by
          show prv s = _
          unfold prv
          rw [if_pos]
          refine okk_of s s.size (fun j hj => ?_)
          have h5 := hok (s.size - 1 - j) (by omega) (by omega)
          rw [← ch_fwd s (s.size - 1 - j) (by omega), show s.size - 1 - (s.size - 1 - j) = j by omega] at h5
          exact h5
        rw [Nat.sub_self, Nat.mul_zero, Nat.pow_zero, Nat.div_one] at hS
        obtain ⟨s0, s1, s2, s3, s4, s5⟩ := hS.reads
        obtain ⟨z0, z1, z2, z3, z4, z5⟩ := hZ.writes
        obtain ⟨y0, y1, y2, y3, y4, y5⟩ := hZ.reads
        have HW : Hid _ := hw
        clear hZ hS hw hok HDg HR HRl
        generalize pvv s s.size = R at s0 s1 s2 s3 s4 s5 hfin
        go_wp2
        refine bodyPost_ret (v := .tuple #[N R, .int .i64 0]) ?_ rfl ⟨by rw [hfin.out], ?_⟩
        · simp [results, Try.results32, go_sem, *]
        · exact below6 HW.out (by omega) _ _ _ _ _ _
set_option maxHeartbeats 1000000 in
set_option maxRecDepth 100000 in
theorem parse_ref_long (s : ByteArray) (h : 96 < s.size) (w : World) :
    Calls Try.prog 32 #[.string s] w fun e w' => e = .returned (.tuple #[N 0, .int .i64 3]) ∧ Below w.heap.size w w' := by
  have hg : decide ((96 : Int) < (s.size : Int)) = true := decide_eq_true (by omega)
  go_enter Try.func32, Try.ntmps32
  go_wp2
  refine bodyPost_ret (v := .tuple #[N 0, .int .i64 3]) ?_ rfl ⟨rfl, ((Below.refl _ _).alloc (Nat.le_refl _) _).alloc (by simp) _⟩
  simp [results, Try.results32, go_sem, wd_zero]
set_option maxHeartbeats 1000000 in
set_option maxRecDepth 100000 in
theorem parse_ref_none (s : ByteArray) (h : s.size = 0) (w : World) :
    Calls Try.prog 32 #[.string s] w fun e w' => e = .returned (.tuple #[N 0, .int .i64 4]) ∧ Below w.heap.size w w' := by
  have hg : decide ((96 : Int) < (s.size : Int)) = false := decide_eq_false (by omega)
  have hne : ((s.size : Int) == 0) = true := beq_iff_eq.2 (by omega)
  clear h
  go_enter Try.func32, Try.ntmps32
  go_wp2
  refine bodyPost_ret (v := .tuple #[N 0, .int .i64 4]) ?_ rfl ⟨rfl, ((Below.refl _ _).alloc (Nat.le_refl _) _).alloc (by simp) _⟩
  simp [results, Try.results32, go_sem, wd_zero]
set_option maxHeartbeats 1000000 in
set_option maxRecDepth 100000 in
theorem parse_ref_lead (s : ByteArray) (h1 : 1 < s.size) (h2 : s.size ≤ 96) (hz : (((s[0]'(by omega)).toNat : Int) == 48) = true) (w : World) :
    Calls Try.prog 32 #[.string s] w fun e w' => e = .returned (.tuple #[N 0, .int .i64 4]) ∧ Below w.heap.size w w' := by
  have hg : decide ((96 : Int) < (s.size : Int)) = false := decide_eq_false (by omega)
  have hl : decide ((1 : Int) < (s.size : Int)) = true := decide_eq_true (by omega)
  have hne : ((s.size : Int) == 0) = false := beq_eq_false_iff_ne.2 (by omega)
  have h0 : 0 < s.size := by omega
  go_enter Try.func32, Try.ntmps32
  go_wp2
  refine bodyPost_ret (v := .tuple #[N 0, .int .i64 4]) ?_ rfl ⟨rfl, ((Below.refl _ _).alloc (Nat.le_refl _) _).alloc (by simp) _⟩
  simp [results, Try.results32, go_sem, wd_zero]
theorem parse_ref (s : ByteArray) (w : World) :
    Calls Try.prog 32 #[.string s] w fun e w' => e = .returned (.tuple #[N (psn s).1, .int .i64 (psn s).2]) ∧ Below w.heap.size w w' := by
  unfold psn
  by_cases a : 96 < s.size
  · rw [if_pos a]; exact parse_ref_long s a w
  · rw [if_neg a]
    by_cases b : 1 ≤ s.size
    · rw [dif_pos b]
      by_cases c : (((s[0]'b).toNat : Int) == 48) = true ∧ 1 < s.size
      · rw [if_pos c]; exact parse_ref_lead s c.2 (by omega) c.1 w
      · rw [if_neg c]
        have h := parse_ref_loop s b (by omega) (by
          cases hc : (((s[0]'b).toNat : Int) == 48) with
          | true => exact Or.inr (by have : ¬ 1 < s.size := fun h => c ⟨hc, h⟩; omega)
          | false => exact Or.inl rfl) w
        unfold prv at h
        by_cases d : okk s s.size = true
        · rw [if_pos d]; rw [if_pos d] at h; exact h
        · rw [if_neg d]; rw [if_neg d] at h; exact h
    · rw [dif_neg b]; exact parse_ref_none s (by omega) w
end Go.Proofs.Ytpcnhknkgiingaa
