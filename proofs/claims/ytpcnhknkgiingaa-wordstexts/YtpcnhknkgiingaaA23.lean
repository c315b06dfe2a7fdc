/- words.Parse -/
import Derived.Test.YtpcnhknkgiingaaA22
import Derived.BigRegion
namespace Go.Proofs.Ytpcnhknkgiingaa
open Go.RowKit

theorem pvv_big (s : ByteArray) (h : s.size ≤ 96) : pvv s s.size < big := by
  obtain ⟨n, hn, e⟩ := big_pow
  rw [e]
  exact Nat.lt_of_lt_of_le (pvv_lt s s.size) (pow_le' _ _ (by omega))

/-- What the loop of Parse tells, once it is come to. -/
def prv (s : ByteArray) : Value := if okk s s.size then .tuple #[N (pvv s s.size), .int .i64 0] else .tuple #[N 0, .int .i64 4]

set_option maxHeartbeats 1000000 in
set_option maxRecDepth 100000 in
theorem parse_loop (s : ByteArray) (h1 : 1 ≤ s.size) (h2 : s.size ≤ 96) (h3 : (((s[0]'h1).toNat : Int) == 48) = false ∨ s.size = 1) (w : World) :
    Calls Try.prog 31 #[.string s] w fun e w' => e = .returned (prv s) ∧ Below w.heap.size w w' := by
  have he : s.toList.isEmpty = false := by
    cases hl : s.toList with
    | nil =>
      rw [ByteArray.toList_eq] at hl
      have h0 : s.data.size = 0 := by rw [← Array.length_toList, hl]; rfl
      have : s.size = s.data.size := rfl
      omega
    | cons a l => rfl
  have hg : decide ((96 : Int) < (s.size : Int)) = false := decide_eq_false (by omega)
  have hq : ((((s[0]'h1).toNat : Int) == 48) && decide ((1 : Int) < (s.size : Int))) = false := by
    rcases h3 with h3 | h3
    · rw [h3]; rfl
    · rw [decide_eq_false (show ¬ (1 : Int) < (s.size : Int) by omega), Bool.and_false]
  have hz : ((((s[0]'h1).toNat : Int) == 48) = true ∧ decide ((1 : Int) < (s.size : Int)) = false) ∨ (((s[0]'h1).toNat : Int) == 48) = false := by
    cases hc : (((s[0]'h1).toNat : Int) == 48) with
    | true => rw [hc, Bool.true_and] at hq; exact Or.inl ⟨rfl, hq⟩
    | false => exact Or.inr rfl
  have H2 : Hid (s.size ≤ 96) := h2
  clear h3 hq
  rcases hz with ⟨hz, hz1⟩ | hz
  all_goals
    go_enter Try.func31, Try.ntmps31
    go_wp2
    try clear hz1
    clear hz hg he
    go_loopw [27] (fun i wr => ∃ k : Nat, k ≤ s.size ∧ i = .int .i64 k ∧ okk s k = true ∧ Row wr w.heap.size 6 (fun _ => 0) ∧ Row wr (w.heap.size + 1) 6 (wd (pvv s k)) ∧ Below w.heap.size w wr) (fun i _ => s.size - (intOf i).toNat)
    case atStart =>
      refine ⟨0, by omega, rfl, rfl, ?_, ?_, ?_⟩
      · exact (Row.new w _ 24 rfl (six_lt (f := fun _ => 0) rfl)).alloc (by first | omega | (simp <;> omega)) _
      · exact (Row.new _ _ 24 (by first | omega | (simp <;> omega)) (six_lt (f := fun _ => 0) rfl)).congr (fun j _ => (wd_zero j).symm)
      · exact ((Below.refl _ _).alloc (Nat.le_refl _) _).alloc (by first | omega | (simp <;> omega)) _
    case round =>
      obtain ⟨k, hk, rfl, hok, hZ, hS, hw⟩ := hrel
      by_cases hlt : k < s.size
      · have hch := ch_eq s k (by omega)
        have hdig := fun w => digit_any (ch s k) (by rw [hch]; omega) (by rw [hch]; have := (s[s.size - 1 - k]).toNat_lt; omega) w
        rw [hch] at hdig
        have HD : Hid _ := hdig
        have HCH : Hid _ := hch
        have hb := dgv_bd (((s[s.size - 1 - k]'(by omega)).toNat : Int))
        obtain ⟨hb0, hb1⟩ := hb
        clear hdig hch
        cases hkk : dgk (((s[s.size - 1 - k]'(by omega)).toNat : Int)) with
        | true =>
          obtain ⟨k1, k2⟩ := hS (k / 16) (by omega)
          have HM : Hid (_ ∧ _ ∧ _) := ⟨hZ, hS, hw⟩
          have HOK : Hid _ := hok
          clear hZ hS hw hok
          go_wp2_with (go_at_call 51; refine (HD.out _).mono ?_; rintro e w' ⟨rfl, rfl⟩)
          go_region
          go_wp2
          go_roundw
          case rel =>
            obtain ⟨hZ, hS, hw⟩ := HM.out
            refine ⟨k + 1, by omega, by go_num, ?_, (hZ.set_other _ (by simp <;> omega)).drew, ((hS.set _).congr (fun j _ => ?_)).drew, (hw.setCell (by simp <;> omega) _).drew⟩
            · show (okk s k && dgk (ch s k)) = true
              rw [HOK.out, HCH.out, hkk]; rfl
            · rw [← HCH.out]; exact digit_step s k j
          case measure => simp [intOf] <;> omega
        | false =>
          have hfin : Hid (prv s = .tuple #[N 0, .int .i64 4]) := by
            show prv s = _
            unfold prv
            rw [if_neg]
            intro hh
            have h5 := okk_mono s (s.size - (k + 1)) (k + 1) (by rw [show k + 1 + (s.size - (k + 1)) = s.size by omega]; exact hh)
            have h6 : (okk s k && dgk (ch s k)) = true := h5
            rw [HCH.out, hkk, Bool.and_false] at h6
            exact absurd h6 (by decide)
          obtain ⟨z0, z1, z2, z3, z4, z5⟩ := hZ.writes
          obtain ⟨y0, y1, y2, y3, y4, y5⟩ := hZ.reads
          have HW : Hid _ := hw
          clear hZ hS hw hok
          go_wp2_with (go_at_call 51; refine (HD.out _).mono ?_; rintro e w' ⟨rfl, rfl⟩)
          refine bodyPost_ret (v := .tuple #[N 0, .int .i64 4]) ?_ rfl ⟨by rw [hfin.out], ?_⟩
          · simp [results, Try.results31, go_sem, wd_zero, *]
          · exact below6 HW.out (by omega) _ _ _ _ _ _
      · have hks : k = s.size := by omega
        subst hks
        have hfin : Hid (prv s = .tuple #[N (pvv s s.size), .int .i64 0]) := by
          show prv s = _
          unfold prv
          rw [if_pos hok]
        obtain ⟨s0, s1, s2, s3, s4, s5⟩ := hS.reads
        obtain ⟨z0, z1, z2, z3, z4, z5⟩ := hZ.writes
        obtain ⟨y0, y1, y2, y3, y4, y5⟩ := hZ.reads
        have HW : Hid _ := hw
        clear hZ hS hw hok
        go_wp2
        refine bodyPost_ret (v := .tuple #[N (pvv s s.size), .int .i64 0]) ?_ rfl ⟨by rw [hfin.out], ?_⟩
        · simp [results, Try.results31, go_sem, *]
        · exact below6 HW.out (by omega) _ _ _ _ _ _
end Go.Proofs.Ytpcnhknkgiingaa
