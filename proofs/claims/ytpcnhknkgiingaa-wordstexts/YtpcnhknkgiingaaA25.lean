/- reliquarylaw01.awake -/
import Derived.Test.YtpcnhknkgiingaaA21
import Derived.Test.YtpcnhknkgiingaaA23
import Derived.Test.YtpcnhknkgiingaaA24
import Derived.Deep.RegionHeld3
namespace Go.Proofs.Ytpcnhknkgiingaa
open Go.RowKit

theorem of_int (x : Int) (h0 : 0 ≤ x) (h1 : x < 18446744073709551616) (w : World) :
    Calls Try.prog 25 #[.int .u64 x] w fun e w' => e = .returned (N x.toNat) ∧ Below w.heap.size w w' := by
  obtain ⟨n, rfl⟩ := Int.eq_ofNat_of_zero_le h0
  rw [Int.toNat_natCast]
  exact of_any n (by omega) w
theorem small_big (n : Nat) (h : n < 18446744073709551616) : n < big := Nat.lt_of_lt_of_le (show n < 2 ^ 64 from h) (by
  obtain ⟨m, hm, e⟩ := big_pow
  rw [e]; exact pow_le' _ _ (by omega))
theorem div72 (w : World) : Calls Try.prog 17 #[N 7, N 2] w fun e w' => e = .returned (.tuple #[N 3, N 1, .int .i64 0]) ∧ Below w.heap.size w w' :=
  divide_some 7 2 (small_big 7 (by decide)) (small_big 2 (by decide)) (by decide) w
theorem parse_ff (w : World) : Calls Try.prog 31 #[.string ⟨#[102, 102]⟩] w fun e w' => e = .returned (.tuple #[N 255, .int .i64 0]) ∧ Below w.heap.size w w' := by
  have h := parse_loop ⟨#[102, 102]⟩ (by decide) (by decide) (Or.inl (by decide)) w
  have e : prv ⟨#[102, 102]⟩ = .tuple #[N 255, .int .i64 0] := by
    unfold prv
    rw [if_pos (by decide +kernel)]
    have e2 : pvv ⟨#[102, 102]⟩ (ByteArray.mk #[102, 102]).size = 255 := by decide +kernel
    rw [e2]
  rw [e] at h
  exact h
theorem text_255 (w : World) : Calls Try.prog 37 #[N 255] w fun e w' => e = .returned (.string ⟨#[102, 102]⟩) ∧ Below w.heap.size w w' := by
  have h := text_any 255 (small_big 255 (by decide)) w
  have e : txt 255 = ⟨#[102, 102]⟩ := by decide +kernel
  rw [e] at h
  exact h
theorem eq_same (n : Nat) (hn : n < 18446744073709551616) (w : World) : (Op.equalIn 10000 24 (N n) (N n)).run Try.prog w = .ok true w := by
  rw [run_eqN n n (small_big n hn) (small_big n hn), decide_eq_true rfl]

set_option maxHeartbeats 4000000 in
set_option maxRecDepth 100000 in
theorem awake_any (w : World) : Calls Try.prog 39 #[] w fun e w' => e = .returned (.bool true) ∧ Below w.heap.size w w' := by
  have e3 := eq_same 3 (by decide)
  have e1 := eq_same 1 (by decide)
  have e255 := eq_same 255 (by decide)
  have OI : Hid _ := of_int
  go_enter Try.func39, Try.ntmps39
  go_wp2_with fail
  refine (OI.out _ (by decide) (by decide) _).mono ?_
  rintro e w1 ⟨rfl, hb1⟩
  go_wp2_with fail
  refine (OI.out _ (by decide) (by decide) _).mono ?_
  rintro e w2 ⟨rfl, hb2⟩
  have hw2 : Below w.heap.size w w2 := hb1.trans (hb2.mono hb1.size)
  clear hb1 hb2
  go_wp2_with fail
  refine (div72 _).mono ?_
  rintro e w3 ⟨rfl, hb3⟩
  have hw3 : Below w.heap.size w w3 := hw2.trans (hb3.mono hw2.size)
  clear hw2 hb3
  go_wp2_with fail
  refine (parse_ff _).mono ?_
  rintro e w4 ⟨rfl, hb4⟩
  have r1 : Row w4 w3.heap.size 6 (wd 3) := Row.below hb4 ((Row.new w3 _ 24 rfl (six_lt rfl)).alloc (by simp) _) (by simp <;> omega)
  have r2 : Row w4 (w3.heap.size + 1) 6 (wd 1) := Row.below hb4 (Row.new _ _ 24 (by simp) (six_lt rfl)) (by simp)
  have z4 : w3.heap.size + 1 < w4.heap.size := by have := hb4.size; simp at this; omega
  have hw4 : Below w.heap.size w w4 := ((hw3.alloc hw3.size _).alloc (by simp; have := hw3.size; omega) _).trans (hb4.mono (by simp; have := hw3.size; omega))
  have hz3 := hw3.size
  clear hb4 hw3
  go_wp2
  have f1 : Row (w4.alloc (O6 255)) w3.heap.size 6 (wd 3) := r1.alloc (by omega) _
  have f2 : Row (w4.alloc (O6 255)) (w3.heap.size + 1) 6 (wd 1) := r2.alloc (by omega) _
  have f4 : Row (w4.alloc (O6 255)) w4.heap.size 6 (wd 255) := Row.new w4 _ 24 rfl (six_lt rfl)
  have P1 : w3.heap.size < (w4.alloc (O6 255)).heap.size := by simp; omega
  have P2 : w3.heap.size + 1 < (w4.alloc (O6 255)).heap.size := by simp; omega
  have P4 : w4.heap.size < (w4.alloc (O6 255)).heap.size := by simp
  have HB : Below w.heap.size w (w4.alloc (O6 255)) := hw4.alloc hw4.size _
  have HN : w.heap.size < w4.heap.size := by omega
  have PN : w4.heap.size < (w4.alloc (O6 255)).heap.size := by simp
  clear r1 r2 z4 hw4 hz3
  generalize w4.alloc (O6 255) = wx at f1 f2 f4 P1 P2 P4 HB PN ⊢
  generalize w4.heap.size = g4 at f4 P4 HN PN ⊢
  generalize hg2 : w3.heap.size + 1 = g2 at f2 P2 ⊢
  generalize w3.heap.size = g1 at f1 P1 ⊢
  clear hg2
  obtain ⟨a0, a1, a2, a3, a4, a5⟩ := f1.reads
  obtain ⟨b0, b1, b2, b3, b4, b5⟩ := f2.reads
  obtain ⟨d0, d1, d2, d3, d4, d5⟩ := f4.reads
  clear f1 f2 f4
  have TX : Hid _ := text_255
  have HB : Below w.heap.size w wx.drew := HB.drew
  go_region_held3 (fun w' => w'.cell? ⟨g1, 0, none⟩ = some (.int .u64 (wd 3 0)) ∧ w'.cell? ⟨g1, 1, none⟩ = some (.int .u64 (wd 3 1)) ∧ w'.cell? ⟨g1, 2, none⟩ = some (.int .u64 (wd 3 2)) ∧ w'.cell? ⟨g1, 3, none⟩ = some (.int .u64 (wd 3 3)) ∧ w'.cell? ⟨g1, 4, none⟩ = some (.int .u64 (wd 3 4)) ∧ w'.cell? ⟨g1, 5, none⟩ = some (.int .u64 (wd 3 5)) ∧ w'.cell? ⟨g2, 0, none⟩ = some (.int .u64 (wd 1 0)) ∧ w'.cell? ⟨g2, 1, none⟩ = some (.int .u64 (wd 1 1)) ∧ w'.cell? ⟨g2, 2, none⟩ = some (.int .u64 (wd 1 2)) ∧ w'.cell? ⟨g2, 3, none⟩ = some (.int .u64 (wd 1 3)) ∧ w'.cell? ⟨g2, 4, none⟩ = some (.int .u64 (wd 1 4)) ∧ w'.cell? ⟨g2, 5, none⟩ = some (.int .u64 (wd 1 5)) ∧ w'.cell? ⟨g4, 0, none⟩ = some (.int .u64 (wd 255 0)) ∧ w'.cell? ⟨g4, 1, none⟩ = some (.int .u64 (wd 255 1)) ∧ w'.cell? ⟨g4, 2, none⟩ = some (.int .u64 (wd 255 2)) ∧ w'.cell? ⟨g4, 3, none⟩ = some (.int .u64 (wd 255 3)) ∧ w'.cell? ⟨g4, 4, none⟩ = some (.int .u64 (wd 255 4)) ∧ w'.cell? ⟨g4, 5, none⟩ = some (.int .u64 (wd 255 5))) (simp [go_sem, *])
    (first
      | (go_at_call 25; refine (OI.out _ ?_ ?_ _).mono ?_; decide; decide; rintro e v ⟨rfl, hb⟩; obtain ⟨hc, hf⟩ := bcell hb; have c1 := fun o => hc _ o P1; have c2 := fun o => hc _ o P2; have c4 := fun o => hc _ o P4; have P1 := Nat.lt_of_lt_of_le P1 hb.size; have P2 := Nat.lt_of_lt_of_le P2 hb.size; have P4 := Nat.lt_of_lt_of_le P4 hb.size; have HB := HB.trans (hb.mono (Nat.le_trans (Nat.le_of_lt HN) (Nat.le_of_lt PN))); have PN := Nat.lt_of_lt_of_le PN hb.size; clear hc hf hb)
      | (go_at_call 37; refine (TX.out _).mono ?_; rintro e v ⟨rfl, hb⟩; obtain ⟨hc, hf⟩ := bcell hb; have c1 := fun o => hc _ o P1; have c2 := fun o => hc _ o P2; have c4 := fun o => hc _ o P4; have P1 := Nat.lt_of_lt_of_le P1 hb.size; have P2 := Nat.lt_of_lt_of_le P2 hb.size; have P4 := Nat.lt_of_lt_of_le P4 hb.size; have HB := HB.trans (hb.mono (Nat.le_trans (Nat.le_of_lt HN) (Nat.le_of_lt PN))); have PN := Nat.lt_of_lt_of_le PN hb.size; clear hc hf hb))
  go_wp2
  go_ret
  exact ⟨rfl, HB⟩
end Go.Proofs.Ytpcnhknkgiingaa
