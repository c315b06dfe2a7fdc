/- words.Bytes, words.Read -/
import Derived.Test.YtpcnhknkgiingaaA24
import Derived.Test.YtpcnhknkgiingaaA30
import Derived.BigRegion
namespace Go.Proofs.Ytpcnhknkgiingaa
open Go.RowKit

/-- The bytes that are laid after k rounds. -/
def bx (a k p : Nat) : Int := if 48 ≤ p + k then (bt a (47 - p) : Int) else 0
theorem bx_step (a k p : Nat) (hk : k < 48) (hp : p < 48) : upd (bx a k) (47 - k) (bt a k : Int) p = bx a (k + 1) p := by
  unfold upd bx
  by_cases h : p = 47 - k
  · rw [if_pos h, if_pos (by omega), show 47 - p = k by omega]
  · rw [if_neg h]
    by_cases h2 : 48 ≤ p + k
    · rw [if_pos h2, if_pos (by omega)]
    · rw [if_neg h2, if_neg (by omega)]

set_option maxHeartbeats 1000000 in
set_option maxRecDepth 100000 in
theorem bytes_any (a : Nat) (w : World) :
    Calls Try.prog 28 #[N a] w fun e w' => e = .returned (.slice (some ⟨w.heap.size + 1, 0, none⟩) 48 48) ∧ w.heap.size + 1 < w'.heap.size ∧ Row8 w' (w.heap.size + 1) 48 (fun p => (bt a (47 - p) : Int)) ∧ Below w.heap.size w w' := by
  have hmk := run_make_row' (P := Try.prog) 38 5 (.int .u8 0) 1 (by kernel_rfl) (by kernel_rfl) rfl .i64 .i64 48 (by omega) (by omega)
  simp only [show ((48 : Nat) : Int) = 48 from rfl] at hmk
  go_enter Try.func28, Try.ntmps28
  go_wp2
  clear hmk
  go_loopw [8] (fun i wr => ∃ k : Nat, k ≤ 48 ∧ i = .int .i64 k ∧ Row wr w.heap.size 6 (wd a) ∧ w.heap.size + 1 < wr.heap.size ∧ Row8 wr (w.heap.size + 1) 48 (bx a k) ∧ Below w.heap.size w wr) (fun i _ => 48 - (intOf i).toNat)
  case atStart =>
    refine ⟨0, by omega, rfl, ?_, ?_, ?_, ?_⟩
    · exact (Row.new w _ 24 rfl (six_lt rfl)).alloc (by first | omega | (simp <;> omega)) _
    · simp
    · have h := Row8.made (w.alloc (O6 a)) 48 5
      simp only [World.size_alloc] at h
      refine Row8.congr h (fun p hp => ?_)
      unfold bx; rw [if_neg (by omega)]
    · exact ((Below.refl _ _).alloc (Nat.le_refl _) _).alloc (by first | omega | (simp <;> omega)) _
  case round =>
    obtain ⟨k, hk, rfl, hA, hz, hS, hw⟩ := hrel
    by_cases hlt : k < 48
    · have hA1 := (hA (k / 8) (by omega)).1
      obtain ⟨k1, k2⟩ := hS (47 - k) (by omega)
      have ed := bt_word a k
      have HM : Hid (_ ∧ _ ∧ _ ∧ _) := ⟨hA, hS, hw, hz⟩
      clear hA hS hw hz
      go_wp2
      go_roundw
      case rel =>
        obtain ⟨hA, hS, hw, hz⟩ := HM.out
        refine ⟨k + 1, by omega, by go_num, hA.set_other _ (by simp <;> omega), by simpa using hz, (hS.set _).congr (fun p hp => ?_), hw.setCell (by simp <;> omega) _⟩
        exact bx_step a k p hlt hp
      case measure => simp [intOf] <;> omega
    · have hkm : k = 48 := by omega
      subst hkm
      have HM : Hid (_ ∧ _ ∧ _) := ⟨hS, hw, hz⟩
      clear hA hS hw hz
      go_wp2
      go_ret
      obtain ⟨hS, hw, hz⟩ := HM.out
      refine ⟨rfl, hz, hS.congr (fun p hp => ?_), hw⟩
      unfold bx; rw [if_pos (by omega)]

theorem Row8.below {wr w1 : World} {g n : Nat} {f : Nat → Int} (h : Row8 wr g n f) {B : Nat} (hb : Below B wr w1) (hg : g < B) : Row8 w1 g n f :=
  fun j hj => ⟨by rw [hb.cell (p := ⟨g, j, none⟩) hg]; exact (h j hj).1, by rw [hb.frozen (p := ⟨g, j, none⟩) hg]; exact (h j hj).2⟩
theorem Row8.alloc {wr : World} {g n : Nat} {f : Nat → Int} (h : Row8 wr g n f) (hg : g < wr.heap.size) (o : Obj) : Row8 (wr.alloc o) g n f :=
  h.below ((Below.refl _ _).alloc (Nat.le_refl _) o) hg
theorem Row8.set_other {wr : World} {g n : Nat} {f : Nat → Int} (h : Row8 wr g n f) {b o : Nat} (v : Value) (hb : b ≠ g) : Row8 (wr.setCell ⟨b, o, none⟩ v) g n f := by
  intro j hj
  obtain ⟨h1, h2⟩ := h j hj
  exact ⟨by rw [World.cell?_setCell_other _ _ _ _ (by intro h; injection h with h1 h2; exact hb h1)]; exact h1, by rw [World.frozen?_setCell]; exact h2⟩
theorem Row8.drew {wr : World} {g n : Nat} {f : Nat → Int} (h : Row8 wr g n f) : Row8 wr.drew g n f := h

set_option maxHeartbeats 1000000 in
set_option maxRecDepth 100000 in
theorem read_any (g n c : Nat) (f : Nat → Int) (hn : n ≤ 48) (hf : ∀ j, j < n → 0 ≤ f j ∧ f j < 256) (w : World) (hg : g < w.heap.size) (hr : Row8 w g n f) :
    Calls Try.prog 29 #[.slice (some ⟨g, 0, none⟩) n c] w fun e w' => e = .returned (.tuple #[N (rdv f n n), .int .i64 0]) ∧ Below w.heap.size w w' := by
  have d0 : decide ((48 : Int) < n) = false := decide_eq_false (by omega)
  have HR : Hid (Row8 w g n f) := hr
  have HF : Hid _ := hf
  clear hr hf
  go_enter Try.func29, Try.ntmps29
  go_wp2
  clear d0
  go_loopw [12] (fun i wr => ∃ k : Nat, k ≤ n ∧ i = .int .i64 k ∧ Row8 wr g n f ∧ Row wr w.heap.size 6 (fun _ => 0) ∧ Row wr (w.heap.size + 1) 6 (wd (rdv f n k)) ∧ Below w.heap.size w wr) (fun i _ => n - (intOf i).toNat)
  case atStart =>
    refine ⟨0, by omega, rfl, ?_, ?_, ?_, ?_⟩
    · exact (Row8.alloc HR.out hg _).alloc (by simp; omega) _
    · exact (Row.new w _ 24 rfl (six_lt (f := fun _ => 0) rfl)).alloc (by first | omega | (simp <;> omega)) _
    · exact (Row.new _ _ 24 (by first | omega | (simp <;> omega)) (six_lt (f := fun _ => 0) rfl)).congr (fun j _ => (wd_zero j).symm)
    · exact ((Below.refl _ _).alloc (Nat.le_refl _) _).alloc (by first | omega | (simp <;> omega)) _
  case round =>
    obtain ⟨k, hk, rfl, hB, hZ, hS, hw⟩ := hrel
    by_cases hlt : k < n
    · have hB1 := (hB (n - 1 - k) (by omega)).1
      obtain ⟨k1, k2⟩ := hS (k / 8) (by omega)
      have hf1 := HF.out (n - 1 - k) (by omega)
      obtain ⟨F, hF⟩ : ∃ F, F = f (n - 1 - k) := ⟨_, rfl⟩
      rw [← hF] at hB1 hf1
      obtain ⟨f0, f1⟩ := hf1
      have HM : Hid (_ ∧ _ ∧ _ ∧ _ ∧ _) := ⟨hB, hZ, hS, hw, hF⟩
      clear hB hZ hS hw hF
      go_wp2
      go_region
      go_wp2
      go_roundw
      case rel =>
        obtain ⟨hB, hZ, hS, hw, hF⟩ := HM.out
        refine ⟨k + 1, by omega, by go_num, (hB.set_other _ (by omega)).drew, (hZ.set_other _ (by simp <;> omega)).drew, ((hS.set _).congr (fun j _ => ?_)).drew, (hw.setCell (by simp <;> omega) _).drew⟩
        rw [hF]
        exact rdv_step f n k j HF.out hlt
      case measure => simp [intOf] <;> omega
    · have hks : k = n := by omega
      subst hks
      obtain ⟨s0, s1, s2, s3, s4, s5⟩ := hS.reads
      obtain ⟨z0, z1, z2, z3, z4, z5⟩ := hZ.writes
      obtain ⟨y0, y1, y2, y3, y4, y5⟩ := hZ.reads
      have HW : Hid _ := hw
      clear hZ hS hw hB
      go_wp2
      refine bodyPost_ret (v := .tuple #[N (rdv f k k), .int .i64 0]) ?_ rfl ⟨rfl, ?_⟩
      · simp [results, Try.results29, go_sem, *]
      · exact below6 HW.out (by omega) _ _ _ _ _ _

set_option maxHeartbeats 1000000 in
set_option maxRecDepth 100000 in
theorem read_long (v : Option Addr) (n c : Nat) (hn : 48 < n) (hn2 : n < 9223372036854775808) (w : World) :
    Calls Try.prog 29 #[.slice v n c] w fun e w' => e = .returned (.tuple #[N 0, .int .i64 3]) ∧ Below w.heap.size w w' := by
  have d0 : decide ((48 : Int) < n) = true := decide_eq_true (by omega)
  go_enter Try.func29, Try.ntmps29
  go_wp2
  refine bodyPost_ret (v := .tuple #[N 0, .int .i64 3]) ?_ rfl ⟨rfl, (Below.refl _ _).alloc (Nat.le_refl _) _⟩
  simp [results, Try.results29, go_sem, wd_zero]
end Go.Proofs.Ytpcnhknkgiingaa
