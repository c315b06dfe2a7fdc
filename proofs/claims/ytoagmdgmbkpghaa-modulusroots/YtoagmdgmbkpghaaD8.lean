/- The document's own halves of a number. -/
import Derived.Test.YtoagmdgmbkpghaaD7
namespace Go.Proofs.Ytoagmdgmbkpghaa
open Go.RowKit

abbrev H12 (v : Nat) : Value := .agg #[.int .u64 (hfd v 0), .int .u64 (hfd v 1), .int .u64 (hfd v 2), .int .u64 (hfd v 3), .int .u64 (hfd v 4), .int .u64 (hfd v 5), .int .u64 (hfd v 6), .int .u64 (hfd v 7), .int .u64 (hfd v 8), .int .u64 (hfd v 9), .int .u64 (hfd v 10), .int .u64 (hfd v 11)]
def parth (v k j : Nat) : Int := if j < 2 * k then hfd v j else 0
theorem parth_step (v k j : Nat) : upd (upd (parth v k) (2 * k) (hfd v (2 * k))) (2 * k + 1) (hfd v (2 * k + 1)) j = parth v (k + 1) j := by
  unfold upd parth
  by_cases h1 : j = 2 * k + 1
  · subst h1; rw [if_pos rfl, if_pos (by omega)]
  · rw [if_neg h1]
    by_cases h2 : j = 2 * k
    · subst h2; rw [if_pos rfl, if_pos (by omega)]
    · rw [if_neg h2]
      by_cases h3 : j < 2 * k
      · rw [if_pos h3, if_pos (by omega)]
      · rw [if_neg h3, if_neg (by omega)]
theorem twenty_four_zero {c : Array Value} (h : c = #[.int .u64 0, .int .u64 0, .int .u64 0, .int .u64 0, .int .u64 0, .int .u64 0, .int .u64 0, .int .u64 0, .int .u64 0, .int .u64 0, .int .u64 0, .int .u64 0, .int .u64 0, .int .u64 0, .int .u64 0, .int .u64 0, .int .u64 0, .int .u64 0, .int .u64 0, .int .u64 0, .int .u64 0, .int .u64 0, .int .u64 0, .int .u64 0]) : ∀ j, j < 24 → c[j]? = some (.int .u64 0) := by
  subst h
  intro j hj
  by_cases h : j < 12
  · match j, h with
    | 0, _ | 1, _ | 2, _ | 3, _ | 4, _ | 5, _ | 6, _ | 7, _ | 8, _ | 9, _ | 10, _ | 11, _ => rfl
  · obtain ⟨i, rfl⟩ : ∃ i, j = i + 12 := ⟨j - 12, by omega⟩
    have hi : i < 12 := by omega
    clear h hj
    match i, hi with
    | 0, _ | 1, _ | 2, _ | 3, _ | 4, _ | 5, _ | 6, _ | 7, _ | 8, _ | 9, _ | 10, _ | 11, _ => rfl
theorem Row.reads12 {w : World} {g : Nat} {f : Nat → Int} (h : Row w g 12 f) : w.cell? ⟨g, 0, none⟩ = some (.int .u64 (f 0)) ∧ w.cell? ⟨g, 1, none⟩ = some (.int .u64 (f 1)) ∧ w.cell? ⟨g, 2, none⟩ = some (.int .u64 (f 2)) ∧ w.cell? ⟨g, 3, none⟩ = some (.int .u64 (f 3)) ∧ w.cell? ⟨g, 4, none⟩ = some (.int .u64 (f 4)) ∧ w.cell? ⟨g, 5, none⟩ = some (.int .u64 (f 5)) ∧ w.cell? ⟨g, 6, none⟩ = some (.int .u64 (f 6)) ∧ w.cell? ⟨g, 7, none⟩ = some (.int .u64 (f 7)) ∧ w.cell? ⟨g, 8, none⟩ = some (.int .u64 (f 8)) ∧ w.cell? ⟨g, 9, none⟩ = some (.int .u64 (f 9)) ∧ w.cell? ⟨g, 10, none⟩ = some (.int .u64 (f 10)) ∧ w.cell? ⟨g, 11, none⟩ = some (.int .u64 (f 11)) :=
  ⟨(h 0 (by omega)).1, (h 1 (by omega)).1, (h 2 (by omega)).1, (h 3 (by omega)).1, (h 4 (by omega)).1, (h 5 (by omega)).1, (h 6 (by omega)).1, (h 7 (by omega)).1, (h 8 (by omega)).1, (h 9 (by omega)).1, (h 10 (by omega)).1, (h 11 (by omega)).1⟩
theorem Row.writes12 {w : World} {g : Nat} {f : Nat → Int} (h : Row w g 12 f) : w.frozen? ⟨g, 0, none⟩ = false ∧ w.frozen? ⟨g, 1, none⟩ = false ∧ w.frozen? ⟨g, 2, none⟩ = false ∧ w.frozen? ⟨g, 3, none⟩ = false ∧ w.frozen? ⟨g, 4, none⟩ = false ∧ w.frozen? ⟨g, 5, none⟩ = false ∧ w.frozen? ⟨g, 6, none⟩ = false ∧ w.frozen? ⟨g, 7, none⟩ = false ∧ w.frozen? ⟨g, 8, none⟩ = false ∧ w.frozen? ⟨g, 9, none⟩ = false ∧ w.frozen? ⟨g, 10, none⟩ = false ∧ w.frozen? ⟨g, 11, none⟩ = false :=
  ⟨(h 0 (by omega)).2, (h 1 (by omega)).2, (h 2 (by omega)).2, (h 3 (by omega)).2, (h 4 (by omega)).2, (h 5 (by omega)).2, (h 6 (by omega)).2, (h 7 (by omega)).2, (h 8 (by omega)).2, (h 9 (by omega)).2, (h 10 (by omega)).2, (h 11 (by omega)).2⟩
theorem below12 {B g : Nat} {w wr : World} (h : Below B w wr) (hg : B ≤ g) (v : Nat → Value) : Below B w ((((((((((((wr.setCell ⟨g, 0, none⟩ (v 0)).setCell ⟨g, 1, none⟩ (v 1)).setCell ⟨g, 2, none⟩ (v 2)).setCell ⟨g, 3, none⟩ (v 3)).setCell ⟨g, 4, none⟩ (v 4)).setCell ⟨g, 5, none⟩ (v 5)).setCell ⟨g, 6, none⟩ (v 6)).setCell ⟨g, 7, none⟩ (v 7)).setCell ⟨g, 8, none⟩ (v 8)).setCell ⟨g, 9, none⟩ (v 9)).setCell ⟨g, 10, none⟩ (v 10)).setCell ⟨g, 11, none⟩ (v 11)) :=
  ((((((((((((h.setCell (p := ⟨g, 0, none⟩) hg _).setCell (p := ⟨g, 1, none⟩) hg _).setCell (p := ⟨g, 2, none⟩) hg _).setCell (p := ⟨g, 3, none⟩) hg _).setCell (p := ⟨g, 4, none⟩) hg _).setCell (p := ⟨g, 5, none⟩) hg _).setCell (p := ⟨g, 6, none⟩) hg _).setCell (p := ⟨g, 7, none⟩) hg _).setCell (p := ⟨g, 8, none⟩) hg _).setCell (p := ⟨g, 9, none⟩) hg _).setCell (p := ⟨g, 10, none⟩) hg _).setCell (p := ⟨g, 11, none⟩) hg _)
set_option maxHeartbeats 2000000 in
set_option maxRecDepth 100000 in
theorem halves_any (a : Nat) (w : World) :
    Calls Try.prog 48 #[N a] w fun e w' => e = .returned (H12 a) ∧ Below w.heap.size w w' := by
  go_enter Try.func48, Try.ntmps48
  go_wp2
  go_loopw [4] (fun i wr => ∃ k : Nat, k ≤ 6 ∧ i = .int .i64 k ∧ Row wr w.heap.size 6 (wd a) ∧ Row wr (w.heap.size + 1) 12 (fun _ => 0) ∧ Row wr (w.heap.size + 1 + 1) 12 (parth a k) ∧ Below w.heap.size w wr) (fun i _ => 6 - (intOf i).toNat)
  case atStart =>
    refine ⟨0, by omega, rfl, ?_, ?_, ?_, ?_⟩
    · exact ((Row.new w _ 24 rfl (six_lt rfl)).alloc (by simp) _).alloc (by simp; omega) _
    · exact (Row.new _ _ 63 (by simp) (f := fun _ => 0) (twelve_zero rfl)).alloc (by simp) _
    · exact (Row.new _ _ 63 (by simp) (f := fun _ => 0) (twelve_zero rfl)).congr (fun j _ => by unfold parth; rw [if_neg (by omega)])
    · exact (((Below.refl _ _).alloc (Nat.le_refl _) _).alloc (by simp) _).alloc (by simp; omega) _
  case round =>
    obtain ⟨k, hk, rfl, hA, hZ, hS, hw⟩ := hrel
    by_cases hlt : k < 6
    · have hA1 := (hA k hlt).1
      obtain ⟨s1, s2⟩ := hS (2 * k) (by omega)
      obtain ⟨s3, s4⟩ := hS (2 * k + 1) (by omega)
      have hl := half_low a k
      have hh := half_high a k
      have e0 : IntKind.i64.wrap (2 * (k : Int)) = 2 * (k : Int) := by rw [IntKind.wrap_i64]; omega
      have e1 : IntKind.i64.wrap (2 * (k : Int) + 1) = 2 * (k : Int) + 1 := by rw [IntKind.wrap_i64]; omega
      have t0 : (2 * (k : Int)).toNat = 2 * k := by omega
      have t1 : (2 * (k : Int) + 1).toNat = 2 * k + 1 := by omega
      have b0 : (0 : Int) ≤ 2 * (k : Int) := by omega
      have b1 : 2 * (k : Int) < 12 := by omega
      have b2 : (0 : Int) ≤ 2 * (k : Int) + 1 := by omega
      have b3 : 2 * (k : Int) + 1 < 12 := by omega
      have HM : Hid (_ ∧ _ ∧ _ ∧ _) := ⟨hA, hZ, hS, hw⟩
      clear hA hZ hS hw
      go_wp2
      go_roundw
      case rel =>
        obtain ⟨hA, hZ, hS, hw⟩ := HM.out
        exact ⟨k + 1, by omega, by go_num, (hA.set_other _ (by simp <;> omega)).set_other _ (by simp <;> omega), (hZ.set_other _ (by simp <;> omega)).set_other _ (by simp <;> omega), ((hS.set _).set _).congr (fun j _ => parth_step a k j), (hw.setCell (by simp <;> omega) _).setCell (by simp <;> omega) _⟩
      case measure => simp [intOf] <;> omega
    · have hk6 : k = 6 := by omega
      subst hk6
      rw [show ((6 : Nat) : Int) = 6 from rfl]
      obtain ⟨s0, s1, s2, s3, s4, s5, s6, s7, s8, s9, s10, s11⟩ := (hS.congr (f' := hfd a) (fun j hj => by unfold parth; rw [if_pos (by omega)])).reads12
      obtain ⟨z0, z1, z2, z3, z4, z5, z6, z7, z8, z9, z10, z11⟩ := hZ.writes12
      obtain ⟨y0, y1, y2, y3, y4, y5, y6, y7, y8, y9, y10, y11⟩ := hZ.reads12
      have HW : Hid _ := hw
      clear hA hZ hS hw
      go_wp2
      refine bodyPost_ret (v := H12 a) ?_ rfl ⟨rfl, ?_⟩
      · simp [results, Try.results48, go_sem, *]
      · exact below12 HW.out (by omega) (fun j => .int .u64 (hfd a j))
end Go.Proofs.Ytoagmdgmbkpghaa
