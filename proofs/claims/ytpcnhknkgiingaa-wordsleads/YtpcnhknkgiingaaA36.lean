/- The law WordsLeads, walked. -/
import Derived.Test.YtpcnhknkgiingaaA26
import Derived.Test.YtpcnhknkgiingaaA32
import Derived.Test.YtpcnhknkgiingaaA35
namespace Go.Proofs.Ytpcnhknkgiingaa
open Go.RowKit

theorem rd48 (a : Nat) (ha : a < big) : rdv (fun p => (bt a (47 - p) : Int)) 48 48 = a := by
  rw [rdv_bt a 48 (Nat.le_refl _)]
  obtain ⟨n, hn, e⟩ := big_pow
  rw [show 8 * 48 = 64 * n by omega]
  rw [e] at ha
  exact Nat.mod_eq_of_lt ha

set_option maxHeartbeats 4000000 in
set_option maxRecDepth 100000 in
theorem leads_any (a : Nat) (ha : a < big) (s : ByteArray) (w : World) :
    Calls Try.prog 8 #[N a, .string s] w fun e w' => e = .returned (.bool true) ∧ Below w.heap.size w w' := by
  have CB : Hid _ := fun w => bytes_any a w
  have CR : Hid (∀ (g : Nat) (w : World), g < w.heap.size → Row8 w g 48 (fun p => (bt a (47 - p) : Int)) → Calls Try.prog 29 #[.slice (some ⟨g, 0, none⟩) 48 48] w fun e w' => e = .returned (.tuple #[N a, .int .i64 0]) ∧ Below w.heap.size w w') := by
    intro g w hg hr
    have h := read_any g 48 48 _ (Nat.le_refl _) (fun j _ => ⟨by omega, by have := bt_lt a (47 - j); omega⟩) w hg hr
    rw [rd48 a ha] at h
    exact h
  have CT : Hid _ := fun w => text_any a ha w
  have cp := fun w => parse_any (txt a) w
  rw [psn_txt a ha] at cp
  have CP : Hid _ := cp
  clear cp
  have hx := psn_big s
  have h0 := txt_psn s
  have h1 := psn_bad s
  have cq := fun w => parse_any s w
  generalize (psn s).1 = x at hx h0 h1 cq
  generalize (psn s).2 = y at h0 h1 cq
  have CQ : Hid _ := cq
  have CX : Hid _ := fun w => text_any x hx w
  have eaa := fun w => run_eqN a a ha ha w
  simp only [decide_true] at eaa
  have exz := fun w => run_eqZ x hx w
  have H0 : Hid (y = 0 → txt x = s) := h0
  have H1' : Hid (y ≠ 0 → x = 0) := h1
  have AW : Hid _ := awake_any
  clear cq ha hx h0 h1
  go_enter Try.func8, Try.ntmps8
  go_wp2_with fail
  refine (AW.out _).mono ?_
  rintro e w1 ⟨rfl, hb1⟩
  have R1 := ((Rws.nil w).alloc a rfl).below hb1
  have B1 : Below w.heap.size w w1 := ((Below.refl _ _).alloc (Nat.le_refl _) _).trans (hb1.mono (by simp))
  obtain ⟨pa, a0, a1, a2, a3, a4, a5⟩ := R1.at (g := w.heap.size) (v := a) (by simp)
  have pa' := pa
  have H1 : Hid (_ ∧ _) := ⟨R1, B1⟩
  clear R1 B1 hb1
  go_wp2_with fail
  refine (CB.out _).mono ?_
  rintro e w2 ⟨rfl, hz2, hr2, hb2⟩
  have R2 := H1.out.1.below hb2
  have B2 : Below w.heap.size w w2 := H1.out.2.trans (hb2.mono H1.out.2.size)
  clear pa' pa a0 a1 a2 a3 a4 a5
  obtain ⟨pa, a0, a1, a2, a3, a4, a5⟩ := R2.at (g := w.heap.size) (v := a) (by simp)
  have pa' := pa
  have H2 : Hid (_ ∧ _) := ⟨R2, B2⟩
  have HR2 : Hid (_ ∧ _) := ⟨hz2, hr2⟩
  clear R2 B2 hb2 H1 hz2 hr2
  go_wp2_with fail
  refine (CR.out _ _ HR2.out.1 HR2.out.2).mono ?_
  rintro e w3 ⟨rfl, hb3⟩
  clear HR2
  have R3 := H2.out.1.below hb3
  have B3 : Below w.heap.size w w3 := H2.out.2.trans (hb3.mono H2.out.2.size)
  clear pa' pa a0 a1 a2 a3 a4 a5
  obtain ⟨pa, a0, a1, a2, a3, a4, a5⟩ := R3.at (g := w.heap.size) (v := a) (by simp)
  have pa' := pa
  have H3 : Hid (_ ∧ _) := ⟨R3, B3⟩
  clear R3 B3 hb3 H2
  go_wp2_with fail
  refine (CT.out _).mono ?_
  rintro e w4 ⟨rfl, hb4⟩
  have R4 := (H3.out.1.alloc a (g := w3.heap.size) (by first | rfl | simp)).below hb4
  have B4 : Below w.heap.size w w4 := (H3.out.2.alloc (by first | exact H3.out.2.size | (simp; have := H3.out.2.size; omega)) (O6 a)).trans (hb4.mono (by first | exact H3.out.2.size | (simp; have := H3.out.2.size; omega)))
  clear pa' pa a0 a1 a2 a3 a4 a5
  obtain ⟨pa, a0, a1, a2, a3, a4, a5⟩ := R4.at (g := w.heap.size) (v := a) (by simp)
  have pa' := pa
  have H4 : Hid (_ ∧ _) := ⟨R4, B4⟩
  clear R4 B4 hb4 H3
  go_wp2_with fail
  refine (CP.out _).mono ?_
  rintro e w5 ⟨rfl, hb5⟩
  have R5 := H4.out.1.below hb5
  have B5 : Below w.heap.size w w5 := H4.out.2.trans (hb5.mono (by first | exact H4.out.2.size | (simp; have := H4.out.2.size; omega)))
  clear pa' pa a0 a1 a2 a3 a4 a5
  obtain ⟨pa, a0, a1, a2, a3, a4, a5⟩ := R5.at (g := w.heap.size) (v := a) (by simp)
  have pa' := pa
  obtain ⟨pn, n0, n1, n2, n3, n4, n5⟩ := R5.at (g := w3.heap.size) (v := a) (by simp)
  have pn' := pn
  have H5 : Hid (_ ∧ _) := ⟨R5, B5⟩
  clear R5 B5 hb5 H4
  go_wp2_with fail
  refine (CB.out _).mono ?_
  rintro e w6 ⟨rfl, hz6, hr6, hb6⟩
  have R6 := (H5.out.1.alloc a (g := w5.heap.size) rfl).below hb6
  have B6 : Below w.heap.size w w6 := (H5.out.2.alloc H5.out.2.size (O6 a)).trans (hb6.mono (by simp; have := H5.out.2.size; omega))
  clear pa' pa a0 a1 a2 a3 a4 a5 pn' pn n0 n1 n2 n3 n4 n5
  have H6 : Hid (_ ∧ _) := ⟨R6, B6⟩
  clear R6 B6 hb6 H5 hz6 hr6
  go_wp2_with fail
  · go_wp2
    go_ret
    exact ⟨rfl, H6.out.2⟩
  refine (CQ.out _).mono ?_
  rintro e w7 ⟨rfl, hb7⟩
  have B7 : Below w.heap.size w w7 := H6.out.2.trans (hb7.mono H6.out.2.size)
  have H7 : Hid _ := B7
  clear B7 hb7 H6
  by_cases hy : y = 0
  · have CX2 := CX.out
    rw [H0.out hy] at CX2
    have CZ : Hid _ := CX2
    subst hy
    clear CX CX2
    go_wp2_with fail
    refine (CZ.out _).mono ?_
    rintro e w8 ⟨rfl, hb8⟩
    go_wp2
    go_ret
    exact ⟨rfl, (H7.out.alloc H7.out.size (O6 x)).trans (hb8.mono (by simp; have := H7.out.size; omega))⟩
  · have hx := H1'.out hy
    rw [decide_eq_true hx] at exz
    have hy1 : (y != 0) = true := by simp [hy]
    have hy2 : (y == 0) = false := by simp [hy]
    clear hy hx
    go_wp2
    go_ret
    exact ⟨rfl, H7.out.alloc H7.out.size (O6 x)⟩
end Go.Proofs.Ytpcnhknkgiingaa
