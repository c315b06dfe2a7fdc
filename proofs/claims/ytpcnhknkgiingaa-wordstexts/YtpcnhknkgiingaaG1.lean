/- The law WordsTexts, walked. -/
import Derived.Test.YtpcnhknkgiingaaG0
namespace Go.Proofs.Ytpcnhknkgiingaa
open Go.RowKit

/-- What is known while the law runs: numbers in memory, the list handed in, its lent copy, the bytes told twice. -/
structure TX (w w' : World) (a c n gi gx gy : Nat) (xs : List Int) (v : Value) (L : List (Nat × Nat)) : Prop where
  rws : Rws w' L
  bl : Below w.heap.size w w'
  bv : BSl w' xs c v
  i1 : gi < w'.heap.size
  i2 : Row8 w' gi (n + 3) (lent xs)
  x1 : gx < w'.heap.size
  x2 : Row8 w' gx 48 (fun p => (bt a (47 - p) : Int))
  y1 : gy < w'.heap.size
  y2 : Row8 w' gy 48 (fun p => (bt a (47 - p) : Int))
theorem TX.below {w w' w'' : World} {a c n gi gx gy : Nat} {xs : List Int} {v : Value} {L : List (Nat × Nat)} (h : TX w w' a c n gi gx gy xs v L) (hb : Below w'.heap.size w' w'') : TX w w'' a c n gi gx gy xs v L :=
  ⟨h.rws.below hb, h.bl.trans (hb.mono h.bl.size), h.bv.below hb, Nat.lt_of_lt_of_le h.i1 hb.size, h.i2.below hb h.i1, Nat.lt_of_lt_of_le h.x1 hb.size, h.x2.below hb h.x1, Nat.lt_of_lt_of_le h.y1 hb.size, h.y2.below hb h.y1⟩
theorem TX.alloc {w w' : World} {a c n gi gx gy : Nat} {xs : List Int} {v : Value} {L : List (Nat × Nat)} (h : TX w w' a c n gi gx gy xs v L) (m : Nat) : TX w (w'.alloc (O6 m)) a c n gi gx gy xs v ((w'.heap.size, m) :: L) :=
  have hb : Below w'.heap.size w' (w'.alloc (O6 m)) := (Below.refl _ _).alloc (Nat.le_refl _) _
  have h2 := h.below hb
  ⟨h.rws.alloc m rfl, h2.bl, h2.bv, h2.i1, h2.i2, h2.x1, h2.x2, h2.y1, h2.y2⟩
theorem alloc_below {w w' : World} {o : Obj} (hb : Below (w.alloc o).heap.size (w.alloc o) w') : Below w.heap.size w w' :=
  ((Below.refl _ _).alloc (Nat.le_refl _) _).trans (hb.mono (by simp))
theorem lists_apart {w w' : World} {a c n gi gx gy : Nat} {xs : List Int} {v : Value} {L : List (Nat × Nat)} (h : TX w w' a c n gi gx gy xs v L) (hx : n = xs.length ∧ n ≤ 200 ∧ ∀ x ∈ xs, 0 ≤ x ∧ x < 256) (hne : gx ≠ gy ∧ gx ≠ gi ∧ gy ≠ gi) :
    ∃ G Ln Cp Fs, Apart3 (w'.alloc (.cells #[.slice (some ⟨gx, 0, none⟩) 48 48, .slice (some ⟨gy, 0, none⟩) 48 48, .slice (some ⟨gi, 0, none⟩) n (n + 3)] 38)) w'.heap.size G Ln Cp Fs :=
  have h1 := h.x1
  have h2 := h.y1
  have h3 := h.i1
  apart_of _ _ gx gy gi n a xs hx.1 hx.2.1 hx.2.2 (by simp) (by simp; omega) (by simp; omega) (by simp; omega) (by omega) (by omega) (by omega) hne.1 hne.2.1 hne.2.2
    (World.cell?_alloc_at _ _ _ _ rfl) (World.cell?_alloc_at _ _ _ _ rfl) (World.cell?_alloc_at _ _ _ _ rfl) (h.x2.alloc h1 _) (h.y2.alloc h2 _) (h.i2.alloc h3 _)
set_option maxHeartbeats 4000000 in
set_option maxRecDepth 100000 in
theorem texts_long (a : Nat) (p : Option Addr) (n c : Nat) (s : ByteArray) (h : 200 < n ∨ 200 < s.size) (w : World) :
    Calls Try.prog 4 #[N a, .slice p n c, .string s] w fun e w' => e = .returned (.bool true) ∧ Below w.heap.size w w' := by
  by_cases h1 : 200 < n
  · have d1 : decide ((200 : Int) < (n : Int)) = true := decide_eq_true (by omega)
    clear h h1
    go_enter Try.func4, Try.ntmps4
    go_wp2
    go_ret
    exact ⟨rfl, (Below.refl _ _).alloc (Nat.le_refl _) _⟩
  · have h2 : 200 < s.size := by omega
    have d1 : decide ((200 : Int) < (n : Int)) = false := decide_eq_false (by omega)
    have d2 : decide ((200 : Int) < (s.size : Int)) = true := decide_eq_true (by omega)
    clear h h1 h2
    go_enter Try.func4, Try.ntmps4
    go_wp2
    go_ret
    exact ⟨rfl, (Below.refl _ _).alloc (Nat.le_refl _) _⟩
set_option maxHeartbeats 4000000 in
set_option maxRecDepth 100000 in
theorem texts_short (a : Nat) (ha : a < big) (xs : List Int) (c : Nat) (v : Value) (s : ByteArray) (hx : ∀ x ∈ xs, 0 ≤ x ∧ x < 256) (hn : xs.length ≤ 200) (hs : s.size ≤ 200) (w : World) (hv : BSl w xs c v) :
    Calls Try.prog 4 #[N a, v, .string s] w fun e w' => e = .returned (.bool true) ∧ Below w.heap.size w w' := by
  have CL : Hid _ := fun w h => lent_any xs c v (by omega) w h
  have CI : Hid _ := fun g w h1 h2 => read_in xs g hx (by omega) w h1 h2
  have CR : Hid _ := fun w h => read_ref xs c v hx (by omega) w h
  have CK : Hid _ := fun g w h1 h2 h3 => kept_any xs g c v (by omega) w h1 h2 h3
  have CB : Hid _ := fun w => bytes_any a w
  have CF : Hid _ := fun w => bytes_ref a w
  have CT : Hid _ := fun w => text_any a ha w
  have CU : Hid _ := fun w => text_ref a ha w
  have CP : Hid _ := fun w => parse_any s w
  have CQ : Hid _ := fun w => parse_ref s w
  have hr1 := rdn_big xs hx
  have hp1 := psn_big s
  have er := fun w => run_eqN _ _ hr1 hr1 w
  have ep := fun w => run_eqN _ _ hp1 hp1 w
  simp only [decide_true] at er ep
  obtain ⟨n, hnx⟩ : ∃ n, n = xs.length := ⟨_, rfl⟩
  obtain ⟨p, hpv⟩ : ∃ p, v = .slice p n c := by
    cases hv using BSl.each with
    | full g o hg hc hcell => rw [← hnx]; exact ⟨_, rfl⟩
    | void p hx => subst hx; simp at hnx; subst hnx; exact ⟨p, rfl⟩
  have HV : Hid (BSl w xs c v) := hv
  have HX : Hid (n = xs.length ∧ n ≤ 200 ∧ ∀ x ∈ xs, 0 ≤ x ∧ x < 256) := ⟨hnx, by omega, hx⟩
  have d1 : decide ((200 : Int) < (n : Int)) = false := decide_eq_false (by omega)
  have d2 : decide ((200 : Int) < (s.size : Int)) = false := decide_eq_false (by omega)
  rw [← hnx] at CL CI CK
  generalize (rdn xs).1 = m at CI CR er
  generalize (rdn xs).2 = e1 at CI CR
  generalize (psn s).1 = o at CP CQ ep
  generalize (psn s).2 = e2 at CP CQ
  generalize txt a = tx at CT CU
  subst hpv
  clear hr1 hp1 hv hnx hx hn hs ha
  go_enter Try.func4, Try.ntmps4
  go_wp2_with fail
  have hV0 : BSl (w.alloc (O6 a)) xs c (.slice p n c) := HV.out.alloc _
  refine (CL.out _ hV0).mono ?_
  rintro e w1 ⟨rfl, hs1, hi1, hb1⟩
  have R1 := ((Rws.nil w).alloc a rfl).below hb1
  have B1 : Below w.heap.size w w1 := ((Below.refl _ _).alloc (Nat.le_refl _) _).trans (hb1.mono (by simp))
  have V1 := hV0.below hb1
  rw [World.size_alloc] at hs1 hi1
  rw [World.size_alloc]
  obtain ⟨gi, hgi⟩ : ∃ g : Nat, g = w.heap.size + 1 := ⟨_, rfl⟩
  rw [← hgi] at hs1 hi1 ⊢
  have ngi : w.heap.size < gi := by omega
  clear hgi d1 d2 hV0
  obtain ⟨pa, a0, a1, a2, a3, a4, a5⟩ := R1.at (g := w.heap.size) (v := a) (by simp)
  have H1 : Hid (Rws w1 [(w.heap.size, a)] ∧ Below w.heap.size w w1 ∧ BSl w1 xs c (.slice p n c) ∧ gi < w1.heap.size ∧ Row8 w1 gi (n + 3) (lent xs)) := ⟨R1, B1, V1, hs1, hi1⟩
  clear R1 B1 V1 hs1 hi1 hb1
  have P1 : w.heap.size < w1.drew.heap.size := pa
  go_wp2
  go_region_held3 (fun w' => w'.cell? ⟨w.heap.size, 0, none⟩ = some (.int .u64 (wd a 0)) ∧ w'.cell? ⟨w.heap.size, 1, none⟩ = some (.int .u64 (wd a 1)) ∧ w'.cell? ⟨w.heap.size, 2, none⟩ = some (.int .u64 (wd a 2)) ∧ w'.cell? ⟨w.heap.size, 3, none⟩ = some (.int .u64 (wd a 3)) ∧ w'.cell? ⟨w.heap.size, 4, none⟩ = some (.int .u64 (wd a 4)) ∧ w'.cell? ⟨w.heap.size, 5, none⟩ = some (.int .u64 (wd a 5))) (simp [go_sem, *])
    (first
      | (go_at_call 28; refine (CB.out _).mono ?_; rintro e w2 ⟨rfl, z2, r2, hb2⟩; obtain ⟨hc, hf⟩ := bcell hb2; have c1 := fun o => hc _ o P1; have P1 := Nat.lt_of_lt_of_le P1 hb2.size; clear hc hf))
  rename_i w2a z2a r2a hb2a c1a P1a hHd
  obtain ⟨R1, B1, V1, hs1, hi1⟩ := H1.out
  have hbA : Below w1.heap.size w1 w2a := (Below.refl _ _).drew.trans hb2a
  have hbB : Below w2a.heap.size w2a w2 := hb2
  have hbC : Below w1.heap.size w1 w2 := hbA.trans (hbB.mono hbA.size)
  simp only [World.size_drew] at z2a r2a
  have H3 : Hid (TX w w2 a c n gi (w1.heap.size + 1) (w2a.heap.size + 1) xs (.slice p n c) [(w.heap.size, a)]) :=
    ⟨R1.below hbC, B1.trans (hbC.mono B1.size), V1.below hbC, Nat.lt_of_lt_of_le hs1 hbC.size, hi1.below hbC hs1, Nat.lt_of_lt_of_le z2a hbB.size, r2a.below hbB z2a, z2, r2⟩
  have NE : Hid (w1.heap.size + 1 ≠ w2a.heap.size + 1 ∧ w1.heap.size + 1 ≠ gi ∧ w2a.heap.size + 1 ≠ gi) := ⟨by omega, by omega, by omega⟩
  clear R1 B1 V1 hs1 hi1 hbA hbB hbC z2a r2a hb2a z2 r2 hb2 H1 hHd c1 P1 c1a P1a a0 a1 a2 a3 a4 a5 pa ngi
  generalize w1.heap.size + 1 = gx at H3 NE ⊢
  generalize w2a.heap.size + 1 = gy at H3 NE ⊢
  clear P1
  clear w1 w2a
  go_wp2_with fail
  refine (CI.out gi _ H3.out.i1 H3.out.i2).mono ?_
  rintro e w4 ⟨rfl, hb4⟩
  have H4 : Hid (TX w w4 a c n gi gx gy xs (.slice p n c) [(w.heap.size, a)]) := H3.out.below hb4
  clear H3 hb4
  go_wp2_with fail
  refine (CR.out _ (H4.out.alloc m).bv).mono ?_
  rintro e w5 ⟨rfl, hb5⟩
  have H5 : Hid (TX w w5 a c n gi gx gy xs (.slice p n c) [(w4.heap.size, m), (w.heap.size, a)]) := (H4.out.alloc m).below hb5
  clear H4 hb5
  go_wp2_with fail
  refine (CP.out _).mono ?_
  rintro e w6 ⟨rfl, hb6⟩
  have H6 : Hid (TX w w6 a c n gi gx gy xs (.slice p n c) [(w5.heap.size, m), (w4.heap.size, m), (w.heap.size, a)]) := (H5.out.alloc m).below hb6
  clear H5 hb6
  go_wp2_with fail
  refine (CQ.out _).mono ?_
  rintro e w7 ⟨rfl, hb7⟩
  have H7 : Hid (TX w w7 a c n gi gx gy xs (.slice p n c) [(w6.heap.size, o), (w5.heap.size, m), (w4.heap.size, m), (w.heap.size, a)]) := (H6.out.alloc o).below hb7
  clear H6 hb7
  go_wp2_with fail
  have H8 := (H7.out.alloc o).below ((Below.refl _ _).drew)
  generalize w4.heap.size = g1 at H8 ⊢
  generalize w5.heap.size = g2 at H8 ⊢
  generalize w6.heap.size = g3 at H8 ⊢
  have H8' : TX w (w7.alloc (O6 o)).drew a c n gi gx gy xs (.slice p n c) [(w7.heap.size, o), (g3, o), (g2, m), (g1, m), (w.heap.size, a)] := H8
  clear H7 H8
  generalize w7.heap.size = g4 at H8' ⊢
  generalize w7.alloc (O6 o) = wx at H8' ⊢
  obtain ⟨P0, a0, a1, a2, a3, a4, a5⟩ := H8'.rws.at (g := w.heap.size) (v := a) (by simp)
  obtain ⟨P1, b0, b1, b2, b3, b4, b5⟩ := H8'.rws.at (g := g1) (v := m) (by simp)
  obtain ⟨P2, d0, d1, d2, d3, d4, d5⟩ := H8'.rws.at (g := g2) (v := m) (by simp)
  obtain ⟨P3, f0, f1, f2, f3, f4, f5⟩ := H8'.rws.at (g := g3) (v := o) (by simp)
  obtain ⟨P4, h0, h1, h2, h3, h4, h5⟩ := H8'.rws.at (g := g4) (v := o) (by simp)
  obtain ⟨L, hL⟩ : ∃ L : List (Nat × Nat), L = [(g4, o), (g3, o), (g2, m), (g1, m), (w.heap.size, a)] := ⟨_, rfl⟩
  rw [← hL] at H8'
  clear hL
  have HT : Hid (TX w wx.drew a c n gi gx gy xs (.slice p n c) L) := H8'
  clear H8' HV CL CI CR CB CP CQ
  go_region_held3 (fun w' => w'.cell? ⟨w.heap.size, 0, none⟩ = some (.int .u64 (wd a 0)) ∧ w'.cell? ⟨w.heap.size, 1, none⟩ = some (.int .u64 (wd a 1)) ∧ w'.cell? ⟨w.heap.size, 2, none⟩ = some (.int .u64 (wd a 2)) ∧ w'.cell? ⟨w.heap.size, 3, none⟩ = some (.int .u64 (wd a 3)) ∧ w'.cell? ⟨w.heap.size, 4, none⟩ = some (.int .u64 (wd a 4)) ∧ w'.cell? ⟨w.heap.size, 5, none⟩ = some (.int .u64 (wd a 5)) ∧ w'.cell? ⟨g1, 0, none⟩ = some (.int .u64 (wd m 0)) ∧ w'.cell? ⟨g1, 1, none⟩ = some (.int .u64 (wd m 1)) ∧ w'.cell? ⟨g1, 2, none⟩ = some (.int .u64 (wd m 2)) ∧ w'.cell? ⟨g1, 3, none⟩ = some (.int .u64 (wd m 3)) ∧ w'.cell? ⟨g1, 4, none⟩ = some (.int .u64 (wd m 4)) ∧ w'.cell? ⟨g1, 5, none⟩ = some (.int .u64 (wd m 5)) ∧ w'.cell? ⟨g2, 0, none⟩ = some (.int .u64 (wd m 0)) ∧ w'.cell? ⟨g2, 1, none⟩ = some (.int .u64 (wd m 1)) ∧ w'.cell? ⟨g2, 2, none⟩ = some (.int .u64 (wd m 2)) ∧ w'.cell? ⟨g2, 3, none⟩ = some (.int .u64 (wd m 3)) ∧ w'.cell? ⟨g2, 4, none⟩ = some (.int .u64 (wd m 4)) ∧ w'.cell? ⟨g2, 5, none⟩ = some (.int .u64 (wd m 5)) ∧ w'.cell? ⟨g3, 0, none⟩ = some (.int .u64 (wd o 0)) ∧ w'.cell? ⟨g3, 1, none⟩ = some (.int .u64 (wd o 1)) ∧ w'.cell? ⟨g3, 2, none⟩ = some (.int .u64 (wd o 2)) ∧ w'.cell? ⟨g3, 3, none⟩ = some (.int .u64 (wd o 3)) ∧ w'.cell? ⟨g3, 4, none⟩ = some (.int .u64 (wd o 4)) ∧ w'.cell? ⟨g3, 5, none⟩ = some (.int .u64 (wd o 5)) ∧ w'.cell? ⟨g4, 0, none⟩ = some (.int .u64 (wd o 0)) ∧ w'.cell? ⟨g4, 1, none⟩ = some (.int .u64 (wd o 1)) ∧ w'.cell? ⟨g4, 2, none⟩ = some (.int .u64 (wd o 2)) ∧ w'.cell? ⟨g4, 3, none⟩ = some (.int .u64 (wd o 3)) ∧ w'.cell? ⟨g4, 4, none⟩ = some (.int .u64 (wd o 4)) ∧ w'.cell? ⟨g4, 5, none⟩ = some (.int .u64 (wd o 5))) (simp [go_sem, *])
    (first
      | (go_at_call 34; refine (CF.out _).mono ?_; rintro e w9 ⟨v34, c34, rfl, hB34, hb⟩; obtain ⟨hc, hf⟩ := bcell hb; have c0 := fun o => hc _ o P0; have c1 := fun o => hc _ o P1; have c2 := fun o => hc _ o P2; have c3 := fun o => hc _ o P3; have c4 := fun o => hc _ o P4; have P0 := Nat.lt_of_lt_of_le P0 hb.size; have P1 := Nat.lt_of_lt_of_le P1 hb.size; have P2 := Nat.lt_of_lt_of_le P2 hb.size; have P3 := Nat.lt_of_lt_of_le P3 hb.size; have P4 := Nat.lt_of_lt_of_le P4 hb.size; have HT : Hid (TX w w9 a c n gi gx gy xs (.slice p n c) L) := HT.out.below hb; clear hc hf hb)
      | (go_at_call_of 33 v34; refine (same_any _ (bys_row a gx _ HT.out.x1 HT.out.x2) hB34).mono ?_; rintro e w9' ⟨rfl, rfl⟩)
      | (go_at_call 33; refine (same_any _ (bys_row a gy _ HT.out.y1 HT.out.y2) (bys_row a gx _ HT.out.x1 HT.out.x2)).mono ?_; rintro e w9' ⟨rfl, rfl⟩)
      | (go_at_call 35; obtain ⟨G, Ln, Cp, Fs, hAp⟩ := lists_apart HT.out HX.out NE.out; refine (apart_any _ G Ln Cp Fs _ hAp).mono ?_; rintro e w10 ⟨rfl, hb0⟩; have hb := alloc_below hb0; obtain ⟨hc, hf⟩ := bcell hb; have c0 := fun o => hc _ o P0; have c1 := fun o => hc _ o P1; have c2 := fun o => hc _ o P2; have c3 := fun o => hc _ o P3; have c4 := fun o => hc _ o P4; have P0 := Nat.lt_of_lt_of_le P0 hb.size; have P1 := Nat.lt_of_lt_of_le P1 hb.size; have P2 := Nat.lt_of_lt_of_le P2 hb.size; have P3 := Nat.lt_of_lt_of_le P3 hb.size; have P4 := Nat.lt_of_lt_of_le P4 hb.size; have HT : Hid (TX w w10 a c n gi gx gy xs (.slice p n c) L) := HT.out.below hb; clear hc hf hb)
      | (go_at_call 36; refine (CK.out gi _ HT.out.i1 HT.out.i2 HT.out.bv).mono ?_; rintro e w11 ⟨rfl, hb⟩; obtain ⟨hc, hf⟩ := bcell hb; have c0 := fun o => hc _ o P0; have c1 := fun o => hc _ o P1; have c2 := fun o => hc _ o P2; have c3 := fun o => hc _ o P3; have c4 := fun o => hc _ o P4; have P0 := Nat.lt_of_lt_of_le P0 hb.size; have P1 := Nat.lt_of_lt_of_le P1 hb.size; have P2 := Nat.lt_of_lt_of_le P2 hb.size; have P3 := Nat.lt_of_lt_of_le P3 hb.size; have P4 := Nat.lt_of_lt_of_le P4 hb.size; have HT : Hid (TX w w11 a c n gi gx gy xs (.slice p n c) L) := HT.out.below hb; clear hc hf hb)
      | (go_at_call 37; refine (CT.out _).mono ?_; rintro e w12 ⟨rfl, hb⟩; obtain ⟨hc, hf⟩ := bcell hb; have c0 := fun o => hc _ o P0; have c1 := fun o => hc _ o P1; have c2 := fun o => hc _ o P2; have c3 := fun o => hc _ o P3; have c4 := fun o => hc _ o P4; have P0 := Nat.lt_of_lt_of_le P0 hb.size; have P1 := Nat.lt_of_lt_of_le P1 hb.size; have P2 := Nat.lt_of_lt_of_le P2 hb.size; have P3 := Nat.lt_of_lt_of_le P3 hb.size; have P4 := Nat.lt_of_lt_of_le P4 hb.size; have HT : Hid (TX w w12 a c n gi gx gy xs (.slice p n c) L) := HT.out.below hb; clear hc hf hb)
      | (go_at_call 38; refine (CU.out _).mono ?_; rintro e w13 ⟨rfl, hb⟩; obtain ⟨hc, hf⟩ := bcell hb; have c0 := fun o => hc _ o P0; have c1 := fun o => hc _ o P1; have c2 := fun o => hc _ o P2; have c3 := fun o => hc _ o P3; have c4 := fun o => hc _ o P4; have P0 := Nat.lt_of_lt_of_le P0 hb.size; have P1 := Nat.lt_of_lt_of_le P1 hb.size; have P2 := Nat.lt_of_lt_of_le P2 hb.size; have P3 := Nat.lt_of_lt_of_le P3 hb.size; have P4 := Nat.lt_of_lt_of_le P4 hb.size; have HT : Hid (TX w w13 a c n gi gx gy xs (.slice p n c) L) := HT.out.below hb; clear hc hf hb))
  go_wp2
  go_ret
  exact ⟨rfl, HT.out.bl⟩
end Go.Proofs.Ytpcnhknkgiingaa
