/- reliquarykit.ApartBytes, of three lists: the walk. -/
import Derived.Test.YtpcnhknkgiingaaF5
namespace Go.Proofs.Ytpcnhknkgiingaa
open Go.RowKit

theorem call33 : ∀ args w, (callFunc 33 args).run Try.prog w = .ok (.enter 33 args) w := by intro args w; go_simp
theorem Over3.below' {w1 w w' : World} {g c : Nat} {f : Nat → Int} (h : Over3 w1 w g c f) (hb : Below w.heap.size w w') (hs : g < w.heap.size ∧ w'.heap.size = w.heap.size) : Over3 w1 w' g c f :=
  ⟨h.upd.trans ⟨hb.os, hb.tape, hb.output, hs.2, fun k hk => by
      rcases Nat.lt_or_ge k w.heap.size with h' | h'
      · exact hb.block k h'
      · rw [Array.getElem?_eq_none h', Array.getElem?_eq_none (by rw [hs.2]; exact h')], fun c e f hc => ⟨c, by rw [hb.block g hs.1]; exact hc, rfl⟩⟩, h.row.below hb hs.1, fun j hj => by rw [hb.cell (p := ⟨g, j, none⟩) hs.1]; exact h.far j hj⟩
set_option maxHeartbeats 3000000 in
set_option maxRecDepth 100000 in
theorem apart_any (gl : Nat) (G Ln Cp : Nat → Nat) (Fs : Nat → Nat → Int) (w : World) (h : Apart3 w gl G Ln Cp Fs) :
    Calls Try.prog 35 #[.slice (some ⟨gl, 0, none⟩) 3 3] w fun e w' => e = .returned (.bool true) ∧ Below w.heap.size w w' := by
  have hmk := run_make_row' (P := Try.prog) 46 38 (.slice none 0 0) 24 (by kernel_rfl) (by kernel_rfl) rfl .i64 .i64 3 (by omega) (by omega)
  simp only [show ((3 : Nat) : Int) = 3 from rfl] at hmk
  have H : Hid (Apart3 w gl G Ln Cp Fs) := h
  clear h
  go_enter Try.func35, Try.ntmps35
  go_wp2
  go_loopw [3] (fun i wr => ∃ n : Nat, n ≤ 3 ∧ i = .int .i64 n ∧ Below w.heap.size w wr) (fun i _ => 3 - (intOf i).toNat)
  case atStart => exact ⟨0, by omega, rfl, Below.refl _ _⟩
  case round =>
    obtain ⟨n, hn, rfl, hw⟩ := hrel
    by_cases hlt : n < 3
    · have hd : decide ((n : Int) < 3) = true := decide_eq_true (by omega)
      have HW : Hid (Below w.heap.size w wr) := hw
      clear hw
      go_wp2
      clear hmk
      obtain ⟨wr0, hwr0⟩ : ∃ x : World, x = wr := ⟨wr, rfl⟩
      subst hwr0
      go_loopw [5] (fun kv w2 => ∃ k : Nat, k ≤ 3 ∧ kv = .int .i64 k ∧ Below w.heap.size w w2 ∧ Was w2 w.heap.size wr0.heap.size k Cp Fs) (fun kv _ => 3 - (intOf kv).toNat)
      case atStart =>
        have hw := HW.out
        refine ⟨0, by omega, rfl, hw.alloc hw.size _, ⟨hw.size, by simp⟩, fun j hj => ?_, fun j hj => by omega⟩
        rw [World.cell?_alloc_at _ _ _ _ rfl, World.frozen?_alloc_at _ _ _ _ rfl]
        refine ⟨?_, rfl⟩
        simp [madeCells, hj]
      case round =>
        clear HW
        generalize wr0.heap.size = wb at hrel ⊢
        obtain ⟨k, hk, rfl, hB, hW⟩ := hrel
        by_cases hkl : k < 3
        · have hdk : decide ((k : Int) < 3) = true := decide_eq_true (by omega)
          have hA := H.out.below hB
          have hc1 := hA.cells k hkl
          have hln := hA.lens k hkl
          have hcp := hA.caps k hkl
          obtain ⟨fr1, fr2⟩ := hW.free k hkl
          have pgl : gl < wr.drew.heap.size := hA.gl_lt
          have pwb : wb < wr.drew.heap.size := hW.lt.2
          have CC : Hid _ := copy_any (G k) (Cp k) (Cp k) hcp.1 (by omega) (Fs k) wr.drew (hA.g_lt k hkl) (fun j hj => (hA.rows k hkl j hj).1)
          have HM : Hid (Below w.heap.size w wr ∧ Was wr w.heap.size wb k Cp Fs) := ⟨hB, hW⟩
          obtain ⟨uu, fu⟩ := Option.isSome_iff_exists.1 fr1
          have hk3 : (k : Int) < 3 := by omega
          have nwg : wb ≠ gl := by have := hW.lt.1; have := H.out.gl_lt; omega
          clear hA hB hW hcp fr1
          go_wp2
          go_region_held3 (fun w' => w'.cell? ⟨gl, k, none⟩ = some (.slice (some ⟨G k, 0, none⟩) (Ln k) (Cp k))) (simp [go_sem, *, World.cell?_setCell_far])
            (first
              | (go_at_call 52; refine (Calls.mono CC.out ?_); rintro e w3 ⟨cc, rfl, g1, g2, g3, hb3⟩; obtain ⟨hc3, hf3⟩ := bcell hb3; have c1 := hc3 _ k pgl; have c2 := hc3 _ k pwb; have f2 := hf3 _ k pwb; clear hc3 hf3))
          go_wp2
          go_roundw
          case rel =>
            obtain ⟨hB, hW⟩ := HM.out
            have hb3' : Below wr.heap.size wr w3 := (Below.refl _ _).drew.trans hb3
            have hBs := hB.size
            refine ⟨k + 1, by omega, by go_num, (hB.trans (hb3'.mono hB.size)).setCell (by simpa using hW.lt.1) _, ?_⟩
            have g2' : wr.heap.size + 1 < w3.heap.size := by simpa using g2
            have hlt2 := hW.lt
            exact (hW.below hb3').store hkl (by omega) (by omega) g2' g1 (fun q hq => by have := g3 q hq; simpa using this)
          case measure => simp [intOf] <;> omega
        · have hk3 : k = 3 := by omega
          subst hk3
          obtain ⟨w1, hw1⟩ : ∃ x : World, x = wr := ⟨wr, rfl⟩
          subst hw1
          have hA := H.out.below hB
          have hc1 := hA.cells n hlt
          have CO : Hid _ := over_any (G n) (Ln n) (Cp n) (hA.lens n hlt) (by have := hA.caps n hlt; omega) (Fs n) w1 (hA.rows n hlt)
          have HM : Hid (Below w.heap.size w w1 ∧ Was w1 w.heap.size wb 3 Cp Fs) := ⟨hB, hW⟩
          have hn3 : (n : Int) < 3 := by omega
          clear hA hB hW
          rw [show ((3 : Nat) : Int) = 3 from rfl]
          go_wp2_with fail
          refine Calls.mono CO.out ?_
          rintro e w4 ⟨rfl, u1, u2, u3⟩
          have HO4 : Hid (Over3 w1 w4 (G n) (Cp n) (Fs n)) := ⟨u1, u2, u3⟩
          clear u1 u2 u3 hc1 CO
          go_wp2
          go_loopw [6] (fun kv w5 => ∃ k : Nat, k ≤ 3 ∧ kv = .int .i64 k ∧ Over3 w1 w5 (G n) (Cp n) (Fs n)) (fun kv _ => 3 - (intOf kv).toNat)
          case atStart => exact ⟨0, by omega, rfl, HO4.out⟩
          case round =>
            clear HO4
            obtain ⟨k, hk, rfl, hO⟩ := hrel
            have hgn := H.out.g_lt n hlt
            have hBw := HM.out.1
            by_cases hkl : k < 3
            · have hdk : decide ((k : Int) < 3) = true := decide_eq_true (by omega)
              have hk3 : (k : Int) < 3 := by omega
              by_cases hkn : k = n
              · have hkb : ((k : Int) != (n : Int)) = false := by simp [hkn]
                have HO : Hid _ := hO
                clear hO hkn hBw hgn
                go_wp2
                go_region
                go_wp2
                go_roundw
                case rel => exact ⟨k + 1, by omega, by go_num, HO.out.drew⟩
                case measure => simp [intOf] <;> omega
              · have hkb : ((k : Int) != (n : Int)) = true := by simp; omega
                have hA1 := H.out.below hBw
                have hge : G k ≠ G n := H.out.apart k n hkl hlt hkn
                have hgl : gl ≠ G n := (H.out.g_ne n hlt).symm
                have hW5 := HM.out.2.upd hO.upd hgn
                obtain ⟨cw, cc, q1, q2, q3, q4, q5, q6⟩ := hW5.copy k hkl
                have hc1 : wr.cell? ⟨gl, k, none⟩ = some (.slice (some ⟨G k, 0, none⟩) (Ln k) (Cp k)) := by rw [hO.upd.cell (p := ⟨gl, k, none⟩) hgl]; exact hA1.cells k hkl
                have hS1 : BSl wr ((List.range (Cp k)).map (Fs k)) (Cp k) (.slice (some ⟨G k, 0, none⟩) (Cp k) (Cp k)) := BSl.row (by rw [hO.upd.size]; exact hA1.g_lt k hkl) (fun j hj => by rw [hO.upd.cell (p := ⟨G k, j, none⟩) hge]; exact (hA1.rows k hkl j hj).1) _ (Nat.le_refl _)
                have hS2 : BSl wr ((List.range (Cp k)).map (Fs k)) cc (.slice (some ⟨cw, 0, none⟩) (Cp k) cc) := BSl.row q3 q6 _ q5
                have CS : Hid _ := same_any wr.drew hS1.drew hS2.drew
                have hln := hA1.lens k hkl
                have HO : Hid _ := hO
                clear hO hkn hBw hgn hA1 hge hgl hW5 q1 q2 q3 q5 q6 hS1 hS2
                go_wp2
                go_region_held3 (fun w' => w'.cell? ⟨gl, k, none⟩ = some (.slice (some ⟨G k, 0, none⟩) (Ln k) (Cp k)) ∧ w'.cell? ⟨wb, k, none⟩ = some (.slice (some ⟨cw, 0, none⟩) (Cp k) cc)) (simp [go_sem, *])
                  (first
                    | (go_at_call 33; refine (Calls.mono CS.out ?_); rintro e w6 ⟨rfl, rfl⟩))
                go_wp2
                go_roundw
                case rel => exact ⟨k + 1, by omega, by go_num, HO.out.drew⟩
                case measure => simp [intOf] <;> omega
            · have hk3 : k = 3 := by omega
              subst hk3
              rw [show ((3 : Nat) : Int) = 3 from rfl]
              have hA1 := H.out.below hBw
              have hgl : gl ≠ G n := (H.out.g_ne n hlt).symm
              have hc1 : wr.cell? ⟨gl, n, none⟩ = some (.slice (some ⟨G n, 0, none⟩) (Ln n) (Cp n)) := by rw [hO.upd.cell (p := ⟨gl, n, none⟩) hgl]; exact hA1.cells n hlt
              have CO : Hid _ := over_any (G n) (Ln n) (Cp n) (hA1.lens n hlt) (by have := hA1.caps n hlt; omega) (fun j => xr (Fs n j)) wr hO.row
              have hback := fun w7 hu hr' hfar => hO.back (w' := w7) (hA1.caps n hlt).1 (fun j hj => hA1.byte n j hlt hj) (hA1.rows n hlt) hu hr' hfar w.heap.size
              have HBK : Hid _ := hback
              clear hO hBw hgn hA1 hgl hback
              go_wp2_with fail
              refine Calls.mono CO.out ?_
              rintro e w7 ⟨rfl, u1, u2, u3⟩
              have hb7 := HBK.out w7 u1 u2 u3
              clear u1 u2 u3 hc1 CO HBK
              go_wp2
              go_roundw
              case rel => exact ⟨n + 1, by omega, by go_num, HM.out.1.trans hb7⟩
              case measure => simp [intOf] <;> omega
    · have hn3 : n = 3 := by omega
      subst hn3
      rw [show ((3 : Nat) : Int) = 3 from rfl]
      clear hmk
      go_wp2
      go_ret
      exact ⟨rfl, hw⟩
end Go.Proofs.Ytpcnhknkgiingaa
