/- Texts of the proof, joined. -/
import Derived.Test.YtmcpagjhpfbpgaaGreatDoorP7
import Derived.Deep.RegionLaw
import Derived.Maps.OwnSet
import Derived.Lib.ConvBytes
import Derived.Maps.RangeWalk
import Derived.Laws.IdiomRangeMap
import Derived.Laws.CopyOwn
section
namespace Go.Proofs.YtmcpagjhpfbpgaaGreatDoor
open Go.RowKit
namespace Rg
namespace Wi
set_option maxRecDepth 100000
/-- A change: its key, its value, whether it is gone. -/
structure Cq where
  k : ByteArray
  q : Pt8
  gn : Bool
def Cq.cells (c : Cq) : List Value := [.string c.k, .slice c.q.p c.q.n c.q.cp, .bool c.gn]
/-- Why it may not be done: an error, or 0. -/
def Cq.fit (c : Cq) : Int := if c.k.size = 0 ∨ (c.gn = true ∧ 0 < c.q.n) then 2 else if 128 < c.k.size ∨ 8192 < c.q.n then 3 else 0
theorem str_nil {s : ByteArray} (h : s.size = 0) : s = ⟨#[]⟩ := by
  apply ByteArray.ext
  exact Array.eq_empty_of_size_eq_zero h
set_option maxHeartbeats 1000000 in
theorem fits_any (c : Cq) (w : World) : Calls Tryz.prog 103 #[.agg c.cells.toArray] w fun e w' => e = .returned (.int .i64 c.fit) ∧ Below w.heap.size w w' := by
  obtain ⟨k, q, gn⟩ := c
  have hB := (Below.refl w.heap.size w).alloc (Nat.le_refl _) (.cells #[.string k, .slice q.p q.n q.cp, .bool gn] 65)
  unfold Cq.fit Cq.cells
  dsimp only
  go_enter Tryz.func103, Tryz.ntmps103
  by_cases h0 : k.size = 0
  · obtain rfl := str_nil h0
    rw [if_pos (.inl rfl)]
    go_wp2
    go_ret
    exact ⟨rfl, hB⟩
  · have hk : k.toList.isEmpty = false := by
      rw [ByteArray.toList_eq]
      refine Bool.eq_false_iff.2 fun e => h0 ?_
      have e2 := List.isEmpty_iff.1 e
      show k.data.size = 0
      rw [← Array.length_toList, e2]
      rfl
    have hkI : ¬(k.size : Int) = 0 := by omega
    by_cases h1 : gn = true ∧ 0 < q.n
    · rw [if_pos (.inr h1)]
      obtain ⟨rfl, h2⟩ := h1
      have h2I : (0 : Int) < q.n := by omega
      go_wp2
      go_ret
      exact ⟨rfl, hB⟩
    · rw [if_neg (fun e => e.elim h0 h1)]
      by_cases h3 : 128 < k.size
      · rw [if_pos (.inl h3)]
        have h3I : (128 : Int) < k.size := by omega
        cases gn with
        | true =>
          have h4 : ¬(0 : Int) < q.n := fun e => h1 ⟨rfl, by omega⟩
          go_wp2
          go_ret
          exact ⟨rfl, hB⟩
        | false =>
          go_wp2
          go_ret
          exact ⟨rfl, hB⟩
      · have h3I : ¬(128 : Int) < k.size := by omega
        by_cases h5 : 8192 < q.n
        · rw [if_pos (.inr h5)]
          have h5I : (8192 : Int) < q.n := by omega
          cases gn with
          | true => exact absurd ⟨rfl, by omega⟩ h1
          | false =>
            go_wp2
            go_ret
            exact ⟨rfl, hB⟩
        · rw [if_neg (fun e => e.elim h3 h5)]
          have h5I : ¬(8192 : Int) < q.n := by omega
          cases gn with
          | true =>
            have h4 : ¬(0 : Int) < q.n := fun e => h1 ⟨rfl, by omega⟩
            go_wp2
            go_ret
            exact ⟨rfl, hB⟩
          | false =>
            go_wp2
            go_ret
            exact ⟨rfl, hB⟩
/-- A list of changes. -/
structure Cl (p : Option Addr) (g o m : Nat) (C : Nat → Cq) (u : World) : Prop where
  p : 0 < m → p = some ⟨g, o, none⟩
  lt : 0 < m → g < u.heap.size
  a0 : ∀ i, i < m → u.cell? ⟨g, o + i * 3, none⟩ = some (.string (C i).k)
  a1 : ∀ i, i < m → u.cell? ⟨g, o + i * 3 + 1, none⟩ = some (.slice (C i).q.p (C i).q.n (C i).q.cp)
  a2 : ∀ i, i < m → u.cell? ⟨g, o + i * 3 + 2, none⟩ = some (.bool (C i).gn)
theorem Cl.below {p : Option Addr} {g o m : Nat} {C : Nat → Cq} {u u' : World} (h : Cl p g o m C u) (hb : Below u.heap.size u u') : Cl p g o m C u' :=
  ⟨h.p, fun h0 => Nat.lt_of_lt_of_le (h.lt h0) hb.size, fun i hi => (hb.cell (p := ⟨g, _, none⟩) (h.lt (by omega))).trans (h.a0 i hi), fun i hi => (hb.cell (p := ⟨g, _, none⟩) (h.lt (by omega))).trans (h.a1 i hi), fun i hi => (hb.cell (p := ⟨g, _, none⟩) (h.lt (by omega))).trans (h.a2 i hi)⟩
set_option maxHeartbeats 1000000 in
theorem bounded_long (p : Option Addr) (m c : Nat) (hm : 64 < m) (w : World) : Calls Tryz.prog 44 #[.slice p m c] w fun e w' => e = .returned (.int .i64 3) ∧ Below w.heap.size w w' := by
  have hmI : (64 : Int) < m := by omega
  go_enter Tryz.func44, Tryz.ntmps44
  go_wp2
  go_ret
  exact ⟨rfl, Below.refl _ _⟩
/-- The first error among changes; 0: there is none. -/
def ferr (C : Nat → Cq) : Nat → Int
  | 0 => 0
  | i + 1 => if ferr C i = 0 then (C i).fit else ferr C i
theorem ferr_mono (C : Nat → Cq) {i m : Nat} {r : Int} (hi : i ≤ m) (h : ferr C i = r) (hr : ¬r = 0) : ferr C m = r := by
  induction m with
  | zero => obtain rfl : i = 0 := by omega
            exact h
  | succ m ih =>
    by_cases e : i = m + 1
    · subst e; exact h
    · have := ih (by omega)
      show (if ferr C m = 0 then _ else ferr C m) = r
      rw [if_neg (by rw [this]; exact hr), this]
set_option maxHeartbeats 1000000 in
theorem bounded_any (p : Option Addr) (m c g o : Nat) (C : Nat → Cq) (hm : m ≤ 64) (w : World) (hl : Cl p g o m C w) : Calls Tryz.prog 44 #[.slice p m c] w fun e w' => e = .returned (.int .i64 (ferr C m)) ∧ Below w.heap.size w w' := by
  have hmI : ¬(64 : Int) < m := by omega
  have HL : Hid _ := hl
  clear hl
  go_enter Tryz.func44, Tryz.ntmps44
  go_wp2
  go_loopw [11] (fun v wr => ∃ i : Nat, v = .int .i64 (i : Int) ∧ i ≤ m ∧ Hid (ferr C i = 0) ∧ Below w.heap.size w wr)
    (fun v _ => m - (RowKit.intOf v).toNat)
  case atStart => exact ⟨0, rfl, Nat.zero_le _, rfl, Below.refl _ _⟩
  case round =>
    obtain ⟨i, rfl, hi, h0, hb⟩ := hrel
    by_cases hlt : i < m
    · have hL := HL.out.below hb
      have hp := hL.p (by omega)
      have c0 := hL.a0 i hlt
      have c1 := hL.a1 i hlt
      have c2 := hL.a2 i hlt
      have hltI : (i : Int) < m := by omega
      subst hp
      clear hL
      have hba : Hid (Below w.heap.size w (wr.alloc (.cells #[.string (C i).k, .slice (C i).q.p (C i).q.n (C i).q.cp, .bool (C i).gn] 65))) := below_on _ _ hb ((Below.refl _ wr).alloc (Nat.le_refl _) _)
      have hstep : Hid (ferr C (i + 1) = (C i).fit) := show (if ferr C i = 0 then (C i).fit else ferr C i) = _ by rw [if_pos h0.out]
      by_cases hf : (C i).fit = 0
      · have HF : Hid (Calls Tryz.prog 103 #[.agg (C i).cells.toArray] (wr.alloc (.cells #[.string (C i).k, .slice (C i).q.p (C i).q.n (C i).q.cp, .bool (C i).gn] 65)) fun e w' => e = .returned (.int .i64 0) ∧ Below w.heap.size w w') := (fits_any (C i) _).mono fun _ _ hh => ⟨by rw [hh.1, hf], below_on _ _ hba.out hh.2⟩
        have h0n : Hid (ferr C (i + 1) = 0) := hstep.out.trans hf
        clear hf
        go_wp2_with (first
          | (go_at_call 103; refine Calls.mono HF.out ?_; rintro e w1 ⟨rfl, hb1⟩)
          | fail)
        go_roundw
        case rel => exact ⟨i + 1, by simp, by omega, h0n, hb1⟩
        case measure => simp [RowKit.intOf]; omega
      · obtain ⟨r, hr⟩ : ∃ r, r = (C i).fit := ⟨_, rfl⟩
        have hr0 : ¬r = 0 := by rw [hr]; exact hf
        have HF : Hid (Calls Tryz.prog 103 #[.agg (C i).cells.toArray] (wr.alloc (.cells #[.string (C i).k, .slice (C i).q.p (C i).q.n (C i).q.cp, .bool (C i).gn] 65)) fun e w' => e = .returned (.int .i64 r) ∧ Below w.heap.size w w') := (fits_any (C i) _).mono fun _ _ hh => ⟨by rw [hh.1, hr], below_on _ _ hba.out hh.2⟩
        have hmm : Hid (ferr C m = r) := ferr_mono C (by omega) (hstep.out.trans hr.symm) hr0
        clear hf hr
        go_wp2_with (first
          | (go_at_call 103; refine Calls.mono HF.out ?_; rintro e w1 ⟨rfl, hb1⟩)
          | fail)
        go_ret
        exact ⟨by rw [hmm.out]; rfl, hb1⟩
    · obtain rfl : i = m := by omega
      go_wp2
      go_ret
      exact ⟨by rw [h0.out]; rfl, hb⟩
end Wi
end Rg
end Go.Proofs.YtmcpagjhpfbpgaaGreatDoor
end
section
namespace Go.Proofs.YtmcpagjhpfbpgaaGreatDoor
open Go.RowKit
namespace Rg
namespace Wi
set_option maxRecDepth 100000
set_option maxHeartbeats 1000000 in
theorem ssync_any (g j : Nat) (r : Int) (I : World → Prop) (w : World) (h : w.cell? ⟨g, 2, none⟩ = some (PT j 0)) (hs : Calls Tryz.prog 49 #[PT j 0] w fun e w' => e = .returned (.int .i64 r) ∧ I w') : Calls Tryz.prog 14 #[PT g 0] w fun e w' => e = .returned (.int .i64 r) ∧ I w' := by
  have HS : Hid _ := hs
  clear hs
  go_enter Tryz.func14, Tryz.ntmps14
  go_wp2_with (first
    | (go_at_call 42; refine (smade_j g j _ h).mono ?_; rintro e w1 ⟨rfl, rfl⟩)
    | (go_at_call 49; refine Calls.mono HS.out ?_; rintro e w2 ⟨rfl, hI⟩)
    | fail)
  go_ret
  exact ⟨rfl, hI⟩
set_option maxHeartbeats 1000000 in
theorem scommit_bad (g j : Nat) (lv : Value) (r : Int) (hr : ¬r = 0) (I : World → Prop) (w : World) (h : w.cell? ⟨g, 2, none⟩ = some (PT j 0)) (hb : Calls Tryz.prog 44 #[lv] w fun e w' => e = .returned (.int .i64 r) ∧ I w') : Calls Tryz.prog 13 #[PT g 0, lv] w fun e w' => e = .returned (.int .i64 r) ∧ I w' := by
  have HB : Hid _ := hb
  clear hb
  go_enter Tryz.func13, Tryz.ntmps13
  go_wp2_with (first
    | (go_at_call 42; refine (smade_j g j _ h).mono ?_; rintro e w1 ⟨rfl, rfl⟩)
    | (go_at_call 44; refine Calls.mono HB.out ?_; rintro e w2 ⟨rfl, hI⟩)
    | fail)
  go_ret
  exact ⟨rfl, hI⟩
set_option maxHeartbeats 1000000 in
theorem scommit_ok (g j : Nat) (lv : Value) (I1 I2 I4 I5 : World → Prop) (I3 : Value → World → Prop) (w : World) (h : w.cell? ⟨g, 2, none⟩ = some (PT j 0))
    (hb : Calls Tryz.prog 44 #[lv] w fun e w' => e = .returned (.int .i64 0) ∧ I1 w')
    (hc : ∀ u, I1 u → Calls Tryz.prog 45 #[PT g 0, lv] u fun e w' => (∃ n : Int, e = .returned (.int .i64 n) ∧ ¬4096 < n) ∧ I2 w')
    (hr : ∀ u, I2 u → Calls Tryz.prog 46 #[lv] u fun e w' => ∃ v, e = .returned (.tuple #[v, .int .i64 0]) ∧ I3 v w')
    (hl : ∀ v u, I3 v u → u.cell? ⟨g, 2, none⟩ = some (PT j 0))
    (ha : ∀ v u, I3 v u → Calls Tryz.prog 47 #[PT j 0, v] u fun e w' => e = .returned (.int .i64 0) ∧ I4 w')
    (hd : ∀ u, I4 u → Calls Tryz.prog 48 #[PT g 0, lv] u fun e w' => e = .returned (.tuple #[]) ∧ I5 w') :
    Calls Tryz.prog 13 #[PT g 0, lv] w fun e w' => e = .returned (.int .i64 0) ∧ I5 w' := by
  have HB : Hid _ := hb
  have HC : Hid _ := hc
  have HR : Hid _ := hr
  have HL : Hid _ := hl
  have HA : Hid _ := ha
  have HD : Hid _ := hd
  clear hb hc hr hl ha hd
  go_enter Tryz.func13, Tryz.ntmps13
  go_wp2_with (first
    | (go_at_call 42; refine (smade_j g j _ h).mono ?_; rintro e w1 ⟨rfl, rfl⟩)
    | (go_at_call 44; refine Calls.mono HB.out ?_; rintro e w2 ⟨rfl, h2⟩)
    | (go_at_call 45; refine Calls.mono (HC.out w2 h2) ?_; rintro e w3 ⟨⟨n, rfl, hn⟩, h3⟩)
    | (go_at_call 46; refine Calls.mono (HR.out w3 h3) ?_; rintro e w4 ⟨v, rfl, h4⟩; have c4 := HL.out v w4 h4)
    | (go_at_call 47; refine Calls.mono (HA.out v w4 h4) ?_; rintro e w5 ⟨rfl, h5⟩)
    | (go_at_call 48; refine Calls.mono (HD.out w5 h5) ?_; rintro e w6 ⟨rfl, h6⟩)
    | fail)
  go_ret
  exact ⟨rfl, h6⟩
set_option maxHeartbeats 1000000 in
theorem scommit_app (g j : Nat) (lv : Value) (r : Int) (hr0 : ¬r = 0) (I1 I2 I4 : World → Prop) (I3 : Value → World → Prop) (w : World) (h : w.cell? ⟨g, 2, none⟩ = some (PT j 0))
    (hb : Calls Tryz.prog 44 #[lv] w fun e w' => e = .returned (.int .i64 0) ∧ I1 w')
    (hc : ∀ u, I1 u → Calls Tryz.prog 45 #[PT g 0, lv] u fun e w' => (∃ n : Int, e = .returned (.int .i64 n) ∧ ¬4096 < n) ∧ I2 w')
    (hr : ∀ u, I2 u → Calls Tryz.prog 46 #[lv] u fun e w' => ∃ v, e = .returned (.tuple #[v, .int .i64 0]) ∧ I3 v w')
    (hl : ∀ v u, I3 v u → u.cell? ⟨g, 2, none⟩ = some (PT j 0))
    (ha : ∀ v u, I3 v u → Calls Tryz.prog 47 #[PT j 0, v] u fun e w' => e = .returned (.int .i64 r) ∧ I4 w') :
    Calls Tryz.prog 13 #[PT g 0, lv] w fun e w' => e = .returned (.int .i64 r) ∧ I4 w' := by
  have HB : Hid _ := hb
  have HC : Hid _ := hc
  have HR : Hid _ := hr
  have HL : Hid _ := hl
  have HA : Hid _ := ha
  clear hb hc hr hl ha
  go_enter Tryz.func13, Tryz.ntmps13
  go_wp2_with (first
    | (go_at_call 42; refine (smade_j g j _ h).mono ?_; rintro e w1 ⟨rfl, rfl⟩)
    | (go_at_call 44; refine Calls.mono HB.out ?_; rintro e w2 ⟨rfl, h2⟩)
    | (go_at_call 45; refine Calls.mono (HC.out w2 h2) ?_; rintro e w3 ⟨⟨n, rfl, hn⟩, h3⟩)
    | (go_at_call 46; refine Calls.mono (HR.out w3 h3) ?_; rintro e w4 ⟨v, rfl, h4⟩; have c4 := HL.out v w4 h4)
    | (go_at_call 47; refine Calls.mono (HA.out v w4 h4) ?_; rintro e w5 ⟨rfl, h5⟩)
    | fail)
  go_ret
  exact ⟨rfl, h5⟩
end Wi
end Rg
end Go.Proofs.YtmcpagjhpfbpgaaGreatDoor
end
section
namespace Go.Proofs.YtmcpagjhpfbpgaaGreatDoor
open Go.RowKit
namespace Rg
namespace Wi
set_option maxRecDepth 100000
set_option maxHeartbeats 1000000 in
theorem sopen_arg (d : Nat) (s : ByteArray) (w : World) (hw : Calls Tryz.prog 55 #[PT d 0] w fun e w' => e = .returned (.bool true) ∧ Below w.heap.size w w') (hn : ∀ u, Below w.heap.size w u → Calls Tryz.prog 56 #[.string s] u fun e w' => e = .returned (.bool false) ∧ Below u.heap.size u w') :
    Calls Tryz.prog 19 #[PT d 0, .string s] w fun e w' => e = .returned (.tuple #[.pointer none, .int .i64 2]) ∧ Below w.heap.size w w' := by
  have HW : Hid _ := hw
  have HN : Hid _ := hn
  clear hw hn
  go_enter Tryz.func19, Tryz.ntmps19
  go_wp2_with (first
    | (go_at_call 55; refine Calls.mono HW.out ?_; rintro e w1 ⟨rfl, hb1⟩)
    | (go_at_call 56; refine Calls.mono (HN.out w1 hb1) ?_; rintro e w2 ⟨rfl, hb2⟩)
    | fail)
  go_ret2
  exact ⟨rfl, below_on _ _ hb1 hb2⟩
theorem mk46 (u : World) : (Instr.makeMap 46 none).run Tryz.prog u = .ok (.map (some u.heap.size)) (u.alloc (.map #[] 0)) := by
  simp [run_makeMap]
/-- The world in which a store is being opened; its closure that does a batch. -/
abbrev opw (u : World) (d : Nat) (s : ByteArray) : World := ((u.alloc (.map #[] 0)).alloc (.cells #[PT d 0, .string s, .pointer none, .int .i64 0, .map (some u.heap.size)] 48)).alloc (.cells #[PT (u.heap.size + 1) 0] 33)
abbrev sdo (n : Nat) : Value := .func (.func 58) #[] #[.pointer (some ⟨n + 1 + 1, 0, none⟩)]
set_option maxHeartbeats 1000000 in
theorem sopen_ok (d : Nat) (s : ByteArray) (hs : s.size ≤ 40) (I1 I2 : Nat → World → Prop) (w : World) (hw : Calls Tryz.prog 55 #[PT d 0] w fun e w' => e = .returned (.bool true) ∧ Below w.heap.size w w') (hn : ∀ u, Below w.heap.size w u → Calls Tryz.prog 56 #[.string s] u fun e w' => e = .returned (.bool true) ∧ Below u.heap.size u w')
    (hck : ∀ u, Below w.heap.size w u → Calls Tryz.prog 59 #[PT (u.heap.size + 1) 0, sdo u.heap.size] (opw u d s) fun e u' => e = .returned (.int .i64 0) ∧ u'.cell? ⟨u.heap.size + 1 + 1, 0, none⟩ = some (PT (u.heap.size + 1) 0) ∧ I1 u.heap.size u')
    (hlg : ∀ n u, I1 n u → Calls Tryz.prog 60 #[PT (n + 1) 0, sdo n] u fun e u' => e = .returned (.int .i64 0) ∧ u'.cell? ⟨n + 1 + 1, 0, none⟩ = some (PT (n + 1) 0) ∧ I2 n u') :
    Calls Tryz.prog 19 #[PT d 0, .string s] w fun e w' => ∃ n, e = .returned (.tuple #[PT (n + 1) 0, .int .i64 0]) ∧ I2 n w' := by
  have HW : Hid _ := hw
  have HN : Hid _ := hn
  have HC : Hid _ := hck
  have HG : Hid _ := hlg
  clear hw hn hck hlg
  go_enter Tryz.func19, Tryz.ntmps19
  go_wp2_with (first
    | (go_at_call 55; refine Calls.mono HW.out ?_; rintro e w1 ⟨rfl, hb1⟩)
    | (go_at_call 56; refine Calls.mono (HN.out w1 hb1) ?_; rintro e w2 ⟨rfl, hb2⟩)
    | (go_at_call 57; refine (sclone_any s (by omega) w2).mono ?_; rintro e w3 ⟨rfl, hb3⟩; have hb : Hid (Below w.heap.size w w3) := below_on _ _ (below_on _ _ hb1 hb2) hb3)
    | fail)
  rw [mk46, Result.andThen_ok]
  go_wp2_with (first
    | (go_at_call 59; refine Calls.mono (HC.out w3 hb.out) ?_; rintro e w4 ⟨rfl, c4, h4⟩)
    | (go_at_call 60; refine Calls.mono (HG.out w3.heap.size w4 h4) ?_; rintro e w5 ⟨rfl, c5, h5⟩)
    | fail)
  go_ret2
  exact ⟨w3.heap.size, rfl, h5⟩
end Wi
end Rg
end Go.Proofs.YtmcpagjhpfbpgaaGreatDoor
end
section
namespace Go.Proofs.YtmcpagjhpfbpgaaGreatDoor
open Go.RowKit
namespace Rg
namespace Wi
set_option maxRecDepth 100000
abbrev nsnap (base : ByteArray) : ByteArray := base ++ ⟨#[46, 115, 110, 97, 112]⟩
theorem nsnap_sz {base : ByteArray} (h : base.size ≤ 40) : (nsnap base).size ≤ 281474976710656 := by
  have e : (nsnap base).size = base.size + 5 := by
    show (base ++ _).size = _
    rw [ByteArray.size_append]
    rfl
  omega
set_option maxHeartbeats 2000000 in
theorem rchk_gen (g d : Nat) (base : ByteArray) (hs : base.size ≤ 40) (fv : Value) (w : World) (c0 : w.cell? ⟨g, 0, none⟩ = some (PT d 0)) (c1 : w.cell? ⟨g, 1, none⟩ = some (.string base))
    (hr : ∀ u, Below w.heap.size w u → Calls Tryz.prog 100 #[PT d 0, .string (nsnap base)] u fun e u' => e = .returned (.tuple #[.slice none 0 0, .int .i64 6]) ∧ Below u.heap.size u u') :
    Calls Tryz.prog 59 #[PT g 0, fv] w fun e w' => e = .returned (.int .i64 0) ∧ Below w.heap.size w w' := by
  have HR : Hid _ := hr
  clear hr
  have c1d : w.drew.cell? ⟨g, 1, none⟩ = some (.string base) := c1
  have HB : Hid (Below w.heap.size w w.drew) := (Below.refl _ w).drew
  go_enter Tryz.func59, Tryz.ntmps59
  go_wp2
  go_region_with (first
    | (go_at_call 113; refine (snap_any g base hs w.drew c1d).mono ?_; rintro e w1 ⟨rfl, hw⟩; subst hw)
    | (go_at_call 100; refine Calls.mono (HR.out w.drew HB.out) ?_; rintro e w2 ⟨rfl, hb2⟩))
  all_goals go_wp2
  all_goals (
    go_ret
    exact ⟨rfl, below_on _ _ HB.out hb2⟩)
theorem rchk_none {w0 u : World} {g d : Nat} {A : Ad} {L : List Nat} (base : ByteArray) (hs : base.size ≤ 40) (fv : Value) (h : Da w0 d A L u) (c0 : u.cell? ⟨g, 0, none⟩ = some (PT d 0)) (c1 : u.cell? ⟨g, 1, none⟩ = some (.string base)) (hl : A.lk (nsnap base) = none) :
    Calls Tryz.prog 59 #[PT g 0, fv] u fun e u' => e = .returned (.int .i64 0) ∧ Below u.heap.size u u' :=
  rchk_gen g d base hs fv u c0 c1 fun u1 hb => (read_a (h.step hb) (nsnap base) (nsnap_sz hs)).mono fun e u' hh => by
    rw [hl] at hh
    exact ⟨hh.2.1, hh.1⟩
end Wi
end Rg
end Go.Proofs.YtmcpagjhpfbpgaaGreatDoor
end
section
namespace Go.Proofs.YtmcpagjhpfbpgaaGreatDoor
open Go.RowKit
namespace Rg
namespace Wi
set_option maxRecDepth 100000
/-- Where the frames of records stand, and the log's bytes. -/
def lA (P : Nat → Pt8) : Nat → Nat
  | 0 => 0
  | k + 1 => lA P k + (8 + (P k).n + 4)
def lF (P : Nat → Pt8) : Nat → Nat → Nat
  | 0 => fun _ => 0
  | k + 1 => ct (lF P k) (lA P k) (frm (P k).f (P k).n)
theorem ct_lo {P Q : Nat → Nat} {n j : Nat} (h : j < n) : ct P n Q j = P j := if_pos h
theorem ct_hi (P Q : Nat → Nat) (n j : Nat) : ct P n Q (n + j) = Q j := by
  unfold ct
  rw [if_neg (by omega), Nat.add_sub_cancel_left]
section
variable {f : Nat → Nat} {n : Nat}
theorem frm_len {j : Nat} (h : j < 4) : frm f n j = by4 n j := by
  unfold frm
  rw [ct_lo (by omega), ct_lo (by omega)]
  exact ct_lo h
theorem frm_chk {j : Nat} (h : j < 4) : frm f n (4 + j) = by4 (crc (by4 n) 4) j := by
  unfold frm
  rw [ct_lo (by omega), ct_lo (by omega)]
  exact ct_hi _ _ _ _
theorem frm_rec {j : Nat} (h : j < n) : frm f n (8 + j) = f j := by
  unfold frm
  rw [ct_lo (by omega), ct_hi]
theorem frm_end (j : Nat) : frm f n (8 + n + j) = by4 (crc f n) j := by
  unfold frm
  exact ct_hi _ _ _ _
theorem crc4 (n : Nat) : crc (by4 n) 4 < 4294967296 := crc_lt _ _
theorem frm_hd {g : Nat → Nat} (hn : n ≤ 65536) (h : ∀ j, j < 8 → g j = frm f n j) : Hdk g n := by
  have e : ∀ j, j < 4 → g j = by4 n j := fun j hj => (h j (by omega)).trans (frm_len hj)
  have e2 : ∀ j, j < 4 → g (4 + j) = by4 (crc (by4 n) 4) j := fun j hj => (h (4 + j) (by omega)).trans (frm_chk hj)
  refine ⟨?_, hn, ?_⟩
  · rw [e 0 (by decide), e 1 (by decide), e 2 (by decide), e 3 (by decide)]
    exact nb4_by4 (by omega)
  · rw [show g 4 = _ from e2 0 (by decide), show g 5 = _ from e2 1 (by decide), show g 6 = _ from e2 2 (by decide), show g 7 = _ from e2 3 (by decide), nb4_by4 (crc4 n)]
    exact crc_cg e
theorem frm_bd {g : Nat → Nat} (h : ∀ j, j < 8 + n + 4 → g j = frm f n j) : Bdk g n := by
  have e : ∀ j, j < 4 → g (8 + n + j) = by4 (crc f n) j := fun j hj => (h _ (by omega)).trans (frm_end j)
  unfold Bdk
  rw [show g (8 + n) = _ from e 0 (by decide), show g (8 + n + 1) = _ from e 1 (by decide), show g (8 + n + 2) = _ from e 2 (by decide), show g (8 + n + 3) = _ from e 3 (by decide), nb4_by4 (crc_lt _ _)]
  exact crc_cg (fun j hj => (h (8 + j) (by omega)).trans (frm_rec hj))
end
theorem lA_mono (P : Nat → Pt8) : ∀ {i m : Nat}, i ≤ m → lA P i ≤ lA P m
  | i, 0, h => by rw [show i = 0 by omega]; exact Nat.le_refl _
  | i, m + 1, h => by
    by_cases e : i = m + 1
    · rw [e]; exact Nat.le_refl _
    · have := lA_mono P (i := i) (m := m) (by omega)
      show _ ≤ lA P m + (8 + (P m).n + 4)
      omega
theorem lF_at (P : Nat → Pt8) : ∀ {m i j : Nat}, i < m → j < 8 + (P i).n + 4 → lF P m (lA P i + j) = frm (P i).f (P i).n j
  | 0, _, _, h, _ => absurd h (Nat.not_lt_zero _)
  | m + 1, i, j, h, hj => by
    show ct (lF P m) (lA P m) (frm (P m).f (P m).n) (lA P i + j) = _
    by_cases e : i = m
    · subst e
      exact ct_hi _ _ _ _
    · have h1 : lA P (i + 1) ≤ lA P m := lA_mono P (by omega)
      have h2 : lA P (i + 1) = lA P i + (8 + (P i).n + 4) := rfl
      rw [ct_lo (by omega)]
      exact lF_at P (by omega) hj
theorem log_good {P : Nat → Pt8} {F : Nat → Nat} {n m : Nat} (hF : ∀ j, j < lA P m → F j = lF P m j) (hn : lA P m ≤ n) (hP : ∀ i, i < m → (P i).n ≤ 65536) : Lgk F n (lA P) (fun i => (P i).n) m := by
  have key : ∀ i, i < m → ∀ j, j < 8 + (P i).n + 4 → sh F (lA P i) j = frm (P i).f (P i).n j := fun i hi j hj => by
    have h1 : lA P (i + 1) ≤ lA P m := lA_mono P (by omega)
    have h2 : lA P (i + 1) = lA P i + (8 + (P i).n + 4) := rfl
    show F (lA P i + j) = _
    rw [hF _ (by omega)]
    exact lF_at P hi hj
  exact ⟨rfl, fun i _ => by show lA P i + (8 + (P i).n + 4) = lA P i + (12 + (P i).n); omega, hn, fun i hi => frm_hd (hP i hi) (fun j hj => key i hi j (by omega)), fun i hi => frm_bd (key i hi)⟩
/-- A log with a torn end. -/
theorem log_torn {P : Nat → Pt8} {m t : Nat} (q : Pt8) (hq : q.n ≤ 65536) (ht : t < 8 + q.n + 4) : ∀ F, (∀ j, j < lA P m + t → F j = ct (lF P m) (lA P m) (frm q.f q.n) j) → lA P m + t < lA P m + 8 ∨ ∃ L, lA P m + 8 ≤ lA P m + t ∧ lA P m + t < lA P m + 8 + L + 4 ∧ Hdk (sh F (lA P m)) L := fun F hF => by
  by_cases h : t < 8
  · exact .inl (by omega)
  · refine .inr ⟨q.n, by omega, by omega, frm_hd (f := q.f) hq (fun j hj => ?_)⟩
    show F (lA P m + j) = _
    rw [hF _ (by omega)]
    exact ct_hi _ _ _ _
end Wi
end Rg
end Go.Proofs.YtmcpagjhpfbpgaaGreatDoor
end
section
namespace Go.Proofs.YtmcpagjhpfbpgaaGreatDoor
open Go.RowKit
namespace Rg
namespace Wi
set_option maxRecDepth 100000
/-- A journal on a disk, all of which is new since w0. -/
structure JOk (w0 : World) (j : Nat) (D : Dq) (s : ByteArray) (c z : Nat) (u : World) : Prop where
  b : Below w0.heap.size w0 u
  cel : Mm u [(j, jc D.d s c z)]
  dk : DOk u D
  lo : w0.heap.size ≤ j ∧ ∀ x ∈ D.bl, w0.heap.size ≤ x
  ap : j ∉ D.bl
section
variable {w0 u u' : World} {j c z : Nat} {D : Dq} {s : ByteArray}
theorem JOk.step (h : JOk w0 j D s c z u) (hb : Below u.heap.size u u') : JOk w0 j D s c z u' := ⟨below_on _ _ h.b hb, h.cel.below hb, h.dk.below hb, h.lo, h.ap⟩
theorem JOk.lt (h : JOk w0 j D s c z u) : j < u.heap.size := (h.cel.blk _ (List.mem_cons_self ..)).1
end
theorem Pw.up {w u u' : World} {n : Nat} {f : Nat → Nat} {q : Pt8} (hb : Below w.heap.size w u) (h : Pw u n f q u') : Pw w n f q u' := ⟨below_on _ _ hb h.b, h.ok, h.no, h.rs, h.n, h.f, fun h0 => Nat.le_trans hb.size (h.gb h0)⟩
theorem jcontent_u (D : Dq) (s : ByteArray) (hs : s.size ≤ 281474976710656) (hn : nmd s = true) {u : World} (h : DOk u D) : ∀ u1, Below u.heap.size u u1 → Calls Tryz.prog 147 #[PT D.d 0, .string s] u1 fun e u' => ∃ q : Pt8, e = .returned (.tuple #[.slice q.p q.n q.cp, .int .i64 0]) ∧ Pw u (cnN (lk D.fs s)) (cnC (lk D.fs s)) q u' := fun u1 hb =>
  (jcontent_f D s hs hn u1 (h.below hb)).mono fun e u' hh => by
    obtain ⟨q, e1, e2⟩ := hh
    exact ⟨q, e1, e2.up hb⟩
theorem Nw.lo {w u : World} {d mb rb m : Nat} {rf : Nat → Bool} (h : Nw w d mb rb rf m u) : ∀ x ∈ Dq.bl ⟨d, mb, rb, 0, [], rf⟩, w.heap.size ≤ x := fun x hx => by
  have h1 := h.two.nm
  have h2 := h.nr
  have h3 := h.nd
  have : x = d ∨ x = mb ∨ x = rb := by simpa [Dq.bl] using hx
  omega
section
variable {w0 u : World} {j c z : Nat} {D : Dq} {s : ByteArray}
/-- Behind an operation of the disk. -/
theorem JOk.dw {u1 u2 : World} {D' : Dq} (h : JOk w0 j D s c z u) (hb : Below u.heap.size u u1) (hw : Dw u1 D D' u2) (hd : D'.d = D.d) : JOk w0 j D' s c z u2 ∧ u1.heap.size ≤ u2.heap.size ∧ u2.heap[j]? = u1.heap[j]? := by
  have h1 := h.step hb
  have hbk := hw.2.1.block j h1.lt h1.ap
  refine ⟨⟨h1.b.trans (hw.2.1.toBelow h1.lo.2 h1.b.size), by rw [hd]; exact Mm.keep1 h1.cel hw.2.1.size hbk, hw.1, ⟨h1.lo.1, fun x hx => (hw.2.2 x hx).elim (h1.lo.2 x) (Nat.le_trans h1.b.size)⟩, fun hx => (hw.2.2 j hx).elim h1.ap (fun e => absurd h1.lt (Nat.not_lt.2 e))⟩, hw.2.1.size, hbk⟩
theorem JOk.put {c' z' : Nat} (h : JOk w0 j D s c z u) (off : Nat) (vs : List Value) (hm : Mm (u.setCells j off vs) [(j, jc D.d s c' z')]) : JOk w0 j D s c' z' (u.setCells j off vs) :=
  ⟨below_setCells j h.lo.1 vs off u h.b, hm, h.dk.chg (L := [j]) ((Chg.refl _ _).put (.inl (List.mem_cons_self ..))) (fun x hx => by rw [List.mem_singleton.1 hx]; exact h.ap), h.lo, h.ap⟩
/-- All of a journal but its own cells. -/
structure JDk (w0 : World) (j : Nat) (D : Dq) (u : World) : Prop where
  b : Below w0.heap.size w0 u
  dk : DOk u D
  lo : w0.heap.size ≤ j ∧ ∀ x ∈ D.bl, w0.heap.size ≤ x
  ap : j ∉ D.bl
theorem JDk.step {u' : World} (h : JDk w0 j D u) (hb : Below u.heap.size u u') : JDk w0 j D u' := ⟨below_on _ _ h.b hb, h.dk.below hb, h.lo, h.ap⟩
theorem JDk.put (h : JDk w0 j D u) (off : Nat) (vs : List Value) : JDk w0 j D (u.setCells j off vs) :=
  ⟨below_setCells j h.lo.1 vs off u h.b, h.dk.chg (L := [j]) ((Chg.refl _ _).put (.inl (List.mem_cons_self ..))) (fun x hx => by rw [List.mem_singleton.1 hx]; exact h.ap), h.lo, h.ap⟩
end
end Wi
end Rg
end Go.Proofs.YtmcpagjhpfbpgaaGreatDoor
end
section
namespace Go.Proofs.YtmcpagjhpfbpgaaGreatDoor
open Go.RowKit
namespace Rg
namespace Wi
set_option maxRecDepth 100000
/-- The frame of a record, the frames of records. -/
def fr (b : List Nat) : List Nat := bs (8 + b.length + 4) (frm (fun i => b.getD i 0) b.length)
def fl (rs : List (List Nat)) : List Nat := (rs.map fr).flatten
theorem bs_getD (b : List Nat) : bs b.length (fun i => b.getD i 0) = b := by
  refine List.ext_getElem? fun i => ?_
  by_cases h : i < b.length
  · rw [bs_get _ h, List.getD_eq_getElem?_getD, List.getElem?_eq_getElem h, Option.getD_some]
  · rw [List.getElem?_eq_none (by rw [bs_len]; omega), List.getElem?_eq_none (by omega)]
theorem bs_D {n i : Nat} (f : Nat → Nat) (h : i < n) : (bs n f).getD i 0 = f i := by
  rw [List.getD_eq_getElem?_getD, bs_get f h, Option.getD_some]
theorem frm_cg {f g : Nat → Nat} {n : Nat} (h : ∀ j, j < n → f j = g j) : ∀ j, j < 8 + n + 4 → frm f n j = frm g n j := fun j hj => by
  unfold frm
  rw [crc_cg h]
  by_cases h1 : j < 8 + n
  · rw [ct_lo h1, ct_lo h1]
    by_cases h2 : j < 8
    · rw [ct_lo h2, ct_lo h2]
    · rw [show j = 8 + (j - 8) by omega, ct_hi, ct_hi]
      exact h _ (by omega)
  · rw [show j = (8 + n) + (j - (8 + n)) by omega, ct_hi, ct_hi]
theorem fr_bs (n : Nat) (f : Nat → Nat) : bs (8 + n + 4) (frm f n) = fr (bs n f) := by
  unfold fr
  rw [bs_len]
  exact bs_cg (frm_cg fun j hj => (bs_D f hj).symm)
theorem fr_len (b : List Nat) : (fr b).length = 8 + b.length + 4 := bs_len _ _
theorem fl_snoc (rs : List (List Nat)) (b : List Nat) : fl (rs ++ [b]) = fl rs ++ fr b := by
  unfold fl
  simp
/-- Records as parts. -/
def rp (rs : List (List Nat)) (i : Nat) : Pt8 := ⟨0, 0, (rs.getD i []).length, 0, none, fun j => (rs.getD i []).getD j 0⟩
theorem take_snoc {α : Type} (rs : List α) (d : α) {k : Nat} (h : k < rs.length) : rs.take (k + 1) = rs.take k ++ [rs.getD k d] := by
  rw [List.take_add_one, List.getElem?_eq_getElem h, List.getD_eq_getElem?_getD, List.getElem?_eq_getElem h]
  rfl
theorem rp_A (rs : List (List Nat)) : ∀ k, k ≤ rs.length → lA (rp rs) k = (fl (rs.take k)).length
  | 0, _ => rfl
  | k + 1, h => by
    rw [take_snoc rs [] (by omega), fl_snoc, List.length_append, fr_len, ← rp_A rs k (by omega)]
    rfl
theorem rp_F (rs : List (List Nat)) : ∀ k, k ≤ rs.length → bs (lA (rp rs) k) (lF (rp rs) k) = fl (rs.take k)
  | 0, _ => rfl
  | k + 1, h => by
    rw [take_snoc rs [] (by omega), fl_snoc, ← rp_F rs k (by omega)]
    show bs (lA (rp rs) k + (8 + (rs.getD k []).length + 4)) (ct (lF (rp rs) k) (lA (rp rs) k) (frm (rp rs k).f (rp rs k).n)) = _
    rw [bs_ct (Nat.le_refl _), List.take_of_length_le (by rw [bs_len]; exact Nat.le_refl _)]
    rfl
theorem rp_all (rs : List (List Nat)) : lA (rp rs) rs.length = (fl rs).length := by
  have := rp_A rs rs.length (Nat.le_refl _)
  rwa [List.take_length] at this
theorem rp_allF (rs : List (List Nat)) : bs (lA (rp rs) rs.length) (lF (rp rs) rs.length) = fl rs := by
  have := rp_F rs rs.length (Nat.le_refl _)
  rwa [List.take_length] at this
/-- What stands behind the whole frames of a log: the beginning of one more. -/
def Torn (t : List Nat) : Prop := t = [] ∨ ∃ b : List Nat, b.length ≤ 65536 ∧ t.length < (fr b).length ∧ t <+: fr b
theorem bs_pre {n m : Nat} {f g : Nat → Nat} (h : bs n f <+: bs m g) : ∀ i, i < n → f i = g i := fun i hi => by
  have h1 := h.length_le
  rw [bs_len, bs_len] at h1
  obtain ⟨t, ht⟩ := h
  have := congrArg (fun l => l[i]?) ht
  simp only [List.getElem?_append_left (show i < (bs n f).length by rw [bs_len]; exact hi), bs_get f hi, bs_get g (show i < m by omega)] at this
  exact Option.some.inj this
theorem log_of {rs : List (List Nat)} {t : List Nat} {n : Nat} {F : Nat → Nat} (h : bs n F = fl rs ++ t) (hr : ∀ r ∈ rs, r.length ≤ 65536) (ht : Torn t) : Lgk F n (lA (rp rs)) (fun i => (rp rs i).n) rs.length ∧ End F n (lA (rp rs)) rs.length ∧ n = (fl rs).length + t.length := by
  have hn : n = (fl rs).length + t.length := by have := congrArg List.length h; rwa [bs_len, List.length_append] at this
  have hA := rp_all rs
  have e1 : bs (lA (rp rs) rs.length) (lF (rp rs) rs.length) <+: bs n F := by rw [rp_allF, h]; exact List.prefix_append _ _
  refine ⟨log_good (fun j hj => (bs_pre e1 j hj).symm) (by omega) (fun i hi => ?_), ?_, hn⟩
  · show (rs.getD i []).length ≤ _
    rw [List.getD_eq_getElem?_getD, List.getElem?_eq_getElem hi, Option.getD_some]
    exact hr _ (List.getElem_mem hi)
  · rcases ht with e | ⟨b, b1, b2, b3⟩
    · subst e
      exact .inl (by rw [List.length_nil] at hn; omega)
    · rw [fr_len] at b2
      have e2 : bs n F <+: bs (lA (rp rs) rs.length + (8 + b.length + 4)) (ct (lF (rp rs) rs.length) (lA (rp rs) rs.length) (frm (fun i => b.getD i 0) b.length)) := by
        rw [bs_ct (Nat.le_refl _), List.take_of_length_le (by rw [bs_len]; exact Nat.le_refl _), rp_allF, h]
        exact (List.prefix_append_right_inj _).2 b3
      have e3 := log_torn (P := rp rs) (m := rs.length) (t := t.length) ⟨0, 0, b.length, 0, none, fun i => b.getD i 0⟩ b1 b2 F fun j hj => bs_pre e2 j (by omega)
      rw [hn, ← hA]
      exact e3
theorem log_rec {rs : List (List Nat)} {t : List Nat} {n : Nat} {F : Nat → Nat} (h : bs n F = fl rs ++ t) {i : Nat} (hi : i < rs.length) : ∀ k, k < (rp rs i).n → F (lA (rp rs) i + 8 + k) = (rp rs i).f k := fun k hk => by
  have hn : n = (fl rs).length + t.length := by have := congrArg List.length h; rwa [bs_len, List.length_append] at this
  have hA := rp_all rs
  have e1 : bs (lA (rp rs) rs.length) (lF (rp rs) rs.length) <+: bs n F := by rw [rp_allF, h]; exact List.prefix_append _ _
  have h1 : lA (rp rs) (i + 1) ≤ lA (rp rs) rs.length := lA_mono _ (by omega)
  have h2 : lA (rp rs) (i + 1) = lA (rp rs) i + (8 + (rp rs i).n + 4) := rfl
  rw [← bs_pre e1 _ (by omega), Nat.add_assoc, lF_at _ hi (by omega), frm_rec hk]
theorem rp_bs (rs : List (List Nat)) (i : Nat) : bs (rp rs i).n (rp rs i).f = rs.getD i [] := bs_getD _
/-- A file's content, or none. -/
def Ad.ct (A : Ad) (s : ByteArray) : List Nat := match A.lk s with
  | some f => f.cn
  | none => []
theorem Dq.ct_ab {w : World} {D : Dq} (h : DOk w D) (s : ByteArray) : bs (cnN (Wi.lk D.fs s)) (cnC (Wi.lk D.fs s)) = D.ab.ct s := by
  unfold Ad.ct
  rw [Dq.lk_ab]
  cases hl : Wi.lk D.fs s with
  | none => rfl
  | some f => exact Fq.cn_ab (h.fl f (lk_mem hl).1)
section
variable {w0 u : World} {d : Nat} {A : Ad} {L : List Nat}
/-- A journal on a disk that reads as A: opened, where the log is whole. -/
theorem jopen_a (h : Da w0 d A L u) (s : ByteArray) (hs : s.size ≤ 281474976710656) (hn : nmd s = true) (rs : List (List Nat)) (hr : ∀ r ∈ rs, r.length ≤ 65536) (hc : A.ct s = fl rs) (hN : (fl rs).length ≤ 1048576) :
    Calls Tryz.prog 111 #[PT d 0, .string s] u fun e u' => ∃ j v P B, e = .returned (.tuple #[PT j 0, v, .int .i64 0]) ∧ Mm u' [(j, jc d s rs.length (fl rs).length)] ∧ Below u.heap.size u u' ∧ Lq B v rs.length P u' ∧ u.heap.size ≤ j ∧ j < B ∧ ∀ i, i < rs.length → bs (P i).n (P i).f = rs.getD i [] := by
  obtain ⟨D, h1, rfl, rfl, h4⟩ := h
  have hb := Dq.ct_ab h1.dk s
  rw [hc] at hb
  have hb' : bs (cnN (lk D.fs s)) (cnC (lk D.fs s)) = fl rs ++ [] := by rw [hb, List.append_nil]
  obtain ⟨l1, l2, l3⟩ := log_of hb' hr (.inl rfl)
  rw [List.length_nil, Nat.add_zero] at l3
  refine (jopen_whole D.d s hs (cnN (lk D.fs s)) (cnC (lk D.fs s)) (lA (rp rs)) (fun i => (rp rs i).n) rs.length (by omega) (by rw [rp_all]; exact l3.symm) u (jcontent_u D s hs hn h1.dk) l1 l2).mono fun e u' hh => ?_
  obtain ⟨j, v, P, B, e1, e2, e3, e4, e5, e6, e7⟩ := hh
  refine ⟨j, v, P, B, e1, by rw [rp_all] at e2; exact e2, e3, e4, e5, e6, fun i hi => ?_⟩
  obtain ⟨f1, f2⟩ := e7 i hi
  rw [← rp_bs rs i, f1]
  exact bs_cg fun k hk => (f2 k hk).trans (log_rec hb' hi k hk)
end
end Wi
end Rg
end Go.Proofs.YtmcpagjhpfbpgaaGreatDoor
end
section
namespace Go.Proofs.YtmcpagjhpfbpgaaGreatDoor
open Go.RowKit
namespace Rg
namespace Wi
set_option maxRecDepth 100000
section
variable {w0 u u' : World} {d j c z : Nat} {A : Ad} {L : List Nat} {s : ByteArray}
theorem Da.chg {M : List Nat} (h : Da w0 d A L u) (hc : Chg M u u') (hM : ∀ x ∈ M, x ∈ L) (hlo : ∀ x ∈ M, w0.heap.size ≤ x) : Da w0 d A L u' := by
  obtain ⟨D, h1, h2, h3, h4⟩ := h
  exact ⟨D, ⟨h1.b.trans (hc.toBelow hlo h1.b.size), h1.dk.chg hc fun x hx => (h4 x (hM x hx)).2, h1.lo⟩, h2, h3, fun x hx => ⟨Nat.lt_of_lt_of_le (h4 x hx).1 hc.size, (h4 x hx).2⟩⟩
/-- A block that is new is none of the disk's. -/
theorem Da.fresh (h : Da w0 d A L u) (hc : Chg L u u') (hlo : ∀ x ∈ L, w0.heap.size ≤ x) (M : List Nat) (hM : ∀ x ∈ M, x ∈ L ∨ (u.heap.size ≤ x ∧ x < u'.heap.size)) : Da w0 d A M u' := by
  have h' := h.chg hc (fun _ hx => hx) hlo
  obtain ⟨D, h1, h2, h3, h4⟩ := h
  refine ⟨D, ⟨h1.b.trans (hc.toBelow hlo h1.b.size), h1.dk.chg hc fun x hx => (h4 x hx).2, h1.lo⟩, h2, h3, fun x hx => ?_⟩
  rcases hM x hx with e | ⟨e1, e2⟩
  · exact ⟨Nat.lt_of_lt_of_le (h4 x e).1 hc.size, (h4 x e).2⟩
  · exact ⟨e2, fun hm => absurd (h1.dk.blt x hm) (Nat.not_lt.2 e1)⟩
theorem Da.lt (h : Da w0 d A L u) {x : Nat} (hx : x ∈ L) : x < u.heap.size := by
  obtain ⟨D, _, _, _, h4⟩ := h
  exact (h4 x hx).1
theorem put_chg (j : Nat) (off : Nat) (vs : List Value) : Chg [j] u (u.setCells j off vs) := (Chg.refl _ _).put (.inl (List.mem_cons_self ..))
theorem Da.jput (h : Da w0 d A (j :: L) u) (hj0 : w0.heap.size ≤ j) (off : Nat) (vs : List Value) : Da w0 d A (j :: L) (u.setCells j off vs) :=
  h.chg (put_chg j off vs) (fun x hx => by rw [List.mem_singleton.1 hx]; exact List.mem_cons_self ..) (fun x hx => by rw [List.mem_singleton.1 hx]; exact hj0)
theorem Chg.kx {M : List Nat} (hc : Chg M u u') (hlt : ∀ x ∈ L, x < u.heap.size) (hn : ∀ x ∈ L, x ∉ M) : Kx L u u' := ⟨hc.size, fun x hx => hc.block x (hlt x hx) (hn x hx)⟩
/-- The state behind an operation of the disk that a journal calls. -/
def Jst (w0 : World) (d j : Nat) (A : Ad) (L : List Nat) (u u' : World) : Prop := Da w0 d A (j :: L) u' ∧ Kx L u u'
theorem Jst.step {u2 : World} (h : Jst w0 d j A L u u') (hb : Below u'.heap.size u' u2) : Jst w0 d j A L u u2 :=
  ⟨h.1.step hb, h.2.trans ((h.1.kx hb).sub fun _ hx => List.mem_cons_of_mem _ hx)⟩
theorem Jst.put (h : Jst w0 d j A L u u') (hj : j ∉ L) (hj0 : w0.heap.size ≤ j) (off : Nat) (vs : List Value) : Jst w0 d j A L u (u'.setCells j off vs) :=
  ⟨h.1.jput hj0 off vs, h.2.trans ((put_chg j off vs).kx (fun x hx => h.1.lt (List.mem_cons_of_mem _ hx)) (fun x hx hm => hj (by rw [← List.mem_singleton.1 hm]; exact hx)))⟩
theorem japp_a (h : Da w0 d A (j :: L) u) (hj : j ∉ L) (hj0 : w0.heap.size ≤ j) (hk : A.k < 1000000000) (ho : ∀ f ∈ A.fs, f.ops.length < 1000000) (hs : s.size ≤ 281474976710656) (hm : Mm u [(j, jc d s c z)]) (hc : c < 4611686018427387904) (hz : z < 4611686018427387904) (q : Pt8) (hq : Pq q u) (hL : q.n ≤ 65536) (r : Int) (A' : Ad) (ha : A.app s (fr (bs q.n q.f)) = (r, A')) :
    Calls Tryz.prog 47 #[PT j 0, .slice q.p q.n q.cp] u fun e u' => e = .returned (.int .i64 r) ∧ (∃ c' z', c' ≤ c + 1 ∧ z' ≤ z + (8 + q.n + 4) ∧ Mm u' [(j, jc d s c' z')]) ∧ Jst w0 d j A' L u u' := by
  have key : ∀ (q2 : Pt8) (u1 : World), Pw u (8 + q.n + 4) (frm q.f q.n) q2 u1 → Calls Tryz.prog 35 #[PT d 0, .string s, .slice q2.p q2.n q2.cp] u1 fun e u' => e = .returned (.int .i64 r) ∧ Jst w0 d j A' L u u' ∧ u1.heap.size ≤ u'.heap.size ∧ u'.heap[j]? = u1.heap[j]? := fun q2 u1 hu => by
    have hq2 : ∀ x ∈ gbl q2, u.heap.size ≤ x ∧ x < u1.heap.size := fun x hx => by
      unfold gbl at hx
      split at hx
      · cases hx
      · obtain rfl := List.mem_singleton.1 hx
        exact ⟨hu.gb (by omega), hu.rs.lt (by omega)⟩
    have h1 := h.add hu.b hq2
    have e : bs q2.n q2.f = fr (bs q.n q.f) := by rw [hu.n, hu.f, fr_bs]
    refine (app_a h1 hk ho s hs q2 ⟨hu.ok, hu.no, hu.rs⟩ (fun x hx => .inl (List.mem_append_left _ hx)) (by rw [hu.n]; omega)).mono fun e u2 hh => ?_
    rw [‹bs q2.n q2.f = _›, ha] at hh
    obtain ⟨e1, e2, e3⟩ := hh
    refine ⟨e1, ⟨e2.sub fun x hx => List.mem_append_right _ hx, ?_⟩, e3.1, e3.2 j (List.mem_append_right _ (List.mem_cons_self ..))⟩
    exact ((h.kx hu.b).sub fun x hx => List.mem_cons_of_mem _ hx).trans (e3.sub fun x hx => List.mem_append_right _ (List.mem_cons_of_mem _ hx))
  by_cases hr : r = 0
  · subst hr
    refine (jappend_ok j d c z s q hL hc hz (Jst w0 d j A' L u) u hm ⟨hq.1, hq.2.2⟩ hq.2.1 (fun u1 u2 h1 hb => h1.step hb) (fun u1 off vs h1 => h1.put hj hj0 off vs) key).mono fun e u' hh => ?_
    exact ⟨hh.1, ⟨_, _, Nat.le_refl _, Nat.le_refl _, hh.2.1⟩, hh.2.2⟩
  · refine (jappend_err j d c z s q hL r hr (Jst w0 d j A' L u) u hm ⟨hq.1, hq.2.2⟩ hq.2.1 (fun u1 u2 h1 hb => h1.step hb) (fun u1 off vs h1 => h1.put hj hj0 off vs) key).mono fun e u' hh => ?_
    exact ⟨hh.1, ⟨c, z, by omega, by omega, hh.2.1⟩, hh.2.2⟩
/-- A log is synced: nothing is done where nothing is under way. -/
def Ad.jsy (A : Ad) (s : ByteArray) : Int × Ad := match A.lk s with
  | some f => if f.ops = [] then (0, A) else A.syn s
  | none => (0, A)
theorem jsync_a (h : Da w0 d A (j :: L) u) (_hj : j ∉ L) (hk : A.k < 1000000000) (hs : s.size ≤ 281474976710656) (hm : Mm u [(j, jc d s c z)]) (r : Int) (A' : Ad) (ha : A.jsy s = (r, A')) :
    Calls Tryz.prog 49 #[PT j 0] u fun e u' => e = .returned (.int .i64 r) ∧ Mm u' [(j, jc d s c z)] ∧ Jst w0 d j A' L u u' := by
  have hid : ∀ u', Below u.heap.size u u' → Jst w0 d j A L u u' := fun u' hb => ⟨h.step hb, (h.kx hb).sub fun _ hx => List.mem_cons_of_mem _ hx⟩
  have hmm : ∀ u', Jst w0 d j A' L u u' ∧ u'.heap[j]? = u.heap[j]? → Mm u' [(j, jc d s c z)] := fun u' hh => Mm.keep1 hm hh.1.2.1 hh.2
  have p0 : ∀ u1, Below u.heap.size u u1 → Calls Tryz.prog 101 #[PT d 0, .string s] u1 fun e u' => e = .returned (.int .i64 ((match A.lk s with | some f => f.ops.length | none => 0 : Nat) : Int)) ∧ Below u1.heap.size u1 u' := fun u1 hb => pend_a (h.step hb) s hs
  unfold Ad.jsy at ha
  cases hl : A.lk s with
  | none =>
    rw [hl] at ha p0
    obtain ⟨rfl, rfl⟩ := Prod.mk.inj ha
    refine (jsync_none j d c z s 0 rfl u hm p0).mono fun e u' hh => ⟨hh.1, hm.below hh.2, hid u' hh.2⟩
  | some f =>
    rw [hl] at ha p0
    dsimp only at ha p0
    by_cases ho : f.ops = []
    · rw [if_pos ho] at ha
      obtain ⟨rfl, rfl⟩ := Prod.mk.inj ha
      refine (jsync_none j d c z s f.ops.length (by rw [ho]; rfl) u hm p0).mono fun e u' hh => ⟨hh.1, hm.below hh.2, hid u' hh.2⟩
    · rw [if_neg ho] at ha
      refine (jsync_some j d c z s f.ops.length (List.length_pos_iff.2 ho) r (fun u' => Jst w0 d j A' L u u' ∧ Mm u' [(j, jc d s c z)]) u hm p0 (fun u1 u2 h1 hb => ⟨h1.1.step hb, h1.2.below hb⟩) (fun u1 hb => ?_)).mono fun e u' hh => ⟨hh.1, hh.2.2, hh.2.1⟩
      refine (syn_a (h.step hb) hk s hs).mono fun e u' hh => ?_
      rw [ha] at hh
      refine ⟨hh.1, ⟨hh.2.1, ((h.kx hb).sub fun _ hx => List.mem_cons_of_mem _ hx).trans (hh.2.2.sub fun _ hx => List.mem_cons_of_mem _ hx)⟩, Mm.keep1 (hm.below hb) hh.2.2.1 (hh.2.2.2 j (List.mem_cons_self ..))⟩
end
end Wi
end Rg
end Go.Proofs.YtmcpagjhpfbpgaaGreatDoor
end
section
namespace Go.Proofs.YtmcpagjhpfbpgaaGreatDoor
open Go.RowKit
namespace Rg
namespace Wi
set_option maxRecDepth 100000
section
variable {ρ : Operand → Value} {o : Oper} {x y : Operand} {a b : Nat} {w : World}
theorem ex_cv64 (h : a < 256) (ho : o.op = .convert 5 227 x) (hx : ρ x = Z8 a) : (execOp ρ o).run Tryz.prog w = .ok (.value (U a)) w := by
  simp only [execOp, ho, hx]
  clear ho hx
  go_simp
  first | (rw [IntKind.wrap_u64]; omega) | omega
theorem ex_shl8 (h : a * 256 < 18446744073709551616) (ho : o.op = .binOp .shl 227 x y 225) (hx : ρ x = U a) (hy : ρ y = U 8) : (execOp ρ o).run Tryz.prog w = .ok (.value (U (a * 256))) w := by
  simp only [execOp, ho, hx, hy]
  clear ho hx hy
  go_simp
  rw [IntKind.wrap_u64]
  omega
theorem ex_or8 (h : a * 256 < 18446744073709551616) (hb : b < 256) (ho : o.op = .binOp .or 227 x y 227) (hx : ρ x = U (a * 256)) (hy : ρ y = U b) : (execOp ρ o).run Tryz.prog w = .ok (.value (U (a * 256 + b))) w := by
  simp only [execOp, ho, hx, hy]
  clear ho hx hy
  have e := bits_or_u64_nat (a * 256) b h (by omega)
  have e2 : a * 256 ||| b = a * 256 + b := by
    have := Nat.two_pow_add_eq_or_of_lt (i := 8) (b := b) (by omega) a
    rw [Nat.mul_comm a 256]
    exact this.symm
  rw [e2] at e
  go_simp
  exact e
end
set_option maxHeartbeats 2000000 in
set_option maxRecDepth 100000 in
theorem take_ok (gr : Nat) (p : Option Addr) (m c k : Nat) (hk : k ≤ m) (hc : m ≤ c) (w : World) (hm : Mm w [(gr, [Value.slice p m c, Value.bool false])]) :
    Calls Tryz.prog 171 #[PT gr 0, .int .i64 ((k : Nat) : Int)] w fun e w' => e = .returned (stake (.slice p m c) k) ∧ Mm w' [(gr, [sdrop (.slice p m c) k, Value.bool false])] ∧ Kp gr w w' := by
  have H0 : Hid (_ ∧ _) := ⟨hm, Kp.refl gr w⟩
  clear hm
  go_enter Tryz.func171, Tryz.ntmps171
  refine wp_seq ?_
  refine sq_startW (l := [0]) rfl (fun u0 hu0 => ?_)
  have H1 : Hid (Mm u0 [(gr, [Value.slice p m c, Value.bool false])] ∧ Kp gr w u0) := by rw [hu0]; exact H0
  clear hu0 H0
  refine rest_set (d := 4) (v := .slice none 0 0) (w' := u0) rfl rfl rfl (rfl) ?_
  simp only [Act.put, sa, sz, ss]
  refine rest_nil (then_normal ?_)
  refine wp_seq (wp_seq ?_)
  refine sq_start (l := [0, 1, 2, 3, 4, 5, 6, 7, 8, 9, 10, 11, 12]) rfl ?_
  refine rest_set (d := 6) (v := PT gr 0) (w' := u0) rfl rfl rfl (rfl) ?_
  simp only [Act.put, sa, sz, ss]
  refine rest_set (d := 7) (v := PT gr 0) (w' := u0) rfl rfl rfl (by go_simp) ?_
  simp only [Act.put, sa, sz, ss]
  refine rest_set (d := 8) (v := PT gr 1) (w' := u0) rfl rfl rfl (by go_simp) ?_
  simp only [Act.put, sa, sz, ss]
  refine rest_set (d := 9) (v := .bool false) (w' := u0) rfl rfl rfl (ex_loadC H1.out.1 0 rfl rfl rfl Tryz.isAgg4 rfl) ?_
  simp only [Act.put, sa, sz, ss]
  refine rest_set (d := 10) (v := .bool false) (w' := u0) rfl rfl rfl (rfl) ?_
  simp only [Act.put, sa, sz, ss]
  refine rest_set (d := 11) (v := .int .i64 ((k : Nat) : Int)) (w' := u0) rfl rfl rfl (rfl) ?_
  simp only [Act.put, sa, sz, ss]
  refine rest_set (d := 12) (v := PT gr 0) (w' := u0) rfl rfl rfl (rfl) ?_
  simp only [Act.put, sa, sz, ss]
  refine rest_set (d := 13) (v := PT gr 0) (w' := u0) rfl rfl rfl (by go_simp) ?_
  simp only [Act.put, sa, sz, ss]
  refine rest_set (d := 14) (v := PT gr 0) (w' := u0) rfl rfl rfl (by go_simp) ?_
  simp only [Act.put, sa, sz, ss]
  refine rest_set (d := 15) (v := .slice p m c) (w' := u0) rfl rfl rfl (ex_loadC H1.out.1 0 rfl rfl rfl Tryz.isAgg40 rfl) ?_
  simp only [Act.put, sa, sz, ss]
  refine rest_set (d := 16) (v := .int .i64 ((m : Nat) : Int)) (w' := u0) rfl rfl rfl (by go_simp) ?_
  simp only [Act.put, sa, sz, ss]
  refine rest_set (d := 17) (v := .bool false) (w' := u0) rfl rfl rfl (by go_simp <;> omega) ?_
  simp only [Act.put, sa, sz, ss]
  refine rest_set (d := 18) (v := .bool false) (w' := u0) rfl rfl rfl (by go_simp) ?_
  simp only [Act.put, sa, sz, ss]
  refine rest_nil (then_normal ?_)
  refine wp_cond_false rfl (wp_skip ?_)
  refine then_normal (wp_seq ?_)
  refine sq_start (l := [0, 1, 2, 3, 4, 5, 6]) rfl ?_
  refine rest_set (d := 22) (v := PT gr 0) (w' := u0) rfl rfl rfl (rfl) ?_
  simp only [Act.put, sa, sz, ss]
  refine rest_set (d := 23) (v := PT gr 0) (w' := u0) rfl rfl rfl (by go_simp) ?_
  simp only [Act.put, sa, sz, ss]
  refine rest_set (d := 24) (v := PT gr 0) (w' := u0) rfl rfl rfl (by go_simp) ?_
  simp only [Act.put, sa, sz, ss]
  refine rest_set (d := 25) (v := .slice p m c) (w' := u0) rfl rfl rfl (ex_loadC H1.out.1 0 rfl rfl rfl Tryz.isAgg40 rfl) ?_
  simp only [Act.put, sa, sz, ss]
  refine rest_set (d := 26) (v := .int .i64 ((k : Nat) : Int)) (w' := u0) rfl rfl rfl (rfl) ?_
  simp only [Act.put, sa, sz, ss]
  refine rest_set (d := 27) (v := stake (.slice p m c) k) (w' := u0) rfl rfl rfl (ex_take (by omega) rfl rfl rfl) ?_
  simp only [Act.put, sa, sz, ss]
  refine rest_set (d := 5) (v := stake (.slice p m c) k) (w' := u0) rfl rfl rfl (rfl) ?_
  simp only [Act.put, sa, sz, ss]
  refine rest_nil (then_normal (wp_seq ?_))
  refine sq_start (l := [0, 1, 2, 3, 4, 5, 6, 7, 8, 9]) rfl ?_
  refine rest_set (d := 28) (v := PT gr 0) (w' := u0) rfl rfl rfl (rfl) ?_
  simp only [Act.put, sa, sz, ss]
  refine rest_set (d := 29) (v := PT gr 0) (w' := u0) rfl rfl rfl (rfl) ?_
  simp only [Act.put, sa, sz, ss]
  refine rest_set (d := 30) (v := PT gr 0) (w' := u0) rfl rfl rfl (by go_simp) ?_
  simp only [Act.put, sa, sz, ss]
  refine rest_set (d := 31) (v := PT gr 0) (w' := u0) rfl rfl rfl (by go_simp) ?_
  simp only [Act.put, sa, sz, ss]
  refine rest_set (d := 32) (v := .slice p m c) (w' := u0) rfl rfl rfl (ex_loadC H1.out.1 0 rfl rfl rfl Tryz.isAgg40 rfl) ?_
  simp only [Act.put, sa, sz, ss]
  refine rest_set (d := 33) (v := .int .i64 ((k : Nat) : Int)) (w' := u0) rfl rfl rfl (rfl) ?_
  simp only [Act.put, sa, sz, ss]
  refine rest_set (d := 34) (v := sdrop (.slice p m c) k) (w' := u0) rfl rfl rfl (ex_drop (by omega) rfl rfl rfl) ?_
  simp only [Act.put, sa, sz, ss]
  refine rest_set (d := 35) (v := PT gr 0) (w' := u0) rfl rfl rfl (by go_simp) ?_
  simp only [Act.put, sa, sz, ss]
  refine rest_set (d := 36) (v := PT gr 0) (w' := u0) rfl rfl rfl (by go_simp) ?_
  simp only [Act.put, sa, sz, ss]
  refine rest_store rfl rfl rfl (ex_st1 (v := sdrop (.slice p m c) k) H1.out.1 0 rfl rfl Tryz.sizeOf40 rfl rfl (rfl) (Nat.le_of_ble_eq_true rfl)) ?_
  have H2 : Hid (Mm (u0.setCells gr 0 [sdrop (.slice p m c) k]) [(gr, [sdrop (.slice p m c) k, Value.bool false])] ∧ Kp gr w (u0.setCells gr 0 [sdrop (.slice p m c) k])) := ⟨H1.out.1.put 0 (off := 0) (vs := [sdrop (.slice p m c) k]) rfl (Nat.le_of_ble_eq_true rfl), H1.out.2.put (Or.inl rfl)⟩
  clear H1
  generalize hgw : World.setCells _ _ _ _ = w2 at H2 ⊢
  clear hgw
  refine rest_nil (then_normal (wp_seq ?_))
  refine sq_start (l := [0, 1]) rfl ?_
  refine rest_set (d := 37) (v := stake (.slice p m c) k) (w' := w2) rfl rfl rfl (rfl) ?_
  simp only [Act.put, sa, sz, ss]
  refine rest_set (d := 4) (v := stake (.slice p m c) k) (w' := w2) rfl rfl rfl (rfl) ?_
  simp only [Act.put, sa, sz, ss]
  refine rest_nil (then_normal (wp_ret ?_))
  repeat (first | refine then_ret ?_ | refine block_ret ?_)
  refine bodyPost_ret (v := stake (.slice p m c) k) (by simp [results, Tryz.results171, go_sem, *]) rfl ?_
  exact ⟨rfl, H2.out.1, H2.out.2⟩
end Wi
end Rg
end Go.Proofs.YtmcpagjhpfbpgaaGreatDoor
end
section
namespace Go.Proofs.YtmcpagjhpfbpgaaGreatDoor
open Go.RowKit
namespace Rg
namespace Wi
theorem call171 : ∀ args w, (callFunc 171 args).run Tryz.prog w = .ok (.enter 171 args) w := by intro args w; go_simp
set_option maxRecDepth 100000
section
variable {ρ : Operand → Value} {o : Oper} {x y : Operand} {a b : Nat} {w : World}
theorem ex_cvI (h : a < 9223372036854775808) (ho : o.op = .convert 3 227 x) (hx : ρ x = .int .i64 ((a : Nat) : Int)) : (execOp ρ o).run Tryz.prog w = .ok (.value (U a)) w := by
  simp only [execOp, ho, hx]
  clear ho hx
  go_simp
  first | (rw [IntKind.wrap_u64]; omega) | omega
theorem ex_cvU (h : a < 9223372036854775808) (ho : o.op = .convert 227 3 x) (hx : ρ x = U a) : (execOp ρ o).run Tryz.prog w = .ok (.value (.int .i64 ((a : Nat) : Int))) w := by
  simp only [execOp, ho, hx]
  clear ho hx
  go_simp
  first | (rw [IntKind.wrap_i64]; omega) | omega
theorem ex_gtN (h : a ≤ b) (ho : o.op = .binOp .gtr 227 x y 227) (hx : ρ x = U a) (hy : ρ y = U b) : (execOp ρ o).run Tryz.prog w = .ok (.value (.bool false)) w := by
  have h1 : ¬ (b : Int) < a := by omega
  simp only [execOp, ho, hx, hy]
  clear ho hx hy
  go_simp
end
set_option maxHeartbeats 2000000 in
set_option maxRecDepth 100000 in
theorem whole_yes (gr : Nat) (p : Option Addr) (c : Nat)  (w : World) (hm : Mm w [(gr, [Value.slice p 0 c, Value.bool false])]) :
    Calls Tryz.prog 154 #[PT gr 0] w fun e w' => e = .returned (.bool true) ∧ Below w.heap.size w w' := by
  have H0 : Hid (_ ∧ _) := ⟨hm, Below.refl w.heap.size w⟩
  clear hm
  go_enter Tryz.func154, Tryz.ntmps154
  refine wp_seq ?_
  refine sq_startW (l := [0]) rfl (fun u0 hu0 => ?_)
  have H1 : Hid (Mm u0 [(gr, [Value.slice p 0 c, Value.bool false])] ∧ Below w.heap.size w u0) := by rw [hu0]; exact H0
  clear hu0 H0
  refine rest_set (d := 2) (v := .bool false) (w' := u0) rfl rfl rfl (rfl) ?_
  simp only [Act.put, sa, sz, ss]
  refine rest_nil (then_normal (wp_seq ?_))
  refine sq_start (l := [0, 1, 2, 3, 4, 5, 6, 7, 8, 9, 10, 11, 12, 13]) rfl ?_
  refine rest_set (d := 3) (v := PT gr 0) (w' := u0) rfl rfl rfl (rfl) ?_
  simp only [Act.put, sa, sz, ss]
  refine rest_set (d := 4) (v := PT gr 0) (w' := u0) rfl rfl rfl (by go_simp) ?_
  simp only [Act.put, sa, sz, ss]
  refine rest_set (d := 5) (v := PT gr 1) (w' := u0) rfl rfl rfl (by go_simp) ?_
  simp only [Act.put, sa, sz, ss]
  refine rest_set (d := 6) (v := .bool false) (w' := u0) rfl rfl rfl (ex_loadC H1.out.1 0 rfl rfl rfl Tryz.isAgg4 rfl) ?_
  simp only [Act.put, sa, sz, ss]
  refine rest_set (d := 7) (v := .bool true) (w' := u0) rfl rfl rfl (by go_simp) ?_
  simp only [Act.put, sa, sz, ss]
  refine rest_set (d := 8) (v := .bool true) (w' := u0) rfl rfl rfl (rfl) ?_
  simp only [Act.put, sa, sz, ss]
  refine rest_set (d := 9) (v := PT gr 0) (w' := u0) rfl rfl rfl (rfl) ?_
  simp only [Act.put, sa, sz, ss]
  refine rest_set (d := 10) (v := PT gr 0) (w' := u0) rfl rfl rfl (by go_simp) ?_
  simp only [Act.put, sa, sz, ss]
  refine rest_set (d := 11) (v := PT gr 0) (w' := u0) rfl rfl rfl (by go_simp) ?_
  simp only [Act.put, sa, sz, ss]
  refine rest_set (d := 12) (v := .slice p 0 c) (w' := u0) rfl rfl rfl (ex_loadC H1.out.1 0 rfl rfl rfl Tryz.isAgg40 rfl) ?_
  simp only [Act.put, sa, sz, ss]
  refine rest_set (d := 13) (v := .int .i64 0) (w' := u0) rfl rfl rfl (by go_simp) ?_
  simp only [Act.put, sa, sz, ss]
  refine rest_set (d := 14) (v := .bool true) (w' := u0) rfl rfl rfl (by kernel_rfl) ?_
  simp only [Act.put, sa, sz, ss]
  refine rest_set (d := 15) (v := .bool true) (w' := u0) rfl rfl rfl (by go_simp) ?_
  simp only [Act.put, sa, sz, ss]
  refine rest_set (d := 2) (v := .bool true) (w' := u0) rfl rfl rfl (rfl) ?_
  simp only [Act.put, sa, sz, ss]
  refine rest_nil (then_normal (wp_ret ?_))
  repeat (first | refine then_ret ?_ | refine block_ret ?_)
  refine bodyPost_ret (v := .bool true) (by simp [results, Tryz.results154, go_sem, *]) rfl ?_
  exact ⟨rfl, H1.out.2⟩
end Wi
end Rg
end Go.Proofs.YtmcpagjhpfbpgaaGreatDoor
end
section
namespace Go.Proofs.YtmcpagjhpfbpgaaGreatDoor
open Go.RowKit
namespace Rg
namespace Wi
set_option maxRecDepth 100000
/-- How far a number is turned for its byte j, of k. -/
def shk (k j : Nat) : Int := 8 * (k : Int) - 8 - 8 * (j : Int)
/-- The row P of n, and behind it the numbers A, each in k bytes. -/
def pbf (P : Nat → Nat) (n : Nat) (A : Nat → Nat) (k : Nat) (t : Nat) : Nat := if t < n then P t else A ((t - n) / k) / 2 ^ (8 * (k - 1 - (t - n) % k)) % 256
theorem pbf_at (P : Nat → Nat) (n : Nat) (A : Nat → Nat) {k i j : Nat} (h : j < k) : pbf P n A k (n + k * i + j) = A i / 2 ^ (8 * (k - 1 - j)) % 256 := by
  unfold pbf
  rw [if_neg (by omega), show n + k * i + j - n = k * i + j by omega, Nat.mul_add_div (by omega), Nat.div_eq_of_lt h, Nat.add_zero, Nat.mul_add_mod, Nat.mod_eq_of_lt h]
theorem pbf_low (P : Nat → Nat) (n : Nat) (A : Nat → Nat) (k : Nat) (j : Nat) (h : j < n) : P j = pbf P n A k j := by
  unfold pbf
  rw [if_pos h]
theorem own_st1 {w : World} {B n : Nat} {v : Value} {xs : List Value} (h : w.ownsRow B 5 1 v n xs) : st1 v = true := by
  rcases h.2 with ⟨h1, _⟩ | ⟨g, cap, cur, h1, _⟩ <;> rw [h1] <;> rfl
section
variable {ρ : Operand → Value} {o : Oper} {x y : Operand} {a k j : Nat} {w : World}
theorem ex_shrS (hj : j < k) (hk : k ≤ 8) (ho : o.op = .binOp .shr 3 x y 3) (hx : ρ x = .int .i64 ((a : Nat) : Int)) (hy : ρ y = .int .i64 (shk k j)) : (execOp ρ o).run Tryz.prog w = .ok (.value (.int .i64 ((a / 2 ^ (8 * (k - 1 - j)) : Nat) : Int))) w := by
  have es : shk k j = ((8 * (k - 1 - j) : Nat) : Int) := by unfold shk; omega
  rw [es] at hy
  generalize hs8 : 8 * (k - 1 - j) = s at hy ⊢
  have hs64 : s < 64 := by omega
  simp only [execOp, ho, hx, hy]
  clear ho hx hy es
  have hs := shift_shr_any .i64 .i64 (a : Int) (s : Int) (by omega)
  have e : min ((s : Int).toNat) IntKind.i64.bits = s := by rw [Int.toNat_natCast]; show min s 64 = s; omega
  rw [e, show (a : Int) / 2 ^ s = ((a / 2 ^ s : Nat) : Int) by rw [Int.natCast_ediv, Int.natCast_pow]; rfl] at hs
  go_simp
theorem ex_cvB (ho : o.op = .convert 3 5 x) (hx : ρ x = .int .i64 ((a : Nat) : Int)) : (execOp ρ o).run Tryz.prog w = .ok (.value (Z8 (a % 256))) w := by
  simp only [execOp, ho, hx]
  clear ho hx
  go_simp
  simp [IntKind.wrap, IntKind.bits, IntKind.signed]
theorem ex_bsB (ho : o.op = .buildSlice 40 1 #[(0, x)]) (hx : ρ x = Z8 a) : (execOp ρ o).run Tryz.prog w = .ok (.value (.slice (some ⟨w.heap.size, 0, none⟩) 1 1)) (w.alloc (.cells ([Z8 a] : List Value).toArray 5)) := by
  simp only [execOp, ho, List.map_toArray, List.map_cons, List.map_nil, hx]
  kernel_rfl
end
theorem add_z (g j : Nat) : (⟨g, 0, none⟩ : Addr).add j = ⟨g, j, none⟩ := by unfold Addr.add; split <;> simp_all
theorem Ow.appP {w w1 : World} {L : List Nat} {l : List (Nat × List Value)} {vv : Value} {n : Nat} {P : Nat → Nat} (h : Ow w L vv n P w1) (hm : Mm w1 l) (hl : l.map Prod.fst = L) {q : Pt8} (hq : Pok q) (hN : q.p = none → q.cp = 0) (hR : q.rs w1) (hb : n + q.n ≤ 2097152) (ty : TypeId) :
    ∃ v' w2, (Builtin.append_ #[40, 40] ty #[vv, .slice q.p q.n q.cp]).run Tryz.prog w1 = .ok v' w2 ∧ Ow w L v' (n + q.n) (ct P n q.f) w2 ∧ Mm w2 l := by
  obtain ⟨v', w2, h1, h2, h3, h5⟩ := own_appQ h.own h.b.size hq hN hR hb ty
  have hb2 : Below w.heap.size w1 w2 := (Below.refl _ _).grown h3 h.b.size (fun k hk => (World.ownsRow.lt h.own k hk).1)
  have hne : ∀ p ∈ l, some p.1 ≠ vv.ownBlock := fun p hp => h.ne p.1 (by rw [← hl]; exact List.mem_map_of_mem hp)
  refine ⟨v', w2, h1, ⟨h.b.trans hb2, h2, fun g hg e => ?_⟩, ⟨fun p hp => ?_, hm.nd⟩⟩
  · rcases h5 with e5 | e5
    · exact h.ne g hg (e.trans e5)
    · rw [e5] at e
      rw [← hl] at hg
      obtain ⟨p, hp, e6⟩ := List.mem_map.1 hg
      have := (hm.blk p hp).1
      injection e with e
      omega
  · have hlt := (hm.blk p hp).1
    have hblk := h3.block p.1 hlt (hne p hp)
    refine ⟨Nat.lt_of_lt_of_le hlt hb2.size, fun j v hj => ?_⟩
    have := (hm.blk p hp).2 j v hj
    rw [World.cell?_of_block (a := ⟨p.1, j, none⟩) hblk, World.frozen?_of_block (a := ⟨p.1, j, none⟩) hblk]
    exact this
theorem ex_ixI {ρ : Operand → Value} {o : Oper} {x y : Operand} {g off m c j : Nat} {w : World} (ho : o.op = .indexAddr 22 x y) (hx : ρ x = .slice (some ⟨g, off, none⟩) m c) (hy : ρ y = .int .i64 ((j : Nat) : Int)) (h : j < m) : (execOp ρ o).run Tryz.prog w = .ok (.value (PT g (off + j))) w := by
  simp only [execOp, ho, hx, hy]
  clear ho hx hy
  go_simp
set_option maxHeartbeats 4000000 in
set_option maxRecDepth 100000 in
theorem put_old (W : World) (gw ga : Nat) (lz : List (Nat × List Value)) (vv : Value) (n : Nat) (P : Nat → Nat) (q : Pt8) (hq0 : Pok q) (hqn0 : q.p = none → q.cp = 0) (hqr0 : ∀ u, Below W.heap.size W u → q.rs u) (A : Nat → Nat) (mm k : Nat) (h1 : 1 ≤ k) (h8 : k ≤ 8) (hmm : mm ≤ 64) (hbd : n + k * mm + q.n ≤ 2097152) (hg0 : W.heap.size ≤ gw) (w : World) (hm : Mm w ((gw, [vv]) :: (ga, ints .i64 A mm) :: lz)) (hO : Ow W (gw :: ga :: lz.map Prod.fst) vv n P w) :
    Calls Tryz.prog 142 #[PT gw 0, .int .i64 ((k : Nat) : Int), .slice q.p q.n q.cp, .slice (some ⟨ga, 0, none⟩) mm mm] w fun e w' => e = .returned (.tuple #[]) ∧ ∃ v', Ow W (gw :: ga :: lz.map Prod.fst) v' (n + k * mm + q.n) (ct (pbf P n A k) (n + k * mm) q.f) w' ∧ Mm w' ((gw, [v']) :: (ga, ints .i64 A mm) :: lz) := by
  have H0 : Hid (_ ∧ _) := ⟨hm, hO⟩
  clear hm
  have hq : Hid _ := hq0
  have hqn : Hid _ := hqn0
  have hqr : Hid _ := hqr0
  have hg : Hid _ := hg0
  clear hq0 hqn0 hqr0 hg0 hO
  go_enter Tryz.func142, Tryz.ntmps142
  refine wp_seq (wp_seq ?_)
  refine sq_start (l := [0, 1, 2]) rfl ?_
  refine rest_set (d := 11) (v := .slice (some ⟨ga, 0, none⟩) mm mm) (w' := w) rfl rfl rfl (rfl) ?_
  simp only [Act.put, sa, sz, ss]
  refine rest_set (d := 12) (v := .int .i64 ((mm : Nat) : Int)) (w' := w) rfl rfl rfl (by go_simp) ?_
  simp only [Act.put, sa, sz, ss]
  refine rest_set (d := 13) (v := .int .i64 0) (w' := w) rfl rfl rfl (rfl) ?_
  simp only [Act.put, sa, sz, ss]
  refine rest_nil (then_normal (wp_block ?_))
  refine loop_ghost (α := Nat × Value) (fun x a' w' => ∃ s0 : Nat → Value, a' = ⟨#[PT gw 0, .int .i64 ((k : Nat) : Int), .slice q.p q.n q.cp, .slice (some ⟨ga, 0, none⟩) mm mm, undef, undef, undef, undef, undef, s0 9, s0 10, .slice (some ⟨ga, 0, none⟩) mm mm, .int .i64 ((mm : Nat) : Int), .int .i64 ((x.1 : Nat) : Int), s0 14, s0 15, s0 16, s0 17, s0 18, s0 19, s0 20, s0 21, s0 22, s0 23, s0 24, s0 25, s0 26, s0 27, s0 28, s0 29, s0 30, s0 31, s0 32, s0 33, s0 34, s0 35, s0 36, s0 37, undef, undef, undef, undef, undef, undef, undef, undef, undef], []⟩ ∧ (Mm w' ((gw, [x.2]) :: (ga, ints .i64 A mm) :: lz) ∧ Ow W (gw :: ga :: lz.map Prod.fst) x.2 (n + k * x.1) (pbf P n A k) w') ∧ x.1 ≤ mm) (fun x => mm - x.1) (0, vv) ?st0 ?rd0
  case st0 => exact ⟨(slotfn [undef, undef, undef, undef, undef, undef, undef, undef, undef, undef, undef, undef, undef, undef, undef, undef, undef, undef, undef, undef, undef, undef, undef, undef, undef, undef, undef, undef, undef, undef, undef, undef, undef, undef, undef, undef, undef, undef]), rfl, ⟨H0.out.1, H0.out.2.cg (pbf_low P n A k)⟩, (show 0 ≤ mm by omega)⟩
  intro x a' w1 hI
  obtain ⟨s0, rfl, hMB, hk0⟩ := hI
  have H1 : Hid (_ ∧ _) := hMB
  clear hMB
  by_cases hltx : x.1 < mm
  · have hrd : True := trivial
    clear hrd
    have hkx : k * x.1 + k ≤ k * mm := by have h := Nat.mul_le_mul_left k (show x.1 + 1 ≤ mm by omega); rw [Nat.mul_succ] at h; exact h
    refine wp_seq ?_
    refine sq_start (l := [0]) rfl ?_
    refine rest_set (d := 14) (v := .bool true) (w' := w1) rfl rfl rfl (by go_simp <;> omega) ?_
    simp only [Act.put, sa, sz, ss]
    refine rest_nil (then_normal ?_)
    refine wp_seq (wp_cond_true rfl ?_)
    refine wp_skip (then_normal ?_)
    refine wp_seq (wp_block (wp_seq ?_))
    refine sq_start (l := [0, 1, 2]) rfl ?_
    refine rest_set (d := 15) (v := PT ga (0 + x.1)) (w' := w1) rfl rfl rfl (ex_ixI (j := x.1) rfl rfl rfl (by omega)) ?_
    simp only [Act.put, sa, sz, ss]
    refine rest_set (d := 16) (v := .int .i64 ((A x.1 : Nat) : Int)) (w' := w1) rfl rfl rfl (ex_loadC H1.out.1 1 rfl rfl rfl Tryz.isAgg3 (by rw [Nat.zero_add]; exact ints_get _ _ (by omega))) ?_
    simp only [Act.put, sa, sz, ss]
    refine rest_set (d := 9) (v := .int .i64 ((A x.1 : Nat) : Int)) (w' := w1) rfl rfl rfl (rfl) ?_
    simp only [Act.put, sa, sz, ss]
    refine rest_nil (then_normal (wp_seq ?_))
    refine sq_start (l := [0, 1, 2, 3]) rfl ?_
    refine rest_set (d := 17) (v := .int .i64 ((k : Nat) : Int)) (w' := w1) rfl rfl rfl (rfl) ?_
    simp only [Act.put, sa, sz, ss]
    refine rest_set (d := 18) (v := .int .i64 ((k - 1 : Nat) : Int)) (w' := w1) rfl rfl rfl (by go_simp; rw [IntKind.wrap_i64]; omega) ?_
    simp only [Act.put, sa, sz, ss]
    refine rest_set (d := 19) (v := .int .i64 (shk k 0)) (w' := w1) rfl rfl rfl (by unfold shk; go_simp; rw [IntKind.wrap_i64]; omega) ?_
    simp only [Act.put, sa, sz, ss]
    refine rest_set (d := 10) (v := .int .i64 (shk k 0)) (w' := w1) rfl rfl rfl (rfl) ?_
    simp only [Act.put, sa, sz, ss]
    refine rest_nil (then_normal (wp_block ?_))
    refine loop_ghost (α := Nat × Value) (fun y a' w' => ∃ s2 : Nat → Value, a' = ⟨#[PT gw 0, .int .i64 ((k : Nat) : Int), .slice q.p q.n q.cp, .slice (some ⟨ga, 0, none⟩) mm mm, undef, undef, undef, undef, undef, .int .i64 ((A x.1 : Nat) : Int), .int .i64 (shk k y.1), .slice (some ⟨ga, 0, none⟩) mm mm, .int .i64 ((mm : Nat) : Int), .int .i64 ((x.1 : Nat) : Int), .bool true, PT ga (0 + x.1), .int .i64 ((A x.1 : Nat) : Int), .int .i64 ((k : Nat) : Int), .int .i64 ((k - 1 : Nat) : Int), .int .i64 (shk k 0), s2 20, s2 21, s2 22, s2 23, s2 24, s2 25, s2 26, s2 27, s2 28, s2 29, s2 30, s2 31, s2 32, s2 33, s2 34, s2 35, s2 36, s0 37, undef, undef, undef, undef, undef, undef, undef, undef, undef], []⟩ ∧ (Mm w' ((gw, [y.2]) :: (ga, ints .i64 A mm) :: lz) ∧ Ow W (gw :: ga :: lz.map Prod.fst) y.2 (n + k * x.1 + y.1) (pbf P n A k) w') ∧ y.1 ≤ k) (fun y => k - y.1) (0, x.2) ?st2 ?rd2
    case st2 => exact ⟨(slotfn [undef, undef, undef, undef, undef, undef, undef, undef, undef, undef, undef, undef, undef, undef, undef, undef, undef, undef, undef, undef, s0 20, s0 21, s0 22, s0 23, s0 24, s0 25, s0 26, s0 27, s0 28, s0 29, s0 30, s0 31, s0 32, s0 33, s0 34, s0 35, s0 36]), rfl, ⟨H1.out.1, H1.out.2⟩, by omega⟩
    intro y a' w2 hI
    obtain ⟨s2, rfl, hMB, hk2⟩ := hI
    have H2 : Hid (_ ∧ _) := hMB
    clear hMB H1
    by_cases hlty : y.1 < k
    · have hrd : True := trivial
      clear hrd
      refine wp_seq (wp_seq ?_)
      refine sq_start (l := [0, 1]) rfl ?_
      refine rest_set (d := 20) (v := .int .i64 (shk k y.1)) (w' := w2) rfl rfl rfl (rfl) ?_
      simp only [Act.put, sa, sz, ss]
      refine rest_set (d := 21) (v := .bool true) (w' := w2) rfl rfl rfl (by unfold shk; go_simp <;> omega) ?_
      simp only [Act.put, sa, sz, ss]
      refine rest_nil (then_normal ?_)
      refine wp_cond_true rfl (wp_skip ?_)
      refine then_normal (wp_seq (wp_block ?_))
      refine walk_value (by kernel_rfl) 10 [0] [.quiet (PT gw 0), .quiet (PT gw 0), .quiet (PT gw 0), .quiet (PT gw 0), .quiet (y.2), .quiet (.int .i64 ((A x.1 : Nat) : Int)), .quiet (.int .i64 (shk k y.1)), .quiet (.int .i64 ((A x.1 / 2 ^ (8 * (k - 1 - y.1)) : Nat) : Int)), .quiet (Z8 (A x.1 / 2 ^ (8 * (k - 1 - y.1)) % 256)), .row (fun g => .slice (some ⟨g, 0, none⟩) 1 1) ([Z8 (A x.1 / 2 ^ (8 * (k - 1 - y.1)) % 256)]) 5] (fun w' => Mm w' ((gw, [y.2]) :: (ga, ints .i64 A mm) :: lz)) ?pre6 ?F6 ?G6 _ 34 ?hpre6 (fun γ => ?hF6) (fun v γ => ?hG6) (by kernel_rfl) rfl ?hL6 ?hS6 ?ho6 (fun v => ?hla6) ?he6
      case hpre6 => simp only [tk, tz]; rfl
      case hF6 => simp only [fill, Kind.val, Act.put, sa, sz, ss]; rfl
      case hG6 => simp only [fill, Kind.val, Act.put, sa, sz, ss]; rfl
      case hL6 => exact trivial
      case hS6 => exact fun w' hb => H2.out.1.below hb
      case ho6 =>
        refine ak (fun _ => ⟨rfl, fun _ _ => rfl⟩) ?_
        refine ak (fun _ => ⟨rfl, fun _ _ => rfl⟩) ?_
        refine ak (by refine fun γ => ⟨rfl, fun w' h => ?_⟩; clear h; go_simp) ?_
        refine ak (by refine fun γ => ⟨rfl, fun w' h => ?_⟩; clear h; go_simp) ?_
        refine ak (fun γ => ⟨rfl, fun w' h => ex_loadC h 0 rfl rfl rfl Tryz.isAgg40 rfl⟩) ?_
        refine ak (fun _ => ⟨rfl, fun _ _ => rfl⟩) ?_
        refine ak (fun _ => ⟨rfl, fun _ _ => rfl⟩) ?_
        refine ak (fun γ => ⟨rfl, fun w' _ => ex_shrS hlty h8 rfl rfl rfl⟩) ?_
        refine ak (fun γ => ⟨rfl, fun w' _ => ex_cvB rfl rfl⟩) ?_
        refine ak (fun γ => ⟨rfl, fun w' => ex_bsB (w := w') rfl rfl⟩) ?_
        exact trivial
      case hla6 => exact ⟨⟨_, _, rfl, rfl, fun γ => ⟨rfl, fun w' => rfl⟩⟩, trivial⟩
      intro γ w3 l hM hl
      have M3 : Mm w3 ((γ 9, [Z8 (A x.1 / 2 ^ (8 * (k - 1 - y.1)) % 256)]) :: (gw, [y.2]) :: (ga, ints .i64 A mm) :: lz) := H2.out.1.grow hM (Nat.le_refl _) hl [9] rfl (by decide)
      have B3 : Ow W (gw :: ga :: lz.map Prod.fst) y.2 (n + k * x.1 + y.1) (pbf P n A k) w3 := Ow.step H2.out.2 (hM.below)
      have o6_9 : Hid (W.heap.size ≤ γ 9) := Nat.le_trans H2.out.2.size (hM.fin (Nat.le_refl _) hl (i := 9) rfl).2.1
      clear hM hl l H2
      generalize γ 9 = γ6_9 at M3 o6_9 ⊢
      clear γ
      have H3 : Hid (_ ∧ _) := ⟨M3, B3⟩
      clear M3 B3
      obtain ⟨v4, w4, hr, hO, hM⟩ := H3.out.2.app H3.out.1.tail rfl (a := ⟨γ6_9, 0, none⟩) 1 1 (fun _ => A x.1 / 2 ^ (8 * (k - 1 - y.1)) % 256) (fun j hj => by rw [add_z]; obtain rfl : j = 0 := (by omega); exact H3.out.1.get 0 rfl 0 rfl) (by omega) 40
      refine ⟨v4, w4, ex_app rfl rfl rfl hr, ?_⟩
      have hO2 := hO.cg (P' := (pbf P n A k)) (fun j hj => ct_snoc (pbf_at P n A hlty).symm (fun _ _ => rfl) j hj)
      have hs1 : Hid _ := own_st1 hO.own
      have H4 : Hid (Mm w4 ((gw, [y.2]) :: (ga, ints .i64 A mm) :: lz) ∧ Ow W (gw :: ga :: lz.map Prod.fst) v4 (n + k * x.1 + y.1 + 1) (pbf P n A k) w4) := ⟨hM, hO2⟩
      clear hr hO hO2 hM H3
      refine rest_at (l := [11, 12, 13]) rfl ?_
      refine rest_set (d := 35) (v := PT gw 0) (w' := w4) rfl rfl rfl (by go_simp) ?_
      simp only [Act.put, sa, sz, ss]
      refine rest_set (d := 36) (v := PT gw 0) (w' := w4) rfl rfl rfl (by go_simp) ?_
      simp only [Act.put, sa, sz, ss]
      refine rest_store rfl rfl rfl (ex_st1 (v := v4) H4.out.1 0 rfl rfl Tryz.sizeOf40 rfl rfl (hs1.out) (Nat.le_of_ble_eq_true rfl)) ?_
      have H5 : Hid (Mm (w4.setCells gw 0 [v4]) ((gw, [v4]) :: (ga, ints .i64 A mm) :: lz) ∧ Ow W (gw :: ga :: lz.map Prod.fst) v4 (n + k * x.1 + y.1 + 1) (pbf P n A k) (w4.setCells gw 0 [v4])) := ⟨H4.out.1.put 0 (off := 0) (vs := [v4]) rfl (Nat.le_of_ble_eq_true rfl), H4.out.2.put (List.mem_cons_self ..) hg.out⟩
      clear H4
      generalize hgw : World.setCells _ _ _ _ = w5 at H5 ⊢
      clear hgw
      refine rest_nil (block_normal (then_normal ?_))
      refine sq_start (l := [0, 1, 2]) rfl ?_
      refine rest_set (d := 22) (v := .int .i64 (shk k y.1)) (w' := w5) rfl rfl rfl (rfl) ?_
      simp only [Act.put, sa, sz, ss]
      refine rest_set (d := 23) (v := .int .i64 (shk k (y.1 + 1))) (w' := w5) rfl rfl rfl (by unfold shk; go_simp; rw [IntKind.wrap_i64]; omega) ?_
      simp only [Act.put, sa, sz, ss]
      refine rest_set (d := 10) (v := .int .i64 (shk k (y.1 + 1))) (w' := w5) rfl rfl rfl (rfl) ?_
      simp only [Act.put, sa, sz, ss]
      refine rest_nil (then_normal ?_)
      exact ⟨(y.1 + 1, v4), ⟨(slotfn [undef, undef, undef, undef, undef, undef, undef, undef, undef, undef, undef, undef, undef, undef, undef, undef, undef, undef, undef, undef, .int .i64 (shk k y.1), .bool true, .int .i64 (shk k y.1), .int .i64 (shk k (y.1 + 1)), PT gw 0, PT gw 0, PT gw 0, PT gw 0, y.2, .int .i64 ((A x.1 : Nat) : Int), .int .i64 (shk k y.1), .int .i64 ((A x.1 / 2 ^ (8 * (k - 1 - y.1)) : Nat) : Int), Z8 (A x.1 / 2 ^ (8 * (k - 1 - y.1)) % 256), .slice (some ⟨γ6_9, 0, none⟩) 1 1, v4, PT gw 0, PT gw 0]), rfl, ⟨H5.out.1, H5.out.2⟩, (show y.1 + 1 ≤ k by omega)⟩, (show k - (y.1 + 1) < k - y.1 by omega)⟩
    have hyN : y.1 = k := by omega
    refine wp_seq (wp_seq ?_)
    refine sq_start (l := [0, 1]) rfl ?_
    refine rest_set (d := 20) (v := .int .i64 (shk k y.1)) (w' := w2) rfl rfl rfl (rfl) ?_
    simp only [Act.put, sa, sz, ss]
    refine rest_set (d := 21) (v := .bool false) (w' := w2) rfl rfl rfl (by unfold shk; go_simp <;> omega) ?_
    simp only [Act.put, sa, sz, ss]
    refine rest_nil (then_normal (wp_cond_false rfl ?_))
    refine wp_exit ?_
    repeat refine then_exit ?_
    refine block_exit ?_
    have H6 : Hid (Mm w2 ((gw, [y.2]) :: (ga, ints .i64 A mm) :: lz) ∧ Ow W (gw :: ga :: lz.map Prod.fst) y.2 (n + k * (x.1 + 1)) (pbf P n A k) w2) := ⟨H2.out.1, by rw [show n + k * (x.1 + 1) = n + k * x.1 + y.1 by rw [Nat.mul_succ, hyN, Nat.add_assoc]]; exact H2.out.2⟩
    clear H2
    refine block_normal (then_normal ?_)
    refine sq_start (l := [0, 1]) rfl ?_
    refine rest_set (d := 37) (v := .int .i64 ((x.1 + 1 : Nat) : Int)) (w' := w2) rfl rfl rfl (by go_simp; rw [IntKind.wrap_i64]; omega) ?_
    simp only [Act.put, sa, sz, ss]
    refine rest_set (d := 13) (v := .int .i64 ((x.1 + 1 : Nat) : Int)) (w' := w2) rfl rfl rfl (rfl) ?_
    simp only [Act.put, sa, sz, ss]
    refine rest_nil (then_normal ?_)
    exact ⟨(x.1 + 1, y.2), ⟨(slotfn [undef, undef, undef, undef, undef, undef, undef, undef, undef, .int .i64 ((A x.1 : Nat) : Int), .int .i64 (shk k y.1), undef, undef, undef, .bool true, PT ga (0 + x.1), .int .i64 ((A x.1 : Nat) : Int), .int .i64 ((k : Nat) : Int), .int .i64 ((k - 1 : Nat) : Int), .int .i64 (shk k 0), .int .i64 (shk k y.1), .bool false, s2 22, s2 23, s2 24, s2 25, s2 26, s2 27, s2 28, s2 29, s2 30, s2 31, s2 32, s2 33, s2 34, s2 35, s2 36, .int .i64 ((x.1 + 1 : Nat) : Int)]), rfl, ⟨H6.out.1, H6.out.2⟩, (show x.1 + 1 ≤ mm by omega)⟩, (show mm - (x.1 + 1) < mm - x.1 by omega)⟩
  have hxN : x.1 = mm := by omega
  refine wp_seq ?_
  refine sq_start (l := [0]) rfl ?_
  refine rest_set (d := 14) (v := .bool false) (w' := w1) rfl rfl rfl (by go_simp <;> omega) ?_
  simp only [Act.put, sa, sz, ss]
  refine rest_nil (then_normal ?_)
  refine wp_seq (wp_cond_false rfl ?_)
  refine wp_exit ?_
  repeat refine then_exit ?_
  refine block_exit ?_
  have H7 : Hid (Mm w1 ((gw, [x.2]) :: (ga, ints .i64 A mm) :: lz) ∧ Ow W (gw :: ga :: lz.map Prod.fst) x.2 (n + k * mm) (pbf P n A k) w1) := ⟨H1.out.1, by rw [← hxN]; exact H1.out.2⟩
  clear H1
  refine then_normal ?_
  refine sq_start (l := [0, 1, 2, 3, 4, 5, 6, 7, 8, 9]) rfl ?_
  refine rest_set (d := 38) (v := PT gw 0) (w' := w1) rfl rfl rfl (rfl) ?_
  simp only [Act.put, sa, sz, ss]
  refine rest_set (d := 39) (v := PT gw 0) (w' := w1) rfl rfl rfl (rfl) ?_
  simp only [Act.put, sa, sz, ss]
  refine rest_set (d := 40) (v := PT gw 0) (w' := w1) rfl rfl rfl (by go_simp) ?_
  simp only [Act.put, sa, sz, ss]
  refine rest_set (d := 41) (v := PT gw 0) (w' := w1) rfl rfl rfl (by go_simp) ?_
  simp only [Act.put, sa, sz, ss]
  refine rest_set (d := 42) (v := x.2) (w' := w1) rfl rfl rfl (ex_loadC H7.out.1 0 rfl rfl rfl Tryz.isAgg40 rfl) ?_
  simp only [Act.put, sa, sz, ss]
  refine rest_set (d := 43) (v := .slice q.p q.n q.cp) (w' := w1) rfl rfl rfl (rfl) ?_
  simp only [Act.put, sa, sz, ss]
  obtain ⟨v8, w8, hr, hO, hM⟩ := H7.out.2.appP H7.out.1 rfl hq.out hqn.out (hqr.out _ H7.out.2.b) (by omega) 40
  have hs1 : Hid _ := own_st1 hO.own
  refine rest_set (d := 44) (v := v8) (w' := w8) rfl rfl rfl (ex_app rfl rfl rfl hr) ?_
  simp only [Act.put, sa, sz, ss]
  have H8 : Hid (Mm w8 ((gw, [x.2]) :: (ga, ints .i64 A mm) :: lz) ∧ Ow W (gw :: ga :: lz.map Prod.fst) v8 (n + k * mm + q.n) (ct (pbf P n A k) (n + k * mm) q.f) w8) := ⟨hM, hO⟩
  clear hr hO hM H7
  refine rest_set (d := 45) (v := PT gw 0) (w' := w8) rfl rfl rfl (by go_simp) ?_
  simp only [Act.put, sa, sz, ss]
  refine rest_set (d := 46) (v := PT gw 0) (w' := w8) rfl rfl rfl (by go_simp) ?_
  simp only [Act.put, sa, sz, ss]
  refine rest_store rfl rfl rfl (ex_st1 (v := v8) H8.out.1 0 rfl rfl Tryz.sizeOf40 rfl rfl (hs1.out) (Nat.le_of_ble_eq_true rfl)) ?_
  have H9 : Hid (Mm (w8.setCells gw 0 [v8]) ((gw, [v8]) :: (ga, ints .i64 A mm) :: lz) ∧ Ow W (gw :: ga :: lz.map Prod.fst) v8 (n + k * mm + q.n) (ct (pbf P n A k) (n + k * mm) q.f) (w8.setCells gw 0 [v8])) := ⟨H8.out.1.put 0 (off := 0) (vs := [v8]) rfl (Nat.le_of_ble_eq_true rfl), H8.out.2.put (List.mem_cons_self ..) hg.out⟩
  clear H8
  generalize hgw : World.setCells _ _ _ _ = w9 at H9 ⊢
  clear hgw
  refine rest_nil ?_
  refine bodyPost_end (v := .tuple #[]) (by simp [results, Tryz.results142, go_sem]) rfl ?_
  exact ⟨rfl, v8, H9.out.2, H9.out.1⟩
end Wi
end Rg
end Go.Proofs.YtmcpagjhpfbpgaaGreatDoor
end
section
namespace Go.Proofs.YtmcpagjhpfbpgaaGreatDoor
open Go.RowKit
namespace Rg
namespace Wi
set_option maxRecDepth 100000
/-- A row of bytes that is written out. -/
def lb (l : List Nat) (j : Nat) : Nat := l.getD j 0
theorem Ow.sub {w w1 : World} {L L' : List Nat} {vv : Value} {n : Nat} {P : Nat → Nat} (h : Ow w L vv n P w1) (hs : ∀ g, g ∈ L' → g ∈ L) : Ow w L' vv n P w1 := ⟨h.b, h.own, fun g hg => h.ne g (hs g hg)⟩
theorem Ow.start {w w1 : World} (hb : Below w.heap.size w w1) (P : Nat → Nat) (L : List Nat) : Ow w L (.slice none 0 0) 0 P w1 := ⟨hb, World.ownsRow_nil _ _ _ _, fun g _ e => by cases e⟩
theorem Ow.made {w w1 : World} {l : List (Nat × List Value)} (hb : Below w.heap.size w w1) (hm : Mm w1 l) (P : Nat → Nat) (c : Nat) (hc : c ≤ maxLen) (cur : Array Value) (hs : cur.size = c * 1) : Ow w (l.map Prod.fst) (.slice (some ⟨w1.heap.size, 0, none⟩) 0 c) 0 P (w1.alloc (.cells cur 5)) :=
  ⟨hb.trans (((Below.refl _ _).alloc (Nat.le_refl _) _).mono hb.size), World.ownsRow_made _ _ _ hb.size hc hs, fun g hg e => by
    obtain ⟨p, hp, e6⟩ := List.mem_map.1 hg
    have := (hm.blk p hp).1
    injection e with e
    simp at e
    omega⟩
theorem Ow.fin {w w1 : World} {L : List Nat} {vv : Value} {n : Nat} {P : Nat → Nat} (h : Ow w L vv n P w1) (hn : 0 < n) : ∃ g x, vv = .slice (some ⟨g, 0, none⟩) n (n + x) ∧ w.heap.size ≤ g ∧ g < w1.heap.size ∧ Blk w1 g (ints .u8 P n) := by
  have ho := h.own
  rcases ho.2 with ⟨_, h2⟩ | ⟨g, cap, cur, h1, h2, h3, h4, _⟩
  · omega
  · subst h1
    refine ⟨g, cap - n, by rw [show n + (cap - n) = cap by omega], h2, (World.ownsRow.lt ho g rfl).2, fun j v hj => ?_⟩
    have hlt : j < n := by
      have := (List.getElem?_eq_some_iff.1 hj).1
      rwa [ints_len] at this
    exact ⟨by rw [ho.cellAt j (by omega)]; exact hj, ho.frozenAt j⟩
def Pt8.no : Pt8 := ⟨0, 0, 0, 0, none, fun _ => 0⟩
theorem Pt8.no_ok : Pok Pt8.no := ⟨Bv.void _ _ _ _ _, Nat.le_refl _⟩
theorem Pt8.no_rs (w : World) : Pt8.no.rs w := Rs.void _ _ _ _
/-- A part that is a block from its beginning. -/
def Pt8.at (g n c : Nat) (f : Nat → Nat) : Pt8 := ⟨g, 0, n, c, some ⟨g, 0, none⟩, f⟩
section
variable {ρ : Operand → Value} {o : Oper} {x y z : Operand} {w : World}
end
end Wi
end Rg
end Go.Proofs.YtmcpagjhpfbpgaaGreatDoor
end
section
namespace Go.Proofs.YtmcpagjhpfbpgaaGreatDoor
open Go.RowKit
namespace Rg
namespace Wi
set_option maxRecDepth 100000
/-- A number's k bytes; fields as one text. -/
def wn (k n : Nat) : List Nat := bs k fun j => n / 2 ^ (8 * (k - 1 - j)) % 256
def wfs (l : List (List Nat)) : List Nat := (l.map fun b => wn 4 b.length ++ b).flatten
def wf (l : List (List Nat)) : List Nat := wn 4 l.length ++ wfs l
theorem bs_put (P f : Nat → Nat) (n k a m : Nat) : bs (n + k * 1 + m) (ct (pbf P n (fun _ => a) k) (n + k * 1) f) = bs n P ++ wn k a ++ bs m f := by
  rw [bs_ct (Nat.le_refl _), List.take_of_length_le (by rw [bs_len]; exact Nat.le_refl _), Nat.mul_one, bs_add]
  congr 2
  · exact bs_cg fun i hi => (pbf_low P n _ k i hi).symm
  · refine bs_cg fun i hi => ?_
    have := pbf_at P n (fun _ => a) (k := k) (i := 0) (j := i) hi
    rwa [Nat.mul_zero, Nat.add_zero] at this
/-- A writer at block gw that has written bytes. -/
def Wt (W : World) (gw : Nat) (l : List Nat) (u : World) : Prop := ∃ vv n P, Ow W [gw] vv n P u ∧ Mm u [(gw, [vv])] ∧ bs n P = l ∧ W.heap.size ≤ gw
theorem Wt.start {W u : World} {vv : Value} {n : Nat} {P : Nat → Nat} (h : Cw W vv n P u) : Wt W u.heap.size (bs n P) (u.alloc (.cells #[vv] 204)) := by
  have h0 : Ow W [] vv n P u := ⟨h.b, h.own, fun g hg => by cases hg⟩
  exact ⟨vv, n, P, h0.alloc _, (Mm.nil u).alloc [vv] 204 rfl, rfl, h.b.size⟩
theorem Wt.below {W u u' : World} {gw : Nat} {l : List Nat} (h : Wt W gw l u) (hb : Below u.heap.size u u') : Wt W gw l u' := by
  obtain ⟨vv, n, P, h1, h2, h3, h4⟩ := h
  exact ⟨vv, n, P, h1.step hb, h2.below hb, h3, h4⟩
theorem Wt.b {W u : World} {gw : Nat} {l : List Nat} (h : Wt W gw l u) : Below W.heap.size W u := by
  obtain ⟨vv, n, P, h1, _⟩ := h
  exact h1.b
theorem Mm.swap2 {w : World} {a b : Nat × List Value} (h : Mm w [a, b]) : Mm w [b, a] := ⟨fun p hp => h.blk p (by rcases List.mem_cons.1 hp with e | e <;> simp_all), by
  have := h.nd
  simp only [List.pairwise_cons, List.mem_singleton, forall_eq, List.not_mem_nil, false_implies, implies_true, List.Pairwise.nil, and_true, and_self] at this ⊢
  exact this.symm⟩
theorem put_more {W u : World} {gw k : Nat} {l : List Nat} (h : Wt W gw l u) (h1 : 1 ≤ k) (h8 : k ≤ 8) (a : Nat) (q : Pt8) (hq : Pok q ∧ (q.p = none → q.cp = 0) ∧ q.rs W) (hb : l.length + k + q.n ≤ 2097152) :
    Calls Tryz.prog 142 #[PT gw 0, .int .i64 ((k : Nat) : Int), .slice q.p q.n q.cp, .slice (some ⟨u.heap.size, 0, none⟩) 1 1] (u.alloc (.cells #[.int .i64 ((a : Nat) : Int)] 3)) fun e w' => e = .returned (.tuple #[]) ∧ Wt W gw (l ++ wn k a ++ bs q.n q.f) w' := by
  obtain ⟨vv, n, P, e1, e2, rfl, e4⟩ := h
  rw [bs_len] at hb
  have m2 : Mm (u.alloc (.cells #[.int .i64 ((a : Nat) : Int)] 3)) [(gw, [vv]), (u.heap.size, ints .i64 (fun _ => a) 1)] := Mm.swap2 (e2.alloc (ints .i64 (fun _ => a) 1) 3 rfl)
  have o2 : Ow W (gw :: u.heap.size :: ([] : List (Nat × List Value)).map Prod.fst) vv n P (u.alloc (.cells #[.int .i64 ((a : Nat) : Int)] 3)) := (e1.alloc _).sub fun g hg => by simp only [List.map_nil, List.mem_cons, List.not_mem_nil, or_false] at hg ⊢; exact hg.symm
  refine (put_old W gw u.heap.size [] vv n P q hq.1 hq.2.1 (fun u' hb' => hq.2.2.keep hb'.size fun h0 => hb'.block _ (hq.2.2.lt h0)) (fun _ => a) 1 k h1 h8 (by decide) (by omega) e4 _ m2 o2).mono fun e w' hh => ?_
  obtain ⟨r1, v', r2, r3⟩ := hh
  refine ⟨r1, v', _, _, r2.sub fun g hg => ?_, r3.sub (by simp), bs_put P q.f n k a q.n, e4⟩
  rw [List.mem_singleton.1 hg]
  exact List.mem_cons_self ..
/-- How many bytes fields have. -/
def fsum (F : Nat → Pt8) : Nat → Nat
  | 0 => 4
  | i + 1 => fsum F i + (4 + (F i).n)
def fls (F : Nat → Pt8) (m : Nat) : List (List Nat) := (List.range m).map fun i => bs (F i).n (F i).f
theorem fls_snoc (F : Nat → Pt8) (m : Nat) : fls F (m + 1) = fls F m ++ [bs (F m).n (F m).f] := by simp [fls, List.range_succ]
theorem fls_len (F : Nat → Pt8) (m : Nat) : (fls F m).length = m := by simp [fls]
theorem wfs_snoc (l : List (List Nat)) (b : List Nat) : wfs (l ++ [b]) = wfs l ++ (wn 4 b.length ++ b) := by simp [wfs]
theorem wn_len (k n : Nat) : (wn k n).length = k := bs_len _ _
theorem fsum_len (F : Nat → Pt8) : ∀ m, 4 + (wfs (fls F m)).length = fsum F m
  | 0 => rfl
  | m + 1 => by
    rw [fls_snoc, wfs_snoc, List.length_append, List.length_append, wn_len, bs_len]
    have := fsum_len F m
    show _ = fsum F m + _
    omega
theorem fsum_mono (F : Nat → Pt8) {i m : Nat} (h : i ≤ m) : fsum F i ≤ fsum F m := by
  induction m with
  | zero => rw [show i = 0 by omega]; exact Nat.le_refl _
  | succ m ih =>
    by_cases e : i = m + 1
    · rw [e]; exact Nat.le_refl _
    · have := ih (by omega)
      show _ ≤ fsum F m + _
      omega
theorem fsum_step (F : Nat → Pt8) (i : Nat) : fsum F (i + 1) = fsum F i + (4 + (F i).n) := rfl
set_option maxHeartbeats 2000000 in
theorem Fields_any (p : Option Addr) (m c g o : Nat) (F : Nat → Pt8) (hm : m ≤ 4096) (hr : fsum F m ≤ 1048576) (w : World) (hl : Lv p g o m F w) :
    Calls Tryz.prog 104 #[.slice p m c] w fun e w' => ∃ v, e = .returned (.tuple #[v, .int .i64 0]) ∧ ∃ N P, Cw w v N P w' ∧ bs N P = wf (fls F m) := by
  have HL : Hid _ := hl
  clear hl
  have hmI : ¬(4096 : Int) < m := by omega
  go_enter Tryz.func104, Tryz.ntmps104
  go_wp2
  go_loopw [4, 15] (fun vr vi wr => ∃ i : Nat, vi = .int .i64 (i : Int) ∧ i ≤ m ∧ vr = .int .i64 ((fsum F i : Nat) : Int) ∧ Below w.heap.size w wr)
    (fun _ vi _ => m - (RowKit.intOf vi).toNat)
  case atStart => exact ⟨0, rfl, Nat.zero_le _, rfl, Below.refl _ _⟩
  case round =>
    obtain ⟨i, rfl, hi, rfl, hb⟩ := hrel
    by_cases hlt : i < m
    · have hL := HL.out.below hb
      have hp := hL.p (by omega)
      have hat := hL.at_ i hlt
      have hltI : (i : Int) < m := by omega
      have hs := fsum_mono F (show i + 1 ≤ m by omega)
      rw [fsum_step] at hs
      have hs2 : fsum F i + (4 + (F i).n) ≤ 1048576 := by omega
      have HS : Hid _ := fsum_step F i
      subst hp
      clear hL hs
      go_wp2
      go_roundw
      case rel => exact ⟨i + 1, by simp, by omega, congrArg (Value.int .i64) (by have := HS.out; omega), hb⟩
      case measure => simp [RowKit.intOf]; omega
    · obtain rfl : i = m := by omega
      obtain ⟨w2, hmk, hcw, hb2⟩ := made_own hb (fsum F i) (by omega)
      have hrI : ¬(1048576 : Int) < (fsum F i : Nat) := by omega
      have HW : Hid _ := Wt.start hcw
      have HB : Hid _ := hb2
      clear hcw hb2
      have hnq : Hid (Pok Pt8.no ∧ (Pt8.no.p = none → Pt8.no.cp = 0) ∧ Pt8.no.rs w) := ⟨Pt8.no_ok, fun _ => rfl, Pt8.no_rs w⟩
      have hsz : (w2.alloc (.cells #[.slice (some ⟨wr.heap.size, 0, none⟩) 0 (fsum F i)] 204)).heap.size = w2.heap.size + 1 := by simp
      have HP := put_more HW.out (k := 4) (by decide) (by decide) i Pt8.no hnq.out (by rw [bs_len]; show 0 + 4 + 0 ≤ _; omega)
      rw [hsz] at HP
      have HP : Hid _ := HP
      go_wp2_with (first
        | (go_at_call 142; refine Calls.mono HP.out ?_; rintro e w5 ⟨rfl, hW5⟩)
        | fail)
      obtain ⟨gw, hgw⟩ : ∃ gw, gw = w2.heap.size := ⟨_, rfl⟩
      rw [← hgw] at hW5 ⊢
      have HF5 : Hid _ := hW5
      clear hgw hW5 HP HW hsz hmk
      go_loopw [36] (fun v wr => ∃ k : Nat, v = .int .i64 (k : Int) ∧ k ≤ i ∧ Hid (Wt w gw (wn 4 i ++ wfs (fls F k)) wr))
        (fun v _ => i - (RowKit.intOf v).toNat)
      case atStart => exact ⟨0, rfl, Nat.zero_le _, Eq.mp (congrArg (fun l => Wt w gw l w5) (by simp [bs, Pt8.no, fls, wfs])) HF5.out⟩
      case round =>
        obtain ⟨k, rfl, hk, hWk⟩ := hrel
        have hbk := hWk.out.b
        have hL := HL.out.below hbk
        by_cases hlt : k < i
        · have hp := hL.p (by omega)
          have hat := hL.at_ k hlt
          have hltI : (k : Int) < i := by omega
          have hs := fsum_mono F (show k + 1 ≤ i by omega)
          rw [fsum_step] at hs
          have hln := fsum_len F k
          have HP := put_more hWk.out (k := 4) (by decide) (by decide) (F k).n (F k) ⟨(HL.out.ok k hlt).1, (HL.out.ok k hlt).2.1, (HL.out.ok k hlt).2.2⟩ (by rw [List.length_append, wn_len]; omega)
          have HP : Hid _ := HP
          subst hp
          clear hL hs hln
          go_wp2_with (first
            | (go_at_call 142; refine Calls.mono HP.out ?_; rintro e w6 ⟨rfl, hW6⟩; have HF6 : Hid _ := hW6; clear hW6)
            | fail)
          go_roundw
          case rel => exact ⟨k + 1, by simp, by omega, Eq.mp (congrArg (fun l => Wt w gw l w6) (by rw [fls_snoc, wfs_snoc, bs_len]; simp only [List.append_assoc])) HF6.out⟩
          case measure => simp [RowKit.intOf]; omega
        · obtain rfl : k = i := by omega
          obtain ⟨vv, N, P, e1, e2, e3, e4⟩ := hWk.out
          have hc := e2.cell (List.mem_cons_self ..) (k := 0) rfl
          have HR : Hid (Cw w vv N P wr ∧ bs N P = wn 4 k ++ wfs (fls F k)) := ⟨⟨e1.b, e1.own⟩, e3⟩
          clear e1 e2 e3 hL hWk
          go_wp2
          go_ret2
          exact ⟨vv, rfl, N, P, HR.out.1, by rw [HR.out.2]; unfold wf; rw [fls_len]⟩
end Wi
end Rg
end Go.Proofs.YtmcpagjhpfbpgaaGreatDoor
end
section
namespace Go.Proofs.YtmcpagjhpfbpgaaGreatDoor
open Go.RowKit
namespace Rg
namespace Wi
set_option maxRecDepth 100000
open Go.Shelf Go.Maps
/-- A map of values by their bytes; N: at most so many keys; Q: where the values' blocks are. -/
def Vb (Q : Nat → Prop) (w : World) (mv : Nat) (B : ByteArray → Option (List Nat)) (N : Nat) : Prop := ∃ V M, Vm w mv V M ∧ M ≤ N ∧ (∀ s, (V s).map (fun x => bs x.n x.P) = B s) ∧ ∀ s x, V s = some x → x.n ≤ 8192 ∧ ∀ b ∈ vbl x.v, Q b
section
variable {Q : Nat → Prop} {w u : World} {mv N : Nat} {B : ByteArray → Option (List Nat)}
theorem Vb.below (h : Vb Q w mv B N) (hb : Below w.heap.size w u) : Vb Q u mv B N := by
  obtain ⟨V, M, h1, h2⟩ := h
  exact ⟨V, M, h1.below hb, h2⟩
theorem Vb.mono {N' : Nat} (h : Vb Q w mv B N) (hN : N ≤ N') : Vb Q w mv B N' := by
  obtain ⟨V, M, h1, h2, h3⟩ := h
  exact ⟨V, M, h1, by omega, h3⟩
theorem Vb.del (h : Vb Q w mv B N) (s : ByteArray) (hs : s.size ≤ maxLen) (ty : TypeId) : ∃ u, (Builtin.delete_ #[46, 9] ty #[.map (some mv), .string s]).run Tryz.prog w = .ok (.tuple #[]) u ∧ Vb Q u mv (fun t => if t = s then none else B t) N ∧ Chg [mv] w u := by
  obtain ⟨V, M, h1, h2, h3, h4⟩ := h
  obtain ⟨X, x1, x2, x3, x4⟩ := h1.mp
  obtain ⟨u, hr, hm, ht⟩ := x1.drop (Maps.string_keyed Tryz.underlying9) Tryz.underlying46 (WideMaps.keyOf_string_mk Tryz.underlying9 hs) ty
  refine ⟨u, hr, ⟨_, _, h1.del s x1 x2 x3 x4 hm ht.grown, ?_, fun t => ?_, fun t x hx => ?_⟩, Chg.grown ht.grown⟩
  · split <;> omega
  · unfold vdel
    by_cases e : t = s
    · simp only [if_pos e]; rfl
    · simp only [if_neg e]; exact h3 t
  · unfold vdel at hx
    split at hx
    · cases hx
    · exact h4 t x hx
theorem del_ty {a b : TypeId} {v k : Value} {w : World} (ty ty' : TypeId) : (Builtin.delete_ #[a, b] ty #[v, k]).run Tryz.prog w = (Builtin.delete_ #[a, b] ty' #[v, k]).run Tryz.prog w := rfl
theorem Vb.delA (h : Vb Q w mv B N) (s : ByteArray) (hs : s.size ≤ maxLen) : ∃ u, (∀ ty, (Builtin.delete_ #[46, 9] ty #[.map (some mv), .string s]).run Tryz.prog w = .ok (.tuple #[]) u) ∧ Vb Q u mv (fun t => if t = s then none else B t) N ∧ Chg [mv] w u := by
  obtain ⟨u, h1, h2⟩ := h.del s hs 0
  exact ⟨u, fun ty => (del_ty ty 0).trans h1, h2⟩
theorem Vb.put (h : Vb Q w mv B N) (s : ByteArray) (hs : s.size ≤ maxLen) (hN : N < maxLen) (v : Value) (n : Nat) (P : Nat → Nat) (hn : n ≤ 8192) (hx : w.ownsRow 0 5 1 v n (ints .u8 P n)) (hb : mv ∉ vbl v) (hQ : ∀ b ∈ vbl v, Q b) : ∃ u, (Instr.mapUpdate 46 (.map (some mv)) (.string s) v).run Tryz.prog w = .ok () u ∧ Vb Q u mv (fun t => if t = s then some (bs n P) else B t) (N + 1) ∧ Chg [mv] w u := by
  obtain ⟨V, M, h1, h2, h3, h4⟩ := h
  obtain ⟨u, hr, hm, hg⟩ := h1.put s hs (Nat.lt_of_le_of_lt h2 hN) ⟨v, n, P⟩ hx hb
  refine ⟨u, hr, ⟨_, _, hm, ?_, fun t => ?_, fun t x hx => ?_⟩, Chg.grown hg⟩
  · split <;> omega
  · unfold vput
    by_cases e : t = s
    · simp only [if_pos e]; rfl
    · simp only [if_neg e]; exact h3 t
  · unfold vput at hx
    split at hx
    · obtain rfl := Option.some.inj hx
      exact ⟨hn, hQ⟩
    · exact h4 t x hx
end
theorem step_del {P : Program} {ops : Array Oper} {o : Oper} {a : Act} {w u : World} {K : Act → World → Prop} {Q : Exit → Act → World → Prop} {E : Prop}
    (hg : o.guard = none) (m x : Operand) (t k : TypeId) (hop : o.op = Op.call { callee := Callee.builtin Builtin.delete, args := #[m, x], argTypes := #[t, k] })
    (mm key : Value) (hm : a.eval m = mm) (hx : a.eval x = key) (hr : ∀ ty, (Builtin.delete_ #[t, k] ty #[mm, key]).run P w = .ok (.tuple #[]) u)
    (hK : K (a.put o.dst (.tuple #[])) u) :
    if Region.wanted o (yielded ops a.tmps) = true then Oper.wp P o a w K Q else E := by
  have hw : Region.wanted o (yielded ops a.tmps) = true := by simp [Region.wanted, hg]
  rw [if_pos hw]
  unfold Oper.wp
  simp [execOp, hop, resolve, invoke, builtin, hm, hx, hr o.type, Result.andThen]
  exact hK
theorem al_new (u : World) (C : Array Value) (T i : Nat) (v : Value) (h0 : C[i]? = some v) : (u.alloc (.cells C T)).cell? ⟨u.heap.size, i, none⟩ = some v := by
  have h := World.alloc_heap_new u (.cells C T)
  unfold World.cell?
  dsimp only
  rw [h]
  simpa using h0
theorem al_old (u : World) (o : Obj) {p : Addr} (hp : p.block < u.heap.size) : (u.alloc o).cell? p = u.cell? p := ((Below.refl _ u).alloc (Nat.le_refl _) o).cell hp
def bdo (B : ByteArray → Option (List Nat)) (C : Nat → Cq) : Nat → ByteArray → Option (List Nat)
  | 0 => B
  | i + 1 => fun s => if s = (C i).k then (if (C i).gn then none else some (bs (C i).q.n (C i).q.f)) else bdo B C i s
set_option maxHeartbeats 2000000 in
theorem do_any (Q : Nat → Prop) (g mv N : Nat) (B : ByteArray → Option (List Nat)) (p : Option Addr) (m c gl o : Nat) (C : Nat → Cq) (hm : m ≤ 64) (hN : N ≤ 1000000) (w : World) (c4 : w.cell? ⟨g, 4, none⟩ = some (.map (some mv))) (hg : g < w.heap.size ∧ g ≠ mv) (hl : Cl p gl o m C w) (hgl : gl ≠ mv) (hC : ∀ i, i < m → Pq (C i).q w ∧ mv ∉ gbl (C i).q ∧ (C i).q.n ≤ 8192 ∧ (C i).k.size ≤ 128) (hV : Vb Q w mv B N) (hmv : mv < w.heap.size) (hQ : ∀ b, w.heap.size ≤ b → Q b) :
    Calls Tryz.prog 48 #[PT g 0, .slice p m c] w fun e w' => e = .returned (.tuple #[]) ∧ Chg [mv] w w' ∧ Vb Q w' mv (bdo B C m) (N + m) := by
  have HL : Hid _ := hl
  have HC : Hid _ := hC
  have HV : Hid _ := hV
  clear hl hC hV
  go_enter Tryz.func48, Tryz.ntmps48
  go_wp2
  go_loopw [8] (fun v wr => ∃ i : Nat, v = .int .i64 (i : Int) ∧ i ≤ m ∧ Hid (Chg [mv] w wr ∧ Vb Q wr mv (bdo B C i) (N + i)))
    (fun v _ => m - (RowKit.intOf v).toNat)
  case atStart => exact ⟨0, rfl, Nat.zero_le _, Chg.refl _ _, HV.out⟩
  case round =>
    obtain ⟨i, rfl, hi, hh⟩ := hrel
    by_cases hlt : i < m
    · have hch := hh.out.1
      have hp := HL.out.p (by omega)
      have hlg := HL.out.lt (by omega)
      have ngl : gl ∉ [mv] := fun e => hgl (List.mem_singleton.1 e)
      have k0 := (hch.cell (p := ⟨gl, o + i * 3, none⟩) hlg ngl).trans (HL.out.a0 i hlt)
      have k1 := (hch.cell (p := ⟨gl, o + i * 3 + 1, none⟩) hlg ngl).trans (HL.out.a1 i hlt)
      have k2 := (hch.cell (p := ⟨gl, o + i * 3 + 2, none⟩) hlg ngl).trans (HL.out.a2 i hlt)
      have k4 := (hch.cell (p := ⟨g, 4, none⟩) hg.1 (fun e => hg.2 (List.mem_singleton.1 e))).trans c4
      have hgw : g < wr.heap.size := Nat.lt_of_lt_of_le hg.1 hch.size
      have hltI : (i : Int) < m := by omega
      obtain ⟨hq, hqm, hqn, hks⟩ := HC.out i hlt
      have hq' : Pq (C i).q wr := hq.kx (M := gbl (C i).q) ⟨hch.size, fun x hx => hch.block x (by
        unfold gbl at hx
        split at hx
        · cases hx
        · obtain rfl := List.mem_singleton.1 hx
          exact hq.2.2.lt (by omega)) (fun e => hqm (by rw [← List.mem_singleton.1 e]; exact hx))⟩ (fun _ hx => hx)
      have HQ : Hid (Pq (C i).q wr) := hq'
      have hmw : mv < wr.heap.size := Nat.lt_of_lt_of_le hmv hch.size
      clear hq hq' hqm
      subst hp
      clear hch
      have hba : Hid (Below wr.heap.size wr (wr.alloc (.cells #[.string (C i).k, .slice (C i).q.p (C i).q.n (C i).q.cp, .bool (C i).gn] 65)).drew) := ((Below.refl _ wr).alloc (Nat.le_refl _) _).drew
      cases hgn : (C i).gn with
      | true =>
        rw [hgn] at k2 hba
        obtain ⟨u9, hr9, hv9, hc9⟩ := (hh.out.2.below hba.out).delA (C i).k (Nat.le_trans hks (by decide))
        have HR : Hid _ := hr9
        have HE : Hid (Chg [mv] w u9 ∧ Vb Q u9 mv (bdo B C (i + 1)) (N + (i + 1))) := ⟨(hh.out.1.below hba.out).trans hc9 (fun x hx => .inl hx), by
          have e : bdo B C (i + 1) = fun t => if t = (C i).k then none else bdo B C i t := by funext t; show (if t = _ then (if (C i).gn then _ else _) else _) = _; rw [hgn]; rfl
          rw [e]
          exact hv9.mono (by omega)⟩
        clear hr9 hv9 hc9
        go_wp2
        go_region_law (refine step_del rfl (.tmp 17) (.tmp 19) 46 9 rfl (.map (some mv)) (.string (C i).k) (by simp [Act.eval]) (by simp [Act.eval]) HR.out ?_)
        all_goals go_wp2
        all_goals exact ⟨⟨i + 1, by simp, by omega, HE⟩, by simp [RowKit.intOf]; omega⟩
      | false =>
        rw [hgn] at k2 hba
        have hb1 : Hid (∀ u1, Below (wr.alloc (.cells #[.string (C i).k, .slice (C i).q.p (C i).q.n (C i).q.cp, .bool false] 65)).drew.heap.size (wr.alloc (.cells #[.string (C i).k, .slice (C i).q.p (C i).q.n (C i).q.cp, .bool false] 65)).drew u1 → Calls Tryz.prog 43 #[.slice (C i).q.p (C i).q.n (C i).q.cp] u1 fun e u2 => Below u1.heap.size u1 u2 ∧ ∃ v u9, e = .returned v ∧ (Instr.mapUpdate 46 (.map (some mv)) (.string (C i).k) v).run Tryz.prog u2 = .ok () u9 ∧ Hid (Chg [mv] w u9 ∧ Vb Q u9 mv (bdo B C (i + 1)) (N + (i + 1)))) := fun u1 hbu => by
          have hb2 := below_on _ _ hba.out hbu
          have hq2 := HQ.out.below hb2
          refine (bclone_any (C i).q (by omega) u1 hq2.1 hq2.2.1 hq2.2.2).mono fun e u2 h2 => ?_
          obtain ⟨v, rfl, hw⟩ := h2
          obtain ⟨u9, hr9, hv9, hc9⟩ := (hh.out.2.below (below_on _ _ hb2 hw.b)).put (C i).k (Nat.le_trans hks (by decide)) (by unfold maxLen; omega) v (C i).q.n (C i).q.f hqn (own_base hw.own (Nat.zero_le _)) (fun hm2 => absurd (hw.lo _ hm2) (by have := hb2.size; omega)) (fun b hb => hQ b (Nat.le_trans hh.out.1.size (Nat.le_trans hb2.size (hw.lo b hb))))
          refine ⟨hw.b, v, u9, rfl, hr9, (hh.out.1.below (below_on _ _ hb2 hw.b)).trans hc9 (fun x hx => .inl hx), ?_⟩
          have e : bdo B C (i + 1) = fun t => if t = (C i).k then some (bs (C i).q.n (C i).q.f) else bdo B C i t := by funext t; show (if t = _ then (if (C i).gn then _ else _) else _) = _; rw [hgn]; rfl
          rw [e]
          exact hv9.mono (by omega)
        have n0 : Hid ((wr.alloc (.cells #[.string (C i).k, .slice (C i).q.p (C i).q.n (C i).q.cp, .bool false] 65)).drew.cell? ⟨wr.heap.size, 0, none⟩ = some (.string (C i).k)) := al_new wr #[.string (C i).k, .slice (C i).q.p (C i).q.n (C i).q.cp, .bool false] 65 0 _ rfl
        have n1 : Hid ((wr.alloc (.cells #[.string (C i).k, .slice (C i).q.p (C i).q.n (C i).q.cp, .bool false] 65)).drew.cell? ⟨wr.heap.size, 1, none⟩ = some (.slice (C i).q.p (C i).q.n (C i).q.cp)) := al_new wr #[.string (C i).k, .slice (C i).q.p (C i).q.n (C i).q.cp, .bool false] 65 1 _ rfl
        have n4 : Hid ((wr.alloc (.cells #[.string (C i).k, .slice (C i).q.p (C i).q.n (C i).q.cp, .bool false] 65)).drew.cell? ⟨g, 4, none⟩ = some (.map (some mv))) := (hba.out.cell (p := ⟨g, 4, none⟩) hgw).trans k4
        have hsz : wr.heap.size < (wr.alloc (.cells #[.string (C i).k, .slice (C i).q.p (C i).q.n (C i).q.cp, .bool false] 65)).drew.heap.size := by show wr.heap.size < (wr.alloc _).heap.size; simp
        have HSZ : Hid _ := hsz
        clear hsz
        go_wp2
        go_region_with (first
          | (go_at_call 57; refine (sclone_any (C i).k (by omega) _).mono ?_; rintro e w1 ⟨rfl, hbw⟩; have d1 := (hbw.cell (p := ⟨wr.heap.size, 1, none⟩) HSZ.out).trans n1.out; have d4 := (hbw.cell (p := ⟨g, 4, none⟩) (Nat.lt_of_lt_of_le hgw hba.out.size)).trans n4.out)
          | (go_at_call 43; refine Calls.mono (hb1.out _ hbw) ?_; rintro e w2 ⟨hbw2, v, u9, rfl, hr9, hE⟩; have d5 := (hbw2.cell (p := ⟨g, 4, none⟩) (Nat.lt_of_lt_of_le hgw (Nat.le_trans hba.out.size hbw.size))).trans d4))
        all_goals go_wp2
        all_goals exact ⟨⟨i + 1, by simp, by omega, hE⟩, by simp [RowKit.intOf]; omega⟩
    · obtain rfl : i = m := by omega
      go_wp2
      refine bodyPost_end (v := .tuple #[]) (by simp [results, Tryz.results48, go_sem]) rfl ?_
      exact ⟨rfl, hh.out⟩
end Wi
end Rg
end Go.Proofs.YtmcpagjhpfbpgaaGreatDoor
end
section
namespace Go.Proofs.YtmcpagjhpfbpgaaGreatDoor
open Go.RowKit
namespace Rg
namespace Wi
set_option maxRecDepth 100000
/-- A change as plain bytes; its fields; the record of changes. -/
structure Ch where
  k : ByteArray
  v : List Nat
  gn : Bool
def kb (s : ByteArray) : List Nat := s.data.toList.map UInt8.toNat
def Ch.fs (c : Ch) : List (List Nat) := [[if c.gn then 1 else 0], kb c.k, c.v]
def rc (l : List Ch) : List Nat := wf (l.flatMap Ch.fs)
def Cq.ch (c : Cq) : Ch := ⟨c.k, bs c.q.n c.q.f, c.gn⟩
def chl (C : Nat → Cq) (m : Nat) : List Ch := (List.range m).map fun i => (C i).ch
theorem chl_snoc (C : Nat → Cq) (m : Nat) : chl C (m + 1) = chl C m ++ [(C m).ch] := by simp [chl, List.range_succ]
theorem chl_len (C : Nat → Cq) (m : Nat) : (chl C m).length = m := by simp [chl]
theorem kb_len (s : ByteArray) : (kb s).length = s.size := by unfold kb; rw [List.length_map, Array.length_toList]; rfl
theorem kb_bs (s : ByteArray) : bs s.size (fun j => (s.data.toList.getD j 0).toNat) = kb s := by
  refine List.ext_getElem? fun i => ?_
  have hl : s.data.toList.length = s.size := by rw [Array.length_toList]; rfl
  by_cases h : i < s.size
  · rw [bs_get _ h]
    unfold kb
    rw [List.getElem?_map, List.getD_eq_getElem?_getD, List.getElem?_eq_getElem (show i < s.data.toList.length by omega)]
    rfl
  · rw [List.getElem?_eq_none (by rw [bs_len]; omega), List.getElem?_eq_none (by rw [kb_len]; omega)]
/-- The bytes of a text. -/
theorem s2p (s : ByteArray) (w : World) : ∃ cap u, (convert 9 40 (.string s)).run Tryz.prog w = .ok (.slice (some ⟨w.heap.size, 0, none⟩) s.size cap) u ∧ s.size ≤ cap ∧ Below w.heap.size w u ∧ u.heap.size = w.heap.size + 1 ∧ Rs w.heap.size 0 s.size (fun j => (s.data.toList.getD j 0).toNat) u := by
  have hr := Go.Lib.run_convert_string_bytes (P := Tryz.prog) w 9 40 5 s Tryz.underlying9 (by kernel_rfl) (by kernel_rfl)
  have hge := grownCap_ge w s.size 0 5
  refine ⟨_, _, hr, hge, ?_, Go.Lib.bytesWorld_size w 5 s, fun _ => by rw [Go.Lib.bytesWorld_size]; omega, fun j hj => ?_⟩
  · exact ⟨rfl, rfl, rfl, by rw [Go.Lib.bytesWorld_size]; omega, fun j hj => Go.Lib.bytesWorld_at_old w 5 s j hj⟩
  · rw [Nat.zero_add]
    exact Go.Lib.bytesWorld_cell w 5 s j hj
/-- A list of the call's own, of parts that lie beside it. -/
structure Rf (w : World) (vv : Value) (n : Nat) (P : Nat → Pt8) (u : World) : Prop where
  b : Below w.heap.size w u
  own : u.ownsRow w.heap.size 40 1 vv n (pcs P n)
  ok : ∀ i, i < n → Pok (P i) ∧ ((P i).p = none → (P i).cp = 0) ∧ (P i).rs u ∧ (0 < (P i).n → (P i).gb ∉ vbl vv)
section
variable {w u u' : World} {vv : Value} {n : Nat} {P : Nat → Pt8}
theorem Rf.step (h : Rf w vv n P u) (hb : Below u.heap.size u u') : Rf w vv n P u' :=
  ⟨h.b.trans (hb.mono h.b.size), own_keep h.own (fun x hx => hb.block x (own_lt h.own x hx)), fun i hi => ⟨(h.ok i hi).1, (h.ok i hi).2.1, (h.ok i hi).2.2.1.below hb, (h.ok i hi).2.2.2⟩⟩
def Bsd (vv : Value) (q : Pt8) (u : World) : Prop := Pok q ∧ (q.p = none → q.cp = 0) ∧ q.rs u ∧ (0 < q.n → q.gb ∉ vbl vv)
theorem Rf.app3 (h : Rf w vv n P u) (hn : n ≤ 1000000) {q1 q2 q3 : Pt8} (h1 : Bsd vv q1 u) (h2 : Bsd vv q2 u) (h3 : Bsd vv q3 u) {gs : Nat} (hs : ∀ j v, [Value.slice q1.p q1.n q1.cp, .slice q2.p q2.n q2.cp, .slice q3.p q3.n q3.cp][j]? = some v → u.cell? ⟨gs, j, none⟩ = some v) (ty : TypeId) :
    ∃ v' u2, (Builtin.append_ #[131, 131] ty #[vv, .slice (some ⟨gs, 0, none⟩) 3 3]).run Tryz.prog u = .ok v' u2 ∧ Rf w v' (n + 3) (upP (upP (upP P n q1) (n + 1) q2) (n + 2) q3) u2 := by
  obtain ⟨i0, hi, hz0, hz1, hz2⟩ := info_sl
  obtain ⟨v', w2, r1, r2, r3, _, r5⟩ := run_append_own_at (P := Tryz.prog) u w.heap.size 131 ty 40 i0 (.slice none 0 0) 1 24 Tryz.underlying131 hi hz0 hz1 hz2 rfl (by decide) vv n _ h.own ⟨gs, 0, none⟩ 3 3 [.slice q1.p q1.n q1.cp, .slice q2.p q2.n q2.cp, .slice q3.p q3.n q3.cp] rfl
    (fun j v hj => by rw [add_z]; exact hs j v hj) (fun v hv => by
      rcases List.mem_cons.1 hv with e | hv
      · rw [e]; rfl
      rcases List.mem_cons.1 hv with e | hv
      · rw [e]; rfl
      · rw [List.mem_singleton.1 hv]; rfl) (by unfold maxLen; omega) (by omega) h.b.size
  have e3 : pcs P n ++ [.slice q1.p q1.n q1.cp, .slice q2.p q2.n q2.cp, .slice q3.p q3.n q3.cp] = pcs (upP (upP (upP P n q1) (n + 1) q2) (n + 2) q3) (n + 3) := by
    rw [← pcs_snoc, ← pcs_snoc, ← pcs_snoc]
    simp
  rw [e3] at r2
  have hc := Chg.grown r3
  have key : ∀ p : Pt8, Bsd vv p u → Bsd v' p w2 := fun p hp => ⟨hp.1, hp.2.1, hp.2.2.1.keep hc.size (fun h0 => hc.block _ (hp.2.2.1.lt h0) (hp.2.2.2 h0)), fun h0 hx => by
    unfold vbl at hx
    rcases r5 with e | e
    · rw [e] at hx; exact hp.2.2.2 h0 hx
    · rw [e] at hx
      have : p.gb = u.heap.size := by simpa using hx
      have := hp.2.2.1.lt h0
      omega⟩
  refine ⟨v', w2, r1, h.b.trans (hc.toBelow (fun x hx => ?_) h.b.size), r2, fun i hi => ?_⟩
  · unfold vbl at hx
    cases hv : vv.ownBlock with
    | none => rw [hv] at hx; simp at hx
    | some k => rw [hv] at hx; simp at hx; subst hx; exact (World.ownsRow.lt h.own _ hv).1
  · unfold upP
    by_cases a3 : i = n + 2
    · rw [if_pos a3]; exact key _ h3
    · rw [if_neg a3]
      by_cases a2 : i = n + 1
      · rw [if_pos a2]; exact key _ h2
      · rw [if_neg a2]
        by_cases a1 : i = n
        · rw [if_pos a1]; exact key _ h1
        · rw [if_neg a1]; exact key _ (h.ok i (by omega))
end
theorem fls_cg {F G : Nat → Pt8} {m : Nat} (h : ∀ i, i < m → bs (F i).n (F i).f = bs (G i).n (G i).f) : fls F m = fls G m := by
  unfold fls
  exact List.map_congr_left fun i hi => h i (List.mem_range.1 hi)
theorem fls_up (F : Nat → Pt8) (m : Nat) (q : Pt8) : fls (upP F m q) (m + 1) = fls F m ++ [bs q.n q.f] := by
  rw [fls_snoc]
  congr 1
  · refine fls_cg fun i hi => ?_
    unfold upP
    rw [if_neg (by omega)]
  · unfold upP
    rw [if_pos rfl]
theorem wpl_app {P : Program} {w u : World} {ops : Array Oper} {rest : List Oper} {o : Oper} {a : Act} {Q : Exit → Act → World → Prop} (hgd : o.guard = none) (s x : Operand) (t : TypeId)
    (ho : o.op = .call { callee := .builtin .append, args := #[s, x], argTypes := #[t, t] }) (v y v' : Value) (hs : a.eval s = v) (hx : a.eval x = y)
    (hr : (Builtin.append_ #[t, t] o.type #[v, y]).run P w = .ok v' u) (h : wpList P ops Q rest (a.put o.dst v') u) : wpList P ops Q (o :: rest) a w :=
  wpList_plain hgd fun _ hK => by
    unfold Oper.wp execOp
    simp only [ho, resolve, invoke, builtin, Sem.run_bind, Sem.run_pure, Result.andThen_ok, List.map_toArray, List.map_cons, List.map_nil, hs, hx, hr]
    exact hK _ _ h
theorem app_ty {t : TypeId} {a b : Value} {w : World} (ty ty' : TypeId) : (Builtin.append_ #[t, t] ty #[a, b]).run Tryz.prog w = (Builtin.append_ #[t, t] ty' #[a, b]).run Tryz.prog w := rfl
theorem fsum_up (F : Nat → Pt8) (m : Nat) (q : Pt8) : fsum (upP F m q) (m + 1) = fsum F m + (4 + q.n) := by
  have e : ∀ k, k ≤ m → fsum (upP F m q) k = fsum F k := fun k => by
    induction k with
    | zero => intro _; rfl
    | succ k ih =>
      intro hk
      rw [fsum_step, fsum_step, ih (by omega)]
      unfold upP
      rw [if_neg (by omega)]
  rw [fsum_step, e m (Nat.le_refl _)]
  unfold upP
  rw [if_pos rfl]
def rowq (g n : Nat) (f : Nat → Nat) : Pt8 := ⟨g, 0, n, n, some ⟨g, 0, none⟩, f⟩
theorem rowq_ok (g n : Nat) (f : Nat → Nat) : Pok (rowq g n f) := ⟨Bv.start _ _ _ _, Nat.le_refl _⟩
theorem rec_step {w wr : World} {vv : Value} {n : Nat} {P : Nat → Pt8} (h : Rf w vv n P wr) (hn : n ≤ 1000000) (q : Pt8) (hq : Pq q w) (k : ByteArray) (b : Bool) (mk : Nat) (mi : Int) (hmi : mi = ((mk : Nat) : Int)) :
    ∃ cap u, (convert 9 40 (.string k)).run Tryz.prog ((wr.alloc (.cells #[.string k, .slice q.p q.n q.cp, .bool b] 65)).alloc (.cells #[.int .u8 mi] 5)) = .ok (.slice (some ⟨wr.heap.size + 1 + 1, 0, none⟩) k.size cap) u ∧ u.cell? ⟨wr.heap.size, 1, none⟩ = some (.slice q.p q.n q.cp) ∧
      ∃ v' u2, (∀ ty, (Builtin.append_ #[131, 131] ty #[vv, .slice (some ⟨u.heap.size, 0, none⟩) 3 3]).run Tryz.prog (u.alloc (.cells #[.slice (some ⟨wr.heap.size + 1, 0, none⟩) 1 1, .slice (some ⟨wr.heap.size + 1 + 1, 0, none⟩) k.size cap, .slice q.p q.n q.cp] 40)) = .ok v' u2) ∧
        ∃ P', Rf w v' (n + 3) P' u2 ∧ fls P' (n + 3) = fls P n ++ [[mk], kb k, bs q.n q.f] ∧ fsum P' (n + 3) = fsum P n + (13 + k.size + q.n) := by
  subst hmi
  have s1 : (wr.alloc (.cells #[.string k, .slice q.p q.n q.cp, .bool b] 65)).heap.size = wr.heap.size + 1 := by simp
  have s2 : ((wr.alloc (.cells #[.string k, .slice q.p q.n q.cp, .bool b] 65)).alloc (.cells #[.int .u8 ((mk : Nat) : Int)] 5)).heap.size = wr.heap.size + 1 + 1 := by simp
  have b1 : Below wr.heap.size wr (wr.alloc (.cells #[.string k, .slice q.p q.n q.cp, .bool b] 65)) := (Below.refl _ wr).alloc (Nat.le_refl _) _
  have b2 : Below wr.heap.size wr ((wr.alloc (.cells #[.string k, .slice q.p q.n q.cp, .bool b] 65)).alloc (.cells #[.int .u8 ((mk : Nat) : Int)] 5)) := b1.alloc (by omega) _
  have n1 := al_new wr #[.string k, .slice q.p q.n q.cp, .bool b] 65 1 _ rfl
  have n2 := al_new (wr.alloc (.cells #[.string k, .slice q.p q.n q.cp, .bool b] 65)) #[.int .u8 ((mk : Nat) : Int)] 5 0 _ rfl
  rw [s1] at n2
  obtain ⟨cap, u, r1, r2, r3, r4, r5⟩ := s2p k ((wr.alloc (.cells #[.string k, .slice q.p q.n q.cp, .bool b] 65)).alloc (.cells #[.int .u8 ((mk : Nat) : Int)] 5))
  rw [s2] at r1 r4 r5
  have b3 : Below wr.heap.size wr u := b2.trans (r3.mono (by omega))
  have b4 : Below u.heap.size u (u.alloc (.cells #[.slice (some ⟨wr.heap.size + 1, 0, none⟩) 1 1, .slice (some ⟨wr.heap.size + 1 + 1, 0, none⟩) k.size cap, .slice q.p q.n q.cp] 40)) := (Below.refl _ u).alloc (Nat.le_refl _) _
  have b5 := below_on _ _ b3 b4
  refine ⟨cap, u, r1, ?_, ?_⟩
  · rw [r3.cell (p := ⟨wr.heap.size, 1, none⟩) (show wr.heap.size < _ by omega), al_old _ _ (show wr.heap.size < _ by omega)]
    exact n1
  have hlo : ∀ x ∈ vbl vv, w.heap.size ≤ x ∧ x < wr.heap.size := fun x hx => ⟨by
    unfold vbl at hx
    cases hv : vv.ownBlock with
    | none => rw [hv] at hx; simp at hx
    | some k => rw [hv] at hx; simp at hx; subst hx; exact (World.ownsRow.lt h.own _ hv).1, own_lt h.own x hx⟩
  have c1 : Bsd vv (rowq (wr.heap.size + 1) 1 (fun _ => mk)) (u.alloc (.cells #[.slice (some ⟨wr.heap.size + 1, 0, none⟩) 1 1, .slice (some ⟨wr.heap.size + 1 + 1, 0, none⟩) k.size cap, .slice q.p q.n q.cp] 40)) := ⟨rowq_ok _ _ _, fun e => (by cases e), ⟨fun _ => by show wr.heap.size + 1 < _; have := b4.size; omega, fun i hi => by
    obtain rfl : i = 0 := by have : i < 1 := hi; omega
    show World.cell? _ ⟨wr.heap.size + 1, 0 + 0, none⟩ = _
    rw [al_old _ _ (show wr.heap.size + 1 < _ by omega), r3.cell (p := ⟨wr.heap.size + 1, 0 + 0, none⟩) (show wr.heap.size + 1 < _ by omega)]
    exact n2⟩, fun _ hx => by have := (hlo _ hx).2; have e : (rowq (wr.heap.size + 1) 1 (fun _ => mk)).gb = wr.heap.size + 1 := rfl; omega⟩
  have c2 : Bsd vv (⟨wr.heap.size + 1 + 1, 0, k.size, cap, some ⟨wr.heap.size + 1 + 1, 0, none⟩, fun j => (k.data.toList.getD j 0).toNat⟩ : Pt8) (u.alloc (.cells #[.slice (some ⟨wr.heap.size + 1, 0, none⟩) 1 1, .slice (some ⟨wr.heap.size + 1 + 1, 0, none⟩) k.size cap, .slice q.p q.n q.cp] 40)) := ⟨⟨Bv.start _ _ _ _, r2⟩, (fun e => by cases e), Rs.below r5 b4, fun _ hx => by have := (hlo _ hx).2; have e : wr.heap.size + 1 + 1 < wr.heap.size := this; omega⟩
  have c3 : Bsd vv q (u.alloc (.cells #[.slice (some ⟨wr.heap.size + 1, 0, none⟩) 1 1, .slice (some ⟨wr.heap.size + 1 + 1, 0, none⟩) k.size cap, .slice q.p q.n q.cp] 40)) := by
    have hw : Below w.heap.size w (u.alloc (.cells #[.slice (some ⟨wr.heap.size + 1, 0, none⟩) 1 1, .slice (some ⟨wr.heap.size + 1 + 1, 0, none⟩) k.size cap, .slice q.p q.n q.cp] 40)) := below_on _ _ h.b b5
    have := hq.below hw
    exact ⟨this.1, this.2.1, this.2.2, fun h0 hx => by have e1 := (hlo _ hx).1; have e2 := hq.2.2.lt h0; omega⟩
  obtain ⟨v', u2, a1, a2⟩ := (h.step b5).app3 hn c1 c2 c3 (gs := u.heap.size) (fun j v hj => al_new u _ 40 j v (by rw [List.getElem?_toArray]; exact hj)) 0
  refine ⟨v', u2, fun ty => (app_ty ty 0).trans a1, _, a2, ?_, ?_⟩
  · rw [fls_up, fls_up, fls_up]
    show fls P n ++ [bs 1 (fun _ => mk)] ++ [bs k.size _] ++ [bs q.n q.f] = _
    rw [kb_bs]
    simp [bs]
  · rw [fsum_up, fsum_up, fsum_up]
    show fsum P n + (4 + 1) + (4 + k.size) + (4 + q.n) = _
    omega
theorem Cl.pq {p : Option Addr} {g o m : Nat} {C : Nat → Cq} {u : World} (h : Cl p g o m C u) {i : Nat} (hi : i < m) : g < u.heap.size := h.lt (by omega)
/-- How many bytes a record has. -/
def rsum (C : Nat → Cq) : Nat → Nat
  | 0 => 4
  | i + 1 => rsum C i + (13 + (C i).k.size + (C i).q.n)
theorem rsum_step (C : Nat → Cq) (i : Nat) : rsum C (i + 1) = rsum C i + (13 + (C i).k.size + (C i).q.n) := rfl
set_option maxHeartbeats 2000000 in
theorem record_any (p : Option Addr) (m c g o : Nat) (C : Nat → Cq) (hm : m ≤ 64) (hr : rsum C m ≤ 1048576) (w : World) (hl : Cl p g o m C w) (hC : ∀ i, i < m → Pq (C i).q w ∧ (C i).k.size ≤ 128) :
    Calls Tryz.prog 46 #[.slice p m c] w fun e w' => ∃ v, e = .returned (.tuple #[v, .int .i64 0]) ∧ ∃ N P, Cw w v N P w' ∧ bs N P = rc (chl C m) := by
  have HL : Hid _ := hl
  have HC : Hid _ := hC
  clear hl hC
  obtain ⟨i0, hi0, hz0, hz1, hz2⟩ := info_sl
  have hmk : ∃ w2, (Instr.makeSlice 131 (.int .i64 0) (.int .i64 (3 * (m : Int)))).run Tryz.prog w = .ok (.slice (some ⟨w.heap.size, 0, none⟩) 0 (3 * m)) w2 ∧ Rf w (.slice (some ⟨w.heap.size, 0, none⟩) 0 (3 * m)) 0 (fun _ => Pt8.no) w2 := by
    obtain ⟨w2, h1, h2, h3⟩ := run_make_own (P := Tryz.prog) w w.heap.size 131 40 i0 (.slice none 0 0) 1 Tryz.underlying131 hi0 hz0 hz1 .i64 .i64 (3 * m) (by rw [hz2]; omega) (by unfold maxLen; omega) (Nat.le_refl _)
    have e : ((3 * m : Nat) : Int) = 3 * (m : Int) := by omega
    rw [e] at h1
    exact ⟨w2, h1, (Chg.grown h3).toBelow (fun x hx => by simp at hx) (Nat.le_refl _), h2, fun i hi => absurd hi (Nat.not_lt_zero _)⟩
  obtain ⟨w2, hmk, hR2⟩ := hmk
  have HR2 : Hid _ := hR2
  clear hR2
  go_enter Tryz.func46, Tryz.ntmps46
  go_wp2
  go_loopw [4, 14] (fun vv v wr => ∃ (i : Nat) (P : Nat → Pt8), v = .int .i64 (i : Int) ∧ i ≤ m ∧ Hid (Rf w vv (3 * i) P wr ∧ fls P (3 * i) = (chl C i).flatMap Ch.fs ∧ fsum P (3 * i) = rsum C i))
    (fun _ v _ => m - (RowKit.intOf v).toNat)
  case atStart => exact ⟨0, _, rfl, Nat.zero_le _, HR2.out, rfl, rfl⟩
  case round =>
    obtain ⟨i, P, rfl, hi, hh⟩ := hrel
    have hb := hh.out.1.b
    by_cases hlt : i < m
    · have hL := HL.out.below hb
      have hp := hL.p (by omega)
      have k0 := hL.a0 i hlt
      have k1 := hL.a1 i hlt
      have k2 := hL.a2 i hlt
      have hltI : (i : Int) < m := by omega
      have hks := (HC.out i hlt).2
      subst hp
      clear hL
      cases hgn : (C i).gn with
      | true =>
        rw [hgn] at k2
        obtain ⟨cap, u, hcv, hld, v', u2, hap, P', hR', hf', hs'⟩ := rec_step hh.out.1 (by omega) (C i).q (HC.out i hlt).1 (C i).k true 1 1 rfl
        have HA : Hid _ := hap
        have HF : Hid (Rf w v' (3 * (i + 1)) P' u2 ∧ fls P' (3 * (i + 1)) = (chl C (i + 1)).flatMap Ch.fs ∧ fsum P' (3 * (i + 1)) = rsum C (i + 1)) := ⟨hR', by
          rw [show 3 * (i + 1) = 3 * i + 3 by omega, hf', hh.out.2.1, chl_snoc, List.flatMap_append]
          congr 1
          unfold Ch.fs Cq.ch
          simp [hgn], by rw [show 3 * (i + 1) = 3 * i + 3 by omega, hs', hh.out.2.2, rsum_step]⟩
        clear hap hR' hf' hs' hh
        go_wp2_with (first
          | (at_builtin; refine wpl_app rfl _ _ 131 rfl u4 (.slice (some ⟨u.heap.size, 0, none⟩) 3 3) v' rfl rfl (HA.out _) ?_)
          | fail)
        go_roundw
        case rel => exact ⟨i + 1, P', by simp, by omega, HF⟩
        case measure => simp [RowKit.intOf]; omega
      | false =>
        rw [hgn] at k2
        obtain ⟨cap, u, hcv, hld, v', u2, hap, P', hR', hf', hs'⟩ := rec_step hh.out.1 (by omega) (C i).q (HC.out i hlt).1 (C i).k false 0 0 rfl
        have HA : Hid _ := hap
        have HF : Hid (Rf w v' (3 * (i + 1)) P' u2 ∧ fls P' (3 * (i + 1)) = (chl C (i + 1)).flatMap Ch.fs ∧ fsum P' (3 * (i + 1)) = rsum C (i + 1)) := ⟨hR', by
          rw [show 3 * (i + 1) = 3 * i + 3 by omega, hf', hh.out.2.1, chl_snoc, List.flatMap_append]
          congr 1
          unfold Ch.fs Cq.ch
          simp [hgn], by rw [show 3 * (i + 1) = 3 * i + 3 by omega, hs', hh.out.2.2, rsum_step]⟩
        clear hap hR' hf' hs' hh
        go_wp2_with (first
          | (at_builtin; refine wpl_app rfl _ _ 131 rfl u4 (.slice (some ⟨u.heap.size, 0, none⟩) 3 3) v' rfl rfl (HA.out _) ?_)
          | fail)
        go_roundw
        case rel => exact ⟨i + 1, P', by simp, by omega, HF⟩
        case measure => simp [RowKit.intOf]; omega
    · obtain rfl : i = m := by omega
      obtain ⟨pl, cl, gl, rfl, hlv⟩ := Lq.lv (B := 0) (P := P) ⟨own_base hh.out.1.own (Nat.zero_le _), fun j hj => ⟨(hh.out.1.ok j hj).1, (hh.out.1.ok j hj).2.1, (hh.out.1.ok j hj).2.2.1, fun _ => Nat.zero_le _⟩⟩
      have HFi : Hid _ := Fields_any pl (3 * i) cl gl 0 P (by omega) (by rw [hh.out.2.2]; exact hr) wr hlv
      have HF : Hid _ := hh.out.2.1
      clear hlv hh
      go_wp2_with (first
        | (go_at_call 104; refine Calls.mono HFi.out ?_; rintro e w5 ⟨v, rfl, N, Q, hcw, hbs⟩)
        | fail)
      go_ret2
      exact ⟨v, rfl, N, Q, Cw.up hb hcw, by rw [hbs, HF.out]; rfl⟩
end Wi
end Rg
end Go.Proofs.YtmcpagjhpfbpgaaGreatDoor
end
section
namespace Go.Proofs.YtmcpagjhpfbpgaaGreatDoor
open Go.RowKit
namespace Rg
namespace Wi
set_option maxRecDepth 100000
open Go.Shelf Go.Maps
/-- How a change reads in a map: its shape alone. -/
def RC : Value → Option (DataW Nat × List MemPlace)
  | .agg ⟨[.string _, .slice _ _ _, .bool _]⟩ => some (.nil, [])
  | _ => none
/-- A change's value. -/
structure Cv where
  k : ByteArray
  p : Option Addr
  n : Nat
  c : Nat
  g : Bool
def cqv (c : Cv) : Value := .agg #[.string c.k, .slice c.p c.n c.c, .bool c.g]
theorem RC_cqv (c : Cv) : RC (cqv c) = some (.nil, []) := rfl
theorem RC_inv (v : Value) (y : DataW Nat × List MemPlace) (h : RC v = some y) : ∃ c, v = cqv c := by
  unfold RC at h
  split at h
  · exact ⟨⟨_, _, _, _, _⟩, rfl⟩
  · cases h
theorem mk165 (u : World) : (Instr.makeMap 165 none).run Tryz.prog u = .ok (.map (some u.heap.size)) (u.alloc (.map #[] 0)) := by
  simp [run_makeMap]
theorem ranges_kc {w w' : World} {b r n cnt : Nat} {D : DataW Nat} {left : Lit → Bool} (h : w.ranges Tryz.prog 9 RC b r n D left cnt) (hb : w'.heap[b]? = w.heap[b]?) (hr : w'.heap[r]? = w.heap[r]?) : w'.ranges Tryz.prog 9 RC b r n D left cnt := by
  obtain ⟨es, clock, since, seen, c0, h1, F, hs, hD, h2, rest⟩ := h
  exact ⟨es, clock, since, seen, c0, hb.trans h1, F, hs, hD, hr.trans h2, rest⟩
set_option maxHeartbeats 2000000 in
theorem count_any (g mv N : Nat) (V : ByteArray → Option Vq) (p : Option Addr) (m c gl o : Nat) (C : Nat → Cq) (hm : m ≤ 64) (hN : N ≤ 4000) (w : World) (c4 : w.cell? ⟨g, 4, none⟩ = some (.map (some mv))) (hg : g < w.heap.size) (hl : Cl p gl o m C w) (hV : Vm w mv V N) (hk : ∀ i, i < m → (C i).k.size ≤ 128) :
    Calls Tryz.prog 45 #[PT g 0, .slice p m c] w fun e w' => (∃ n : Int, e = .returned (.int .i64 n) ∧ ¬4096 < n) ∧ Below w.heap.size w w' := by
  have HL : Hid _ := hl
  have HV : Hid _ := hV
  clear hl hV
  have K : Keyed Tryz.prog 9 := Maps.string_keyed Tryz.underlying9
  go_enter Tryz.func45, Tryz.ntmps45
  go_wp2
  rw [mk165, Result.andThen_ok]
  go_wp2
  go_loopw [16] (fun v wr => ∃ i X, v = .int .i64 ((i : Nat) : Int) ∧ i ≤ m ∧ Hid (Below w.heap.size w wr ∧ wr.ownsMap Tryz.prog 9 RC w.heap.size i X ∧ Maps.size X ≤ i))
    (fun v _ => m - (RowKit.intOf v).toNat)
  case atStart => exact ⟨0, _, rfl, Nat.zero_le _, (Below.refl _ w).alloc (Nat.le_refl _) _, World.ownsMap_made _ _ _ _, Nat.le_refl _⟩
  case round =>
    obtain ⟨i, X, rfl, hi, hh⟩ := hrel
    by_cases hlt : i < m
    · have hL := HL.out.below hh.out.1
      have hp := hL.p (by omega)
      have k0 := hL.a0 i hlt
      have k1 := hL.a1 i hlt
      have k2 := hL.a2 i hlt
      have hltI : (i : Int) < m := by omega
      have hks := hk i hlt
      subst hp
      clear hL
      have hup : ∃ u, (Instr.mapUpdate 165 (.map (some w.heap.size)) (.string (C i).k) (.agg #[.string (C i).k, .slice (C i).q.p (C i).q.n (C i).q.cp, .bool (C i).gn])).run Tryz.prog (wr.alloc (.cells #[.string (C i).k, .slice (C i).q.p (C i).q.n (C i).q.cp, .bool (C i).gn] 65)) = .ok () u ∧ ∃ X', Below w.heap.size w u ∧ u.ownsMap Tryz.prog 9 RC w.heap.size (i + 1) X' ∧ Maps.size X' ≤ i + 1 := by
        obtain ⟨h1, h2, h3⟩ := hh.out
        have h2' := ownMap_keep h2 (((Below.refl _ wr).alloc (Nat.le_refl _) (.cells #[.string (C i).k, .slice (C i).q.p (C i).q.n (C i).q.cp, .bool (C i).gn] 65)).block _ h2.lt)
        obtain ⟨u, r1, r2, r3⟩ := h2'.update K Tryz.underlying165 (show i < maxLen by unfold maxLen; omega) (WideMaps.keyOf_string_mk Tryz.underlying9 (Nat.le_trans hks (by decide))) (RC_cqv ⟨(C i).k, (C i).q.p, (C i).q.n, (C i).q.cp, (C i).gn⟩)
        refine ⟨u, r1, _, ?_, r2, ?_⟩
        · have hb2 := below_on _ _ h1 ((Below.refl _ wr).alloc (Nat.le_refl _) (.cells #[.string (C i).k, .slice (C i).q.p (C i).q.n (C i).q.cp, .bool (C i).gn] 65))
          exact hb2.trans ((Chg.grown r3).toBelow (fun x hx => by simp at hx; omega) hb2.size)
        · rw [Maps.size_put (h2.tidy K)]
          split <;> omega
      obtain ⟨u, hr, X', hX'⟩ := hup
      have HX : Hid _ := hX'
      clear hX' hh
      go_wp2
      go_roundw
      case rel => exact ⟨i + 1, X', by simp, by omega, HX⟩
      case measure => simp [RowKit.intOf]; omega
    · obtain rfl : i = m := by omega
      have HB : Hid _ := hh.out.1
      have hown := hh.out.2.1
      have hsz := hh.out.2.2
      have k4 := (HB.out.cell (p := ⟨g, 4, none⟩) hg).trans c4
      clear hh
      have hVl := Vm.len (HV.out.below HB.out)
      go_wp2_with (first
        | (at_range; refine wpList_range_own _ rfl _ 165 rfl 9 65 K Tryz.underlying165 RC w.heap.size i X rfl hown ?_; intro w0 hrg0 hg0 hs0)
        | fail)
      clear hVl
      go_frame
      have hB0 : Hid (Below w.heap.size w w0) := HB.out.trans ((Chg.grown hg0).toBelow (fun x hx => by simp at hx) HB.out.size)
      obtain ⟨r, hrr⟩ : ∃ r, r = wr.heap.size := ⟨_, rfl⟩
      have hlt0 : w.heap.size ≤ r := by rw [hrr]; exact HB.out.size
      rw [← hrr] at hrg0 ⊢
      clear hrr
      go_loopw [8] (fun v wr2 => ∃ (z : Int) (left : Lit → Bool) (cnt : Nat), v = .int .i64 z ∧ z ≤ (N : Int) + i - cnt ∧ (cnt : Int) - i ≤ z ∧ cnt ≤ i ∧ wr2.ranges Tryz.prog 9 RC w.heap.size r i X left cnt ∧ Hid (Below w.heap.size w wr2))
        (fun _ wr2 => wr2.rangeLeft w.heap.size r)
      case atStart => exact ⟨(N : Int), _, _, rfl, by omega, by omega, hsz, hrg0, hB0.out⟩
      case round =>
        obtain ⟨z, left, cnt, rfl, hz1, hz2, hcn, hrg, hb⟩ := hrel
        go_wp2_with (first
          | (at_next; refine wpList_next_ranges _ rfl _ rfl 9 K RC Value.string cqv (fun key kl h => (key_string h).imp fun _ q => q.1) RC_inv w.heap.size r i X _ _ rfl hrg ?_ ?_)
          | fail)
        · intro _ hl0
          go_wp2
          go_ret
          exact ⟨⟨z, rfl, by omega⟩, hb.out⟩
        · intro x c kl yd yp w1 cnt1 hkey hlx hv hat hrg1 hlt hg1 hs1 hen
          obtain ⟨ck, cp, cn, cc, cg⟩ := c
          have hb1 : Hid (Below w.heap.size w w1) := hb.out.trans ((Chg.grown hg1).toBelow (fun x hx => by simp at hx; omega) hb.out.size)
          have hxs : x.size ≤ maxLen := by obtain ⟨s, e1, _, e3⟩ := key_string hkey; cases e1; exact e3
          unfold cqv at hen
          have k4 := (hb1.out.cell (p := ⟨g, 4, none⟩) hg).trans c4
          have hgw : g < wr.heap.size := by rw [← hs1]; exact Nat.lt_of_lt_of_le hg hb1.out.size
          have hB2 : Hid (Below w1.heap.size w1 (w1.alloc (.cells #[.string ck, .slice cp cn cc, .bool cg] 65))) := (Below.refl _ w1).alloc (Nat.le_refl _) _
          have hlk := (HV.out.below (below_on _ _ hb1.out hB2.out)).lookok x hxs
          have hrg2 : Hid ((w1.alloc (.cells #[.string ck, .slice cp cn cc, .bool cg] 65)).ranges Tryz.prog 9 RC w.heap.size r i X (fun z => left z && !z.sameKey kl) cnt1) := ranges_kc hrg1 (hB2.out.block _ hrg1.owns.lt) (hB2.out.block _ hrg1.lt)
          have hB3 : Hid (Below w.heap.size w (w1.alloc (.cells #[.string ck, .slice cp cn cc, .bool cg] 65))) := below_on _ _ hb1.out hB2.out
          have hms : Hid ((w1.alloc (.cells #[.string ck, .slice cp cn cc, .bool cg] 65)).rangeLeft w.heap.size r < wr.rangeLeft w.heap.size r) := show _ < _ by rw [hrg2.out.left_eq, hrg.left_eq]; exact hlt
          clear hB2 hb1 hv hat
          generalize hvv : vvl (V x) = vv at hlk
          cases hV : (V x).isSome <;> rw [hV] at hlk <;> cases cg
          all_goals go_wp2
          all_goals go_roundw
          all_goals (first
            | exact hms.out
            | exact ⟨_, _, cnt1, rfl, by omega, by omega, by omega, hrg2.out, hB3⟩
           )
end Wi
end Rg
end Go.Proofs.YtmcpagjhpfbpgaaGreatDoor
end
section
namespace Go.Proofs.YtmcpagjhpfbpgaaGreatDoor
open Go.RowKit
namespace Rg
namespace Wi
set_option maxRecDepth 100000
theorem Vb.keep {Q : Nat → Prop} {u u' : World} {mv N : Nat} {B : ByteArray → Option (List Nat)} (h : Vb Q u mv B N) (hm : u'.heap[mv]? = u.heap[mv]?) (hQ : ∀ b, Q b → u'.heap[b]? = u.heap[b]?) : Vb Q u' mv B N := by
  obtain ⟨V, M, h1, h2, h3, h4⟩ := h
  exact ⟨V, M, h1.keep hm fun s x hx b hb => hQ b ((h4 s x hx).2 b hb), h2, h3, h4⟩
theorem Vb.wide {Q Q' : Nat → Prop} {u : World} {mv N : Nat} {B : ByteArray → Option (List Nat)} (h : Vb Q u mv B N) (hQ : ∀ b, Q b → Q' b) : Vb Q' u mv B N := by
  obtain ⟨V, M, h1, h2, h3, h4⟩ := h
  exact ⟨V, M, h1, h2, h3, fun s x hx => ⟨(h4 s x hx).1, fun b hb => hQ b ((h4 s x hx).2 b hb)⟩⟩
theorem Vb.lt {Q : Nat → Prop} {u : World} {mv N : Nat} {B : ByteArray → Option (List Nat)} (h : Vb Q u mv B N) : mv < u.heap.size := by
  obtain ⟨V, M, h1, _⟩ := h
  exact h1.lt
/-- A store but its log, on a disk that reads as A; O: its own blocks; L: blocks beside it. -/
structure Sy (w0 : World) (d : Nat) (A : Ad) (g mv : Nat) (base : ByteArray) (G : Int) (B : ByteArray → Option (List Nat)) (N : Nat) (O L : List Nat) (u : World) : Prop where
  da : Da w0 d A (O ++ L) u
  c0 : u.cell? ⟨g, 0, none⟩ = some (PT d 0)
  c1 : u.cell? ⟨g, 1, none⟩ = some (.string base)
  c3 : u.cell? ⟨g, 3, none⟩ = some (.int .i64 G)
  c4 : u.cell? ⟨g, 4, none⟩ = some (.map (some mv))
  fz : ∀ k, u.frozen? ⟨g, k, none⟩ = false
  vb : Vb (fun b => b ∈ O) u mv B N
  lo : ∀ x ∈ O, w0.heap.size ≤ x
  og : g ∈ O
  om : mv ∈ O
  gm : g ≠ mv
  ap : ∀ x ∈ O, x ∉ L
section
variable {w0 u u' : World} {d g mv N : Nat} {A A' : Ad} {base : ByteArray} {G : Int} {B : ByteArray → Option (List Nat)} {O L : List Nat}
theorem Sy.gl (h : Sy w0 d A g mv base G B N O L u) : g < u.heap.size := h.da.lt (List.mem_append_left _ h.og)
/-- Where its own blocks are as they were. -/
theorem Sy.kx (h : Sy w0 d A g mv base G B N O L u) (ha : Da w0 d A' (O ++ L) u') (hk : Kx O u u') : Sy w0 d A' g mv base G B N O L u' := by
  have hg : ∀ k, u'.cell? ⟨g, k, none⟩ = u.cell? ⟨g, k, none⟩ := fun k => World.cell?_of_block (hk.2 g h.og)
  exact ⟨ha, (hg 0).trans h.c0, (hg 1).trans h.c1, (hg 3).trans h.c3, (hg 4).trans h.c4, fun k => (World.frozen?_of_block (hk.2 g h.og)).trans (h.fz k), h.vb.keep (hk.2 mv h.om) fun b hb => hk.2 b hb, h.lo, h.og, h.om, h.gm, h.ap⟩
theorem Sy.below (h : Sy w0 d A g mv base G B N O L u) (hb : Below u.heap.size u u') : Sy w0 d A g mv base G B N O L u' ∧ Kx L u u' :=
  ⟨h.kx (h.da.step hb) ((h.da.kx hb).sub fun _x hx => List.mem_append_left _ hx), (h.da.kx hb).sub fun _x hx => List.mem_append_right _ hx⟩
theorem Sy.mono (h : Sy w0 d A g mv base G B N O L u) {N' : Nat} (h2 : N ≤ N') : Sy w0 d A g mv base G B N' O L u :=
  ⟨h.da, h.c0, h.c1, h.c3, h.c4, h.fz, h.vb.mono h2, h.lo, h.og, h.om, h.gm, h.ap⟩
theorem Sy.sub (h : Sy w0 d A g mv base G B N O L u) {L' : List Nat} (hs : ∀ x ∈ L', x ∈ L) : Sy w0 d A g mv base G B N O L' u :=
  ⟨h.da.sub fun x hx => List.mem_append.2 ((List.mem_append.1 hx).imp_right (hs x)), h.c0, h.c1, h.c3, h.c4, h.fz, h.vb, h.lo, h.og, h.om, h.gm, fun x hx hm => h.ap x hx (hs x hm)⟩
/-- New blocks beside it. -/
theorem Sy.add (h : Sy w0 d A g mv base G B N O L u) (hb : Below u.heap.size u u') {M : List Nat} (hn : ∀ x ∈ M, u.heap.size ≤ x ∧ x < u'.heap.size) : Sy w0 d A g mv base G B N O (M ++ L) u' := by
  have h1 := (h.below hb).1
  refine ⟨(h.da.add hb hn).sub fun x hx => ?_, h1.c0, h1.c1, h1.c3, h1.c4, h1.fz, h1.vb, h1.lo, h1.og, h1.om, h1.gm, fun x hx hm => ?_⟩
  · simp only [List.mem_append] at hx ⊢
    rcases hx with e | e | e
    · exact .inr (.inl e)
    · exact .inl e
    · exact .inr (.inr e)
  · rcases List.mem_append.1 hm with e | e
    · have := (hn x e).1
      have := h.da.lt (List.mem_append_left _ hx)
      omega
    · exact h.ap x hx e
/-- What do changes. -/
theorem Sy.did (h : Sy w0 d A g mv base G B N O L u) (hc : Chg [mv] u u') {B' : ByteArray → Option (List Nat)} {N' : Nat} (hv : Vb (fun b => b ∈ O ∨ u.heap.size ≤ b) u' mv B' N') : (∃ O', Sy w0 d A g mv base G B' N' O' L u') ∧ Kx L u u' := by
  have hgm : g ∉ [mv] := fun e => h.gm (List.mem_singleton.1 e)
  have hg : ∀ k, u'.cell? ⟨g, k, none⟩ = u.cell? ⟨g, k, none⟩ := fun k => hc.cell (p := ⟨g, k, none⟩) h.gl hgm
  have hlo0 : w0.heap.size ≤ u.heap.size := h.da.b.size
  have hmlo : ∀ x ∈ [mv], w0.heap.size ≤ x := fun x hx => by rw [List.mem_singleton.1 hx]; exact h.lo _ h.om
  have hkx : Kx L u u' := hc.kx (fun x hx => h.da.lt (List.mem_append_right _ hx)) (fun x hx hm => h.ap mv h.om (by rw [← List.mem_singleton.1 hm]; exact hx))
  obtain ⟨V, M, v1, v2, v3, v4⟩ := hv
  have hda : Da w0 d A ((O ++ List.range' u.heap.size (u'.heap.size - u.heap.size)) ++ L) u' := by
    obtain ⟨D, h1, h2, h3, h4⟩ := h.da
    refine ⟨D, ⟨h1.b.trans (hc.toBelow hmlo h1.b.size), h1.dk.chg hc fun x hx => by rw [List.mem_singleton.1 hx]; exact (h4 _ (List.mem_append_left _ h.om)).2, h1.lo⟩, h2, h3, fun x hx => ?_⟩
    have key : x ∈ O ++ L ∨ (u.heap.size ≤ x ∧ x < u'.heap.size) := by
      simp only [List.mem_append, List.mem_range'_1] at hx ⊢
      have := hc.size
      rcases hx with (e | e) | e
      · exact .inl (.inl e)
      · exact .inr (by omega)
      · exact .inl (.inr e)
    rcases key with e | ⟨e1, e2⟩
    · exact ⟨Nat.lt_of_lt_of_le (h4 x e).1 hc.size, (h4 x e).2⟩
    · exact ⟨e2, fun hm => absurd (h1.dk.blt x hm) (Nat.not_lt.2 e1)⟩
  refine ⟨⟨O ++ List.range' u.heap.size (u'.heap.size - u.heap.size), hda, (hg 0).trans h.c0, (hg 1).trans h.c1, (hg 3).trans h.c3, (hg 4).trans h.c4, fun k => (hc.frozen (p := ⟨g, k, none⟩) h.gl hgm).trans (h.fz k), ⟨V, M, v1, v2, v3, fun t x hx => ⟨(v4 t x hx).1, fun b hb => ?_⟩⟩, fun x hx => ?_, List.mem_append_left _ h.og, List.mem_append_left _ h.om, h.gm, fun x hx hm => ?_⟩, hkx⟩
  · have hlt := own_lt (v1.ow t x hx) b hb
    rcases (v4 t x hx).2 b hb with e | e
    · exact List.mem_append_left _ e
    · refine List.mem_append_right _ ?_
      rw [List.mem_range'_1]
      omega
  · rcases List.mem_append.1 hx with e | e
    · exact h.lo _ e
    · rw [List.mem_range'_1] at e
      omega
  · rcases List.mem_append.1 hx with e | e
    · exact h.ap _ e hm
    · rw [List.mem_range'_1] at e
      have := h.da.lt (List.mem_append_right _ hm)
      omega
end
/-- A store on a disk that reads as A; s: its log's name; L0: blocks beside it. -/
def So (w0 : World) (d : Nat) (A : Ad) (g j mv : Nat) (base s : ByteArray) (G : Int) (nb : Nat) (B : ByteArray → Option (List Nat)) (N : Nat) (L0 : List Nat) (u : World) : Prop :=
  (∃ O, Sy w0 d A g mv base G B N O (j :: L0) u) ∧ u.cell? ⟨g, 2, none⟩ = some (PT j 0) ∧ (∃ c z, c ≤ nb ∧ z ≤ nb ∧ Mm u [(j, jc d s c z)]) ∧ w0.heap.size ≤ j ∧ j ∉ L0
section
variable {w0 u u' : World} {d g j mv nb N : Nat} {A A' : Ad} {base s : ByteArray} {G : Int} {B : ByteArray → Option (List Nat)} {L0 : List Nat}
theorem So.da (h : So w0 d A g j mv base s G nb B N L0 u) : Da w0 d A L0 u := by
  obtain ⟨⟨O, h1⟩, _⟩ := h
  exact h1.da.sub fun x hx => List.mem_append_right _ (List.mem_cons_of_mem _ hx)
theorem So.below (h : So w0 d A g j mv base s G nb B N L0 u) (hb : Below u.heap.size u u') : So w0 d A g j mv base s G nb B N L0 u' ∧ Kx L0 u u' := by
  obtain ⟨⟨O, h1⟩, h2, ⟨c, z, h3, h4, h5⟩, h6, h7⟩ := h
  exact ⟨⟨⟨O, (h1.below hb).1⟩, (hb.cell (p := ⟨g, 2, none⟩) h1.gl).trans h2, ⟨c, z, h3, h4, h5.below hb⟩, h6, h7⟩, (h1.below hb).2.sub fun x hx => List.mem_cons_of_mem _ hx⟩
theorem So.mono (h : So w0 d A g j mv base s G nb B N L0 u) {nb' N' : Nat} (h1 : nb ≤ nb') (h2 : N ≤ N') : So w0 d A g j mv base s G nb' B N' L0 u := by
  obtain ⟨⟨O, k1⟩, k2, ⟨c, z, k3, k4, k5⟩, k6⟩ := h
  exact ⟨⟨O, k1.mono h2⟩, k2, ⟨c, z, by omega, by omega, k5⟩, k6⟩
theorem So.dj (h : So w0 d A g j mv base s G nb B N L0 u) : ∃ O, Da w0 d A (j :: (O ++ L0)) u ∧ j ∉ O ++ L0 ∧ ∀ u' A' nb', Jst w0 d j A' (O ++ L0) u u' → (∃ c z, c ≤ nb' ∧ z ≤ nb' ∧ Mm u' [(j, jc d s c z)]) → So w0 d A' g j mv base s G nb' B N L0 u' ∧ Kx L0 u u' := by
  obtain ⟨⟨O, h1⟩, h2, h3, h6, h7⟩ := h
  refine ⟨O, h1.da.sub fun x hx => ?_, fun hm => (List.mem_append.1 hm).elim (fun e => h1.ap j e (List.mem_cons_self ..)) h7, fun u' A' nb' hj hm => ⟨⟨⟨O, h1.kx (hj.1.sub fun x hx => ?_) (hj.2.sub fun x hx => List.mem_append_left _ hx)⟩, ?_, hm, h6, h7⟩, hj.2.sub fun x hx => List.mem_append_right _ hx⟩⟩
  · simp only [List.mem_cons, List.mem_append] at hx ⊢
    rcases hx with e | e | e
    · exact .inr (.inl e)
    · exact .inl e
    · exact .inr (.inr e)
  · simp only [List.mem_cons, List.mem_append] at hx ⊢
    rcases hx with e | e | e
    · exact .inr (.inl e)
    · exact .inl e
    · exact .inr (.inr e)
  · exact (World.cell?_of_block (hj.2.2 g (List.mem_append_left _ h1.og))).trans h2
/-- A record is appended to its log. -/
theorem So.app (h : So w0 d A g j mv base s G nb B N L0 u) (hk : A.k < 1000000000) (ho : ∀ f ∈ A.fs, f.ops.length < 1000000) (hs : s.size ≤ 281474976710656) (hnb : nb ≤ 1000000000000) (q : Pt8) (hq : Pq q u) (hL : q.n ≤ 65536) (r : Int) (A' : Ad) (ha : A.app s (fr (bs q.n q.f)) = (r, A')) :
    Calls Tryz.prog 47 #[PT j 0, .slice q.p q.n q.cp] u fun e u' => e = .returned (.int .i64 r) ∧ So w0 d A' g j mv base s G (nb + 70000) B N L0 u' ∧ Kx L0 u u' := by
  obtain ⟨O, h1, h2, h3⟩ := h.dj
  obtain ⟨_, _, ⟨c, z, k3, k4, k5⟩, k6, _⟩ := h
  refine (japp_a h1 h2 k6 hk ho hs k5 (by omega) (by omega) q hq hL r A' ha).mono fun e u' hh => ?_
  obtain ⟨e1, ⟨c', z', e2, e3, e4⟩, e5⟩ := hh
  exact ⟨e1, h3 u' A' (nb + 70000) e5 ⟨c', z', by omega, by omega, e4⟩⟩
theorem So.jsy (h : So w0 d A g j mv base s G nb B N L0 u) (hk : A.k < 1000000000) (hs : s.size ≤ 281474976710656) (r : Int) (A' : Ad) (ha : A.jsy s = (r, A')) :
    Calls Tryz.prog 49 #[PT j 0] u fun e u' => e = .returned (.int .i64 r) ∧ So w0 d A' g j mv base s G nb B N L0 u' ∧ Kx L0 u u' := by
  obtain ⟨O, h1, h2, h3⟩ := h.dj
  obtain ⟨_, _, ⟨c, z, k3, k4, k5⟩, k6, _⟩ := h
  refine (jsync_a h1 h2 hk hs k5 r A' ha).mono fun e u' hh => ?_
  exact ⟨hh.1, h3 u' A' nb hh.2.2 ⟨c, z, k3, k4, hh.2.1⟩⟩
theorem So.sync (h : So w0 d A g j mv base s G nb B N L0 u) (hk : A.k < 1000000000) (hs : s.size ≤ 281474976710656) (r : Int) (A' : Ad) (ha : A.jsy s = (r, A')) :
    Calls Tryz.prog 14 #[PT g 0] u fun e u' => e = .returned (.int .i64 r) ∧ So w0 d A' g j mv base s G nb B N L0 u' ∧ Kx L0 u u' :=
  ssync_any g j r (fun u' => So w0 d A' g j mv base s G nb B N L0 u' ∧ Kx L0 u u') u h.2.1 (h.jsy hk hs r A' ha)
end
end Wi
end Rg
end Go.Proofs.YtmcpagjhpfbpgaaGreatDoor
end
section
namespace Go.Proofs.YtmcpagjhpfbpgaaGreatDoor
open Go.RowKit
namespace Rg
namespace Wi
set_option maxRecDepth 100000
theorem ferr_fit (C : Nat → Cq) : ∀ {m : Nat}, ferr C m = 0 → ∀ i, i < m → (C i).fit = 0
  | 0, _, i, hi => absurd hi (Nat.not_lt_zero _)
  | m + 1, h, i, hi => by
    have h' : (if ferr C m = 0 then (C m).fit else ferr C m) = 0 := h
    by_cases e : ferr C m = 0
    · rw [if_pos e] at h'
      by_cases e2 : i = m
      · rw [e2]; exact h'
      · exact ferr_fit C e i (by omega)
    · rw [if_neg e] at h'
      exact absurd h' e
theorem fit_b {c : Cq} (h : c.fit = 0) : c.k.size ≤ 128 ∧ c.q.n ≤ 8192 ∧ 0 < c.k.size ∧ (c.gn = true → c.q.n = 0) := by
  unfold Cq.fit at h
  by_cases h1 : c.k.size = 0 ∨ (c.gn = true ∧ 0 < c.q.n)
  · rw [if_pos h1] at h; cases h
  · rw [if_neg h1] at h
    by_cases h2 : 128 < c.k.size ∨ 8192 < c.q.n
    · rw [if_pos h2] at h; cases h
    · refine ⟨by omega, by omega, ?_, fun e => ?_⟩
      · rcases Nat.eq_zero_or_pos c.k.size with e | e
        · exact absurd (.inl e) h1
        · exact e
      · rcases Nat.eq_zero_or_pos c.q.n with e2 | e2
        · exact e2
        · exact absurd (.inr ⟨e, e2⟩) h1
theorem rc_len (C : Nat → Cq) : ∀ m, (rc (chl C m)).length ≤ rsum C m := fun m => by
  have key : ∀ m, 4 + (wfs ((chl C m).flatMap Ch.fs)).length = rsum C m := fun m => by
    induction m with
    | zero => rfl
    | succ m ih =>
      rw [chl_snoc, List.flatMap_append, rsum_step, ← ih]
      have e1 : ∀ a b : List (List Nat), wfs (a ++ b) = wfs a ++ wfs b := fun a b => by simp [wfs]
      rw [e1, List.length_append]
      have e2 : (wfs ([(C m).ch].flatMap Ch.fs)).length = 13 + (C m).k.size + (C m).q.n := by
        show (wfs ((C m).ch.fs ++ [])).length = _
        rw [List.append_nil]
        unfold Ch.fs wfs
        simp only [List.map_cons, List.map_nil, List.flatten_cons, List.flatten_nil, List.length_append, wn_len, kb_len, List.length_cons, List.length_nil, Cq.ch, bs_len]
        omega
      omega
  unfold rc wf
  rw [List.length_append, wn_len]
  exact Nat.le_of_eq (key m)
/-- Changes in memory that no store and no disk has. -/
structure Ca (w0 : World) (L0 : List Nat) (p : Option Addr) (g o m : Nat) (C : Nat → Cq) (u : World) : Prop where
  cl : Cl p g o m C u
  gb : 0 < m → (g ∈ L0 ∨ g < w0.heap.size)
  pq : ∀ i, i < m → Pq (C i).q u
  qb : ∀ i, i < m → ∀ x ∈ gbl (C i).q, x ∈ L0 ∨ x < w0.heap.size
section
variable {w0 u u' : World} {d g j mv nb N gl o m : Nat} {A A' : Ad} {base s : ByteArray} {G : Int} {B : ByteArray → Option (List Nat)} {L0 : List Nat} {p : Option Addr} {C : Nat → Cq}
theorem Ca.to (h : Ca w0 L0 p gl o m C u) (hk : Kx L0 u u') (hold : ∀ x, x < w0.heap.size → u'.heap[x]? = u.heap[x]?) : Ca w0 L0 p gl o m C u' := by
  have key : ∀ x, (x ∈ L0 ∨ x < w0.heap.size) → u'.heap[x]? = u.heap[x]? := fun x hx => hx.elim (hk.2 x) (hold x)
  refine ⟨⟨h.cl.p, fun h0 => Nat.lt_of_lt_of_le (h.cl.lt h0) hk.1, fun i hi => ?_, fun i hi => ?_, fun i hi => ?_⟩, h.gb, fun i hi => ?_, h.qb⟩
  · exact (World.cell?_of_block (a := ⟨gl, _, none⟩) (key gl (h.gb (by omega)))).trans (h.cl.a0 i hi)
  · exact (World.cell?_of_block (a := ⟨gl, _, none⟩) (key gl (h.gb (by omega)))).trans (h.cl.a1 i hi)
  · exact (World.cell?_of_block (a := ⟨gl, _, none⟩) (key gl (h.gb (by omega)))).trans (h.cl.a2 i hi)
  · exact (h.pq i hi).kx (M := gbl (C i).q) ⟨hk.1, fun x hx => key x (h.qb i hi x hx)⟩ fun _ hx => hx
theorem Ca.below (h : Ca w0 L0 p gl o m C u) (hd : Da w0 d A L0 u) (hb : Below u.heap.size u u') : Ca w0 L0 p gl o m C u' :=
  h.to (hd.kx hb) fun x hx => hb.block x (Nat.lt_of_lt_of_le hx hd.b.size)
/-- The store behind do. -/
theorem So.did (h : So w0 d A g j mv base s G nb B N L0 u) (hN : N ≤ 1000000) (c : Nat) (hm : m ≤ 64) (hca : Ca w0 L0 p gl o m C u) (hC : ∀ i, i < m → (C i).fit = 0) :
    Calls Tryz.prog 48 #[PT g 0, .slice p m c] u fun e u' => e = .returned (.tuple #[]) ∧ So w0 d A g j mv base s G nb (bdo B C m) (N + m) L0 u' ∧ Kx L0 u u' := by
  obtain ⟨⟨O, h1⟩, h2, ⟨cc, z, k3, k4, k5⟩, k6, k7⟩ := h
  have hmv : ∀ x, (x ∈ L0 ∨ x < w0.heap.size) → x ≠ mv := fun x hx e => by
    rcases hx with e2 | e2
    · exact h1.ap mv h1.om (by rw [← e]; exact List.mem_cons_of_mem _ e2)
    · have := h1.lo mv h1.om
      omega
  by_cases hm0 : m = 0
  · subst hm0
    refine (do_any (fun b => b ∈ O ∨ u.heap.size ≤ b) g mv N B p 0 c (mv + 1) o C (by decide) hN u h1.c4 ⟨h1.gl, h1.gm⟩ ⟨fun h => absurd h (Nat.lt_irrefl _), fun h => absurd h (Nat.lt_irrefl _), fun i hi => absurd hi (Nat.not_lt_zero _), fun i hi => absurd hi (Nat.not_lt_zero _), fun i hi => absurd hi (Nat.not_lt_zero _)⟩ (by omega) (fun i hi => absurd hi (Nat.not_lt_zero _)) (h1.vb.wide fun b hb => .inl hb) h1.vb.lt (fun b hb => .inr hb)).mono fun e u' hh => ?_
    obtain ⟨e1, e2, e3⟩ := hh
    obtain ⟨f1, f2⟩ := h1.did e2 e3
    exact ⟨e1, ⟨f1, (e2.cell (p := ⟨g, 2, none⟩) h1.gl (fun e => h1.gm (List.mem_singleton.1 e))).trans h2, ⟨cc, z, k3, k4, Mm.keep1 k5 f2.1 (f2.2 j (List.mem_cons_self ..))⟩, k6, k7⟩, f2.sub fun x hx => List.mem_cons_of_mem _ hx⟩
  · refine (do_any (fun b => b ∈ O ∨ u.heap.size ≤ b) g mv N B p m c gl o C hm hN u h1.c4 ⟨h1.gl, h1.gm⟩ hca.cl (hmv gl (hca.gb (by omega))) (fun i hi => ⟨hca.pq i hi, fun hx => hmv mv (hca.qb i hi mv hx) rfl, (fit_b (hC i hi)).2.1, (fit_b (hC i hi)).1⟩) (h1.vb.wide fun b hb => .inl hb) h1.vb.lt (fun b hb => .inr hb)).mono fun e u' hh => ?_
    obtain ⟨e1, e2, e3⟩ := hh
    obtain ⟨f1, f2⟩ := h1.did e2 e3
    exact ⟨e1, ⟨f1, (e2.cell (p := ⟨g, 2, none⟩) h1.gl (fun e => h1.gm (List.mem_singleton.1 e))).trans h2, ⟨cc, z, k3, k4, Mm.keep1 k5 f2.1 (f2.2 j (List.mem_cons_self ..))⟩, k6, k7⟩, f2.sub fun x hx => List.mem_cons_of_mem _ hx⟩
theorem So.count (h : So w0 d A g j mv base s G nb B N L0 u) (hN : N ≤ 4000) (c : Nat) (hm : m ≤ 64) (hl : Cl p gl o m C u) (hC : ∀ i, i < m → (C i).fit = 0) :
    Calls Tryz.prog 45 #[PT g 0, .slice p m c] u fun e w' => (∃ n : Int, e = .returned (.int .i64 n) ∧ ¬4096 < n) ∧ Below u.heap.size u w' := by
  obtain ⟨⟨O, h1⟩, _⟩ := h
  obtain ⟨V, M, v1, v2, _⟩ := h1.vb
  exact count_any g mv M V p m c gl o C hm (by omega) u h1.c4 h1.gl hl v1 fun i hi => (fit_b (hC i hi)).1
/-- Commit of changes that may be done, where the record is not too long. -/
theorem So.commit (h : So w0 d A g j mv base s G nb B N L0 u) (c : Nat) (hm : m ≤ 64) (hca : Ca w0 L0 p gl o m C u) (hf : ferr C m = 0) (hN : N ≤ 4000) (hr : rsum C m ≤ 65536) (hk : A.k < 1000000000) (ho : ∀ f ∈ A.fs, f.ops.length < 1000000) (hs : s.size ≤ 281474976710656) (hnb : nb ≤ 1000000000000) (r : Int) (A' : Ad) (ha : A.app s (fr (rc (chl C m))) = (r, A')) :
    Calls Tryz.prog 13 #[PT g 0, .slice p m c] u fun e u' => e = .returned (.int .i64 r) ∧ So w0 d A' g j mv base s G (nb + 70000) (if r = 0 then bdo B C m else B) (N + m) L0 u' ∧ Kx L0 u u' := by
  have hfit := ferr_fit C hf
  have c2 := h.2.1
  have b1 : Calls Tryz.prog 44 #[.slice p m c] u fun e u1 => e = .returned (.int .i64 0) ∧ Below u.heap.size u u1 := (bounded_any p m c gl o C hm u hca.cl).mono fun e u1 hh => ⟨by rw [hh.1, hf], hh.2⟩
  have b2 : ∀ u1, Below u.heap.size u u1 → Calls Tryz.prog 45 #[PT g 0, .slice p m c] u1 fun e w' => (∃ n : Int, e = .returned (.int .i64 n) ∧ ¬4096 < n) ∧ Below u.heap.size u w' := fun u1 hb => ((h.below hb).1.count hN c hm (hca.cl.below hb) hfit).mono fun e w' hh => ⟨hh.1, below_on _ _ hb hh.2⟩
  have b3 : ∀ u2, Below u.heap.size u u2 → Calls Tryz.prog 46 #[.slice p m c] u2 fun e u3 => ∃ v, e = .returned (.tuple #[v, .int .i64 0]) ∧ (Below u.heap.size u u3 ∧ ∃ q : Pt8, v = .slice q.p q.n q.cp ∧ Pq q u3 ∧ bs q.n q.f = rc (chl C m)) := fun u2 hb => (record_any p m c gl o C hm (by omega) u2 (hca.cl.below hb) fun i hi => ⟨(hca.pq i hi).below hb, (fit_b (hfit i hi)).1⟩).mono fun e u3 hh => by
    obtain ⟨v, e1, n, P, e2, e3⟩ := hh
    obtain ⟨q, rfl, q1, q2, q3, q4, q5, q6⟩ := e2.part
    exact ⟨_, e1, below_on _ _ hb e2.b, q, rfl, ⟨q1, q2, q5⟩, by rw [q3, q4]; exact e3⟩
  have b4 : ∀ v u3, (Below u.heap.size u u3 ∧ ∃ q : Pt8, v = .slice q.p q.n q.cp ∧ Pq q u3 ∧ bs q.n q.f = rc (chl C m)) → Calls Tryz.prog 47 #[PT j 0, v] u3 fun e u4 => e = .returned (.int .i64 r) ∧ (So w0 d A' g j mv base s G (nb + 70000) B N L0 u4 ∧ Kx L0 u u4) := fun v u3 hh => by
    obtain ⟨hb, q, rfl, hq, hqb⟩ := hh
    have hln : q.n ≤ 65536 := by
      have e1 : q.n = (rc (chl C m)).length := by rw [← hqb, bs_len]
      rw [e1]
      exact Nat.le_trans (rc_len C m) hr
    refine ((h.below hb).1.app hk ho hs hnb q hq hln r A' (by rw [hqb]; exact ha)).mono fun e u4 hh => ⟨hh.1, hh.2.1, (h.below hb).2.trans hh.2.2⟩
  by_cases hr0 : r = 0
  · subst hr0
    rw [if_pos rfl]
    refine scommit_ok g j (.slice p m c) _ _ _ (fun u' => So w0 d A' g j mv base s G (nb + 70000) (bdo B C m) (N + m) L0 u' ∧ Kx L0 u u') _ u c2 b1 b2 b3 (fun v u3 hh => (h.below hh.1).1.2.1) b4 (fun u4 hh => ?_)
    have hca4 := hca.to hh.2 fun x hx => (hh.1.da.b.block x hx).trans (h.da.b.block x hx).symm
    exact (hh.1.did (by omega) c hm hca4 hfit).mono fun e u5 hg => ⟨hg.1, hg.2.1, hh.2.trans hg.2.2⟩
  · rw [if_neg hr0]
    refine (scommit_app g j (.slice p m c) r hr0 _ _ _ _ u c2 b1 b2 b3 (fun v u3 hh => (h.below hh.1).1.2.1) b4).mono fun e u4 hh => ⟨hh.1, hh.2.1.mono (Nat.le_refl _) (by omega), hh.2.2⟩
/-- Commit of changes that may not be done. -/
theorem So.cbad (h : So w0 d A g j mv base s G nb B N L0 u) (c : Nat) (hm : m ≤ 64) (hl : Cl p gl o m C u) (hf : ¬ferr C m = 0) :
    Calls Tryz.prog 13 #[PT g 0, .slice p m c] u fun e u' => e = .returned (.int .i64 (ferr C m)) ∧ Below u.heap.size u u' :=
  scommit_bad g j (.slice p m c) (ferr C m) hf (fun u' => Below u.heap.size u u') u h.2.1 (bounded_any p m c gl o C hm u hl)
theorem So.clong (h : So w0 d A g j mv base s G nb B N L0 u) (c : Nat) (hm : 64 < m) :
    Calls Tryz.prog 13 #[PT g 0, .slice p m c] u fun e u' => e = .returned (.int .i64 3) ∧ Below u.heap.size u u' :=
  scommit_bad g j (.slice p m c) 3 (by decide) (fun u' => Below u.heap.size u u') u h.2.1 (bounded_long p m c hm u)
end
end Wi
end Rg
end Go.Proofs.YtmcpagjhpfbpgaaGreatDoor
end
section
namespace Go.Proofs.YtmcpagjhpfbpgaaGreatDoor
open Go.RowKit
namespace Rg
namespace Wi
set_option maxRecDepth 100000
theorem ex_ld5 {ρ : Operand → Value} {o : Oper} {x : Operand} {g off a : Nat} {w : World} (c0 : w.cell? ⟨g, off, none⟩ = some (Z8 a)) (ho : o.op = .load 5 x) (hx : ρ x = PT g off) : (execOp ρ o).run Tryz.prog w = .ok (.value (Z8 a)) w := by
  simp only [execOp, ho, hx]
  clear ho hx
  go_simp
set_option maxHeartbeats 2000000 in
set_option maxRecDepth 100000 in
theorem number_x (gr gb o m c k most : Nat) (f : Nat → Nat) (hk : k ≤ m) (h8 : k ≤ 8) (hc : m ≤ c) (hmo : most < 9223372036854775808) (hf : ∀ j, j < k → f j < 256) (hn : ∀ z, z < k → nv f z * 256 < 18446744073709551616) (w : World) (hcs : ∀ u, Kp gr w u → ∀ i, i < k → u.cell? ⟨gb, o + i, none⟩ = some (Z8 (f i))) (hV : nv f k ≤ most) (hm : Mm w [(gr, [Value.slice (some ⟨gb, o, none⟩) m c, Value.bool false])]) :
    Calls Tryz.prog 153 #[PT gr 0, .int .i64 ((k : Nat) : Int), .int .i64 ((most : Nat) : Int)] w fun e w' => e = .returned (.int .i64 ((nv f k : Nat) : Int)) ∧ Mm w' [(gr, [sdrop (.slice (some ⟨gb, o, none⟩) m c) k, Value.bool false])] ∧ Kp gr w w' := by
  have H0 : Hid (_ ∧ _) := ⟨hm, Kp.refl gr w⟩
  clear hm
  have hF : Hid _ := hf
  have hN : Hid _ := hn
  have hC : Hid _ := hcs
  clear hf hn hcs
  go_enter Tryz.func153, Tryz.ntmps153
  refine wp_seq ?_
  refine sq_startW (l := [0]) rfl (fun u0 hu0 => ?_)
  have H1 : Hid (Mm u0 [(gr, [Value.slice (some ⟨gb, o, none⟩) m c, Value.bool false])] ∧ Kp gr w u0) := by rw [hu0]; exact H0
  clear hu0 H0
  refine rest_set (d := 6) (v := .int .i64 0) (w' := u0) rfl rfl rfl (rfl) ?_
  simp only [Act.put, sa, sz, ss]
  refine rest_nil (then_normal (wp_seq ?_))
  refine sq_start (l := [0]) rfl ?_
  refine rest_set (d := 7) (v := U 0) (w' := u0) rfl rfl rfl (rfl) ?_
  simp only [Act.put, sa, sz, ss]
  refine rest_nil (then_normal ?_)
  refine wp_seq (wp_seq ?_)
  refine sq_start (l := [0, 1, 2, 3, 4]) rfl ?_
  refine rest_set (d := 10) (v := PT gr 0) (w' := u0) rfl rfl rfl (rfl) ?_
  simp only [Act.put, sa, sz, ss]
  refine rest_set (d := 11) (v := .int .i64 ((k : Nat) : Int)) (w' := u0) rfl rfl rfl (rfl) ?_
  simp only [Act.put, sa, sz, ss]
  refine rest_enter (d := 12) (R := fun vv w' => vv = .slice (some ⟨gb, o, none⟩) k c ∧ Mm w' [(gr, [sdrop (.slice (some ⟨gb, o, none⟩) m c) k, Value.bool false])] ∧ Kp gr u0 w') rfl rfl rfl (exec_call (args := #[PT gr 0, .int .i64 ((k : Nat) : Int)]) rfl call171 rfl (mpn rfl)) (Calls.mono (take_ok gr (some ⟨gb, o, none⟩) m c k (by omega) (by omega) u0 (H1.out.1.one 0 rfl)) (fun e w2 hh => ⟨_, hh.1, rfl, hh.2⟩)) ?_
  rintro _ w2 ⟨rfl, hn, hp⟩
  have H2 : Hid (Mm w2 [(gr, [sdrop (.slice (some ⟨gb, o, none⟩) m c) k, Value.bool false])] ∧ Kp gr w w2) := ⟨H1.out.1.change 0 rfl hp hn, H1.out.2.join hp⟩
  clear hn hp
  clear H1
  simp only [Act.put, sa, sz, ss]
  refine rest_set (d := 13) (v := .int .i64 ((k : Nat) : Int)) (w' := w2) rfl rfl rfl (by go_simp) ?_
  simp only [Act.put, sa, sz, ss]
  refine rest_set (d := 14) (v := .int .i64 0) (w' := w2) rfl rfl rfl (rfl) ?_
  simp only [Act.put, sa, sz, ss]
  refine rest_nil (then_normal (wp_block ?_))
  refine loop_ghost (α := Nat) (fun z a' w' => ∃ s0 : Nat → Value, a' = ⟨#[PT gr 0, .int .i64 ((k : Nat) : Int), .int .i64 ((most : Nat) : Int), undef, undef, undef, .int .i64 0, U (nv f z), undef, s0 9, PT gr 0, .int .i64 ((k : Nat) : Int), .slice (some ⟨gb, o, none⟩) k c, .int .i64 ((k : Nat) : Int), .int .i64 ((z : Nat) : Int), s0 15, s0 16, s0 17, s0 18, s0 19, s0 20, s0 21, s0 22, s0 23, undef, undef, undef, undef, undef, undef, undef, undef, undef], []⟩ ∧ (Mm w' [(gr, [sdrop (.slice (some ⟨gb, o, none⟩) m c) k, Value.bool false])] ∧ Kp gr w w') ∧ z ≤ k) (fun z => k - z) 0 ?st0 ?rd0
  case st0 => exact ⟨(slotfn [undef, undef, undef, undef, undef, undef, undef, undef, undef, undef, undef, undef, undef, undef, undef, undef, undef, undef, undef, undef, undef, undef, undef, undef]), rfl, ⟨H2.out.1, H2.out.2⟩, by omega⟩
  intro z a' w3 hI
  obtain ⟨s0, rfl, hMB, hk0⟩ := hI
  have H3 : Hid (_ ∧ _) := hMB
  clear hMB H2
  by_cases hltz : z < k
  · have hrd : True := trivial
    clear hrd
    refine wp_seq ?_
    refine sq_start (l := [0]) rfl ?_
    refine rest_set (d := 15) (v := .bool true) (w' := w3) rfl rfl rfl (by go_simp <;> omega) ?_
    simp only [Act.put, sa, sz, ss]
    refine rest_nil (then_normal ?_)
    refine wp_seq (wp_cond_true rfl ?_)
    refine wp_skip (then_normal ?_)
    refine wp_seq (wp_block (wp_seq ?_))
    refine sq_start (l := [0, 1, 2]) rfl ?_
    refine rest_set (d := 16) (v := PT gb (o + z)) (w' := w3) rfl rfl rfl (ex_ixS22 (j := z) rfl rfl rfl (by omega)) ?_
    simp only [Act.put, sa, sz, ss]
    refine rest_set (d := 17) (v := Z8 (f z)) (w' := w3) rfl rfl rfl (ex_ld5 (hC.out _ H3.out.2 z (by omega)) rfl rfl) ?_
    simp only [Act.put, sa, sz, ss]
    refine rest_set (d := 9) (v := Z8 (f z)) (w' := w3) rfl rfl rfl (rfl) ?_
    simp only [Act.put, sa, sz, ss]
    refine rest_nil (then_normal ?_)
    refine sq_start (l := [0, 1, 2, 3, 4, 5]) rfl ?_
    refine rest_set (d := 18) (v := U (nv f z)) (w' := w3) rfl rfl rfl (rfl) ?_
    simp only [Act.put, sa, sz, ss]
    refine rest_set (d := 19) (v := U ((nv f z) * 256)) (w' := w3) rfl rfl rfl (ex_shl8 (hN.out z (by omega)) rfl rfl rfl) ?_
    simp only [Act.put, sa, sz, ss]
    refine rest_set (d := 20) (v := Z8 (f z)) (w' := w3) rfl rfl rfl (rfl) ?_
    simp only [Act.put, sa, sz, ss]
    refine rest_set (d := 21) (v := U (f z)) (w' := w3) rfl rfl rfl (ex_cv64 (hF.out z (by omega)) rfl rfl) ?_
    simp only [Act.put, sa, sz, ss]
    refine rest_set (d := 22) (v := U ((nv f z) * 256 + (f z))) (w' := w3) rfl rfl rfl (ex_or8 (hN.out z (by omega)) (hF.out z (by omega)) rfl rfl rfl) ?_
    simp only [Act.put, sa, sz, ss]
    refine rest_set (d := 7) (v := U ((nv f z) * 256 + (f z))) (w' := w3) rfl rfl rfl (rfl) ?_
    simp only [Act.put, sa, sz, ss]
    refine rest_nil (block_normal (then_normal ?_))
    refine sq_start (l := [0, 1]) rfl ?_
    refine rest_set (d := 23) (v := .int .i64 ((z + 1 : Nat) : Int)) (w' := w3) rfl rfl rfl (by go_simp; rw [IntKind.wrap_i64]; omega) ?_
    simp only [Act.put, sa, sz, ss]
    refine rest_set (d := 14) (v := .int .i64 ((z + 1 : Nat) : Int)) (w' := w3) rfl rfl rfl (rfl) ?_
    simp only [Act.put, sa, sz, ss]
    refine rest_nil (then_normal ?_)
    exact ⟨z + 1, ⟨(slotfn [undef, undef, undef, undef, undef, undef, undef, undef, undef, Z8 (f z), undef, undef, undef, undef, undef, .bool true, PT gb (o + z), Z8 (f z), U (nv f z), U ((nv f z) * 256), Z8 (f z), U (f z), U ((nv f z) * 256 + (f z)), .int .i64 ((z + 1 : Nat) : Int)]), rfl, ⟨H3.out.1, H3.out.2⟩, by omega⟩, by omega⟩
  have hzN : z = k := by omega
  subst hzN
  have hV2 : Hid _ := hV
  clear hV
  have hV := hV2.out
  refine wp_seq ?_
  refine sq_start (l := [0]) rfl ?_
  refine rest_set (d := 15) (v := .bool false) (w' := w3) rfl rfl rfl (by go_simp <;> omega) ?_
  simp only [Act.put, sa, sz, ss]
  refine rest_nil (then_normal ?_)
  refine wp_seq (wp_cond_false rfl ?_)
  refine wp_exit ?_
  repeat refine then_exit ?_
  refine block_exit ?_
  refine then_normal (wp_seq (wp_seq ?_))
  refine sq_start (l := [0, 1, 2, 3]) rfl ?_
  refine rest_set (d := 24) (v := U (nv f z)) (w' := w3) rfl rfl rfl (rfl) ?_
  simp only [Act.put, sa, sz, ss]
  refine rest_set (d := 25) (v := .int .i64 ((most : Nat) : Int)) (w' := w3) rfl rfl rfl (rfl) ?_
  simp only [Act.put, sa, sz, ss]
  refine rest_set (d := 26) (v := U most) (w' := w3) rfl rfl rfl (ex_cvI (by omega) rfl rfl) ?_
  simp only [Act.put, sa, sz, ss]
  refine rest_set (d := 27) (v := .bool false) (w' := w3) rfl rfl rfl (ex_gtN (by omega) rfl rfl rfl) ?_
  simp only [Act.put, sa, sz, ss]
  refine rest_nil (then_normal ?_)
  refine wp_cond_false rfl (wp_skip ?_)
  refine then_normal (wp_seq ?_)
  refine sq_start (l := [0, 1, 2]) rfl ?_
  refine rest_set (d := 31) (v := U (nv f z)) (w' := w3) rfl rfl rfl (rfl) ?_
  simp only [Act.put, sa, sz, ss]
  refine rest_set (d := 32) (v := .int .i64 ((nv f z : Nat) : Int)) (w' := w3) rfl rfl rfl (ex_cvU (by omega) rfl rfl) ?_
  simp only [Act.put, sa, sz, ss]
  refine rest_set (d := 6) (v := .int .i64 ((nv f z : Nat) : Int)) (w' := w3) rfl rfl rfl (rfl) ?_
  simp only [Act.put, sa, sz, ss]
  refine rest_nil (then_normal (wp_ret ?_))
  repeat (first | refine then_ret ?_ | refine block_ret ?_)
  refine bodyPost_ret (v := .int .i64 ((nv f z : Nat) : Int)) (by simp [results, Tryz.results153, go_sem, *]) rfl ?_
  exact ⟨rfl, H3.out.1.one 0 rfl, H3.out.2⟩
theorem sdrop_q (q : Pt8) (k : Nat) : sdrop (.slice q.p q.n q.cp) k = .slice (q.dp k).p (q.dp k).n (q.dp k).cp := rfl
theorem Pok.addr {q : Pt8} (h : Pok q) (h0 : 0 < q.n) : q.p = some ⟨q.gb, q.o, none⟩ := by
  have := h.bv.1 h0
  simpa using this
theorem nv4 {f : Nat → Nat} {n : Nat} (hn : n < 4294967296) (h : bs 4 f = wn 4 n) : nv f 4 = n := by
  obtain ⟨_, h⟩ := bs_eq (m := 4) h
  have h0 := h 0 (by decide)
  have h1 := h 1 (by decide)
  have h2 := h 2 (by decide)
  have h3 := h 3 (by decide)
  show (((0 * 256 + f 0) * 256 + f 1) * 256 + f 2) * 256 + f 3 = n
  rw [h0, h1, h2, h3]
  show (((0 * 256 + n / 16777216 % 256) * 256 + n / 65536 % 256) * 256 + n / 256 % 256) * 256 + n / 1 % 256 = n
  omega
theorem nv_mono (f : Nat → Nat) : ∀ {z k : Nat}, z < k → nv f z * 256 ≤ nv f k
  | z, 0, h => absurd h (Nat.not_lt_zero _)
  | z, k + 1, h => by
    show nv f z * 256 ≤ nv f k * 256 + f k
    by_cases e : z = k
    · rw [e]; omega
    · have := nv_mono f (z := z) (k := k) (by omega)
      have : nv f k ≤ nv f k * 256 := Nat.le_mul_of_pos_right _ (by decide)
      omega
/-- A reader at block gr: the part that is not read yet. -/
def Rdr (gr : Nat) (q : Pt8) (u : World) : Prop := Mm u [(gr, [.slice q.p q.n q.cp, .bool false])]
theorem number_q (gr k most n : Nat) (q : Pt8) (h0 : 0 < k) (h8 : k ≤ 8) (hk : k ≤ q.n) (hmo : most < 9223372036854775808) (hb : bs k q.f = wn k n) (hn : nv q.f k = n) (hle : n ≤ most) (w : World) (hg : q.gb ≠ gr) (hq : Pok q ∧ q.rs w) (hm : Rdr gr q w) :
    Calls Tryz.prog 153 #[PT gr 0, .int .i64 ((k : Nat) : Int), .int .i64 ((most : Nat) : Int)] w fun e w' => e = .returned (.int .i64 ((n : Nat) : Int)) ∧ Rdr gr (q.dp k) w' ∧ Kp gr w w' := by
  have hp := hq.1.addr (by omega)
  have hm' := hm
  unfold Rdr at hm'
  rw [hp] at hm'
  have h256 : ∀ j, j < k → q.f j < 256 := fun j hj => by
    rw [(bs_eq (m := k) hb).2 j hj]
    exact Nat.mod_lt _ (by decide)
  refine (number_x gr q.gb q.o q.n q.cp k most q.f hk h8 hq.1.le hmo h256 (fun z hz => by have := nv_mono q.f hz; omega) w (fun u hu i hi => ?_) (by omega) hm').mono fun e w' hh => ⟨by rw [hh.1, hn], by
    unfold Rdr
    rw [← sdrop_q, hp]
    exact hh.2.1, hh.2.2⟩
  have h1 := hq.2.at_ i (by omega)
  have h2 := hq.2.lt (by omega)
  exact (World.cell?_of_block (a := ⟨q.gb, q.o + i, none⟩) (hu.block q.gb h2 hg)).trans h1
set_option maxHeartbeats 2000000 in
theorem text_q (gr L : Nat) (q : Pt8) (hk : 4 + L ≤ q.n) (hn : q.n ≤ 1048576) (hb : bs 4 q.f = wn 4 L) (w : World) (hg : q.gb ≠ gr) (hq : Pok q ∧ q.rs w) (hm : Rdr gr q w) :
    Calls Tryz.prog 175 #[PT gr 0, .int .i64 4, .int .i64 1048576] w fun e w' => e = .returned (.slice ((q.dp 4).tk L).p L ((q.dp 4).tk L).cp) ∧ Rdr gr ((q.dp 4).dp L) w' ∧ Kp gr w w' := by
  have HN : Hid _ := number_q gr 4 1048576 L q (by decide) (by decide) (by omega) (by decide) hb (nv4 (by omega) hb) (by omega) w hg hq hm
  have hle : L ≤ (q.dp 4).n := by show L ≤ q.n - 4; omega
  have hcp : (q.dp 4).n ≤ (q.dp 4).cp := (hq.1.dp (show 4 ≤ q.n by omega)).le
  clear hm hq
  go_enter Tryz.func175, Tryz.ntmps175
  go_wp2_with (first
    | (go_at_call 153; refine Calls.mono HN.out ?_; rintro e w1 ⟨rfl, h1, k1⟩; have H1 : Hid _ := h1; clear h1)
    | (go_at_call 171; refine (take_ok gr (q.dp 4).p (q.dp 4).n (q.dp 4).cp L hle hcp w1 H1.out).mono ?_; rintro e w2 ⟨rfl, h2, k2⟩; have H2 : Hid (Rdr gr ((q.dp 4).dp L) w2 ∧ Kp gr w w2) := ⟨h2, k1.join k2⟩)
    | fail)
  go_ret
  exact ⟨rfl, H2.out⟩
end Wi
end Rg
end Go.Proofs.YtmcpagjhpfbpgaaGreatDoor
end
