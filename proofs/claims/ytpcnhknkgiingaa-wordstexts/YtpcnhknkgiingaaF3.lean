/- The document's own Bytes. -/
import Derived.Test.YtpcnhknkgiingaaE3
import Derived.Test.YtpcnhknkgiingaaDJ
import Derived.Laws.AppendOwn
namespace Go.Proofs.Ytpcnhknkgiingaa
open Go.RowKit

/-- A number's 48 bytes. -/
def bys (a : Nat) : List Int := (List.range 48).map fun p => (bt a (47 - p) : Int)
theorem bys_len (a : Nat) : (bys a).length = 48 := by simp [bys]
def byv (a n : Nat) : List Value := (List.range n).map fun p => .int .u8 (bt a (47 - p) : Int)
theorem byv_snoc (a n : Nat) : byv a n ++ [.int .u8 (bt a (47 - n) : Int)] = byv a (n + 1) := by
  unfold byv
  rw [List.range_succ, List.map_append, List.map_cons, List.map_nil]
set_option maxHeartbeats 1000000 in
set_option maxRecDepth 100000 in
theorem bytes_ref (a : Nat) (w : World) :
    Calls Try.prog 34 #[N a] w fun e w' => ∃ v c, e = .returned v ∧ BSl w' (bys a) c v ∧ Below w.heap.size w w' := by
  obtain ⟨i0, hi, hz0, hz1, hz2⟩ := info_byte
  go_enter Try.func34, Try.ntmps34
  go_wp2
  go_loopw [3, 4] (fun v i wr => ∃ k : Nat, k ≤ 48 ∧ i = .int .i64 ((k : Int) - 1) ∧ wr.ownsRow (w.heap.size + 1) 5 1 v (48 - k) (byv a (48 - k)) ∧ Row wr w.heap.size 6 (wd a) ∧ Below w.heap.size w wr ∧ w.heap.size < wr.heap.size) (fun _ i _ => (RowKit.intOf i + 1).toNat)
  case atStart =>
    refine ⟨48, by omega, rfl, World.ownsRow_nil _ _ _ _, Row.new w _ 24 rfl (six_lt rfl), (Below.refl _ _).alloc (Nat.le_refl _) _, by simp⟩
  case round =>
    obtain ⟨k, hk, rfl, hown, hR, hw, hs⟩ := hrel
    by_cases h0 : 1 ≤ k
    · obtain ⟨i, rfl⟩ : ∃ i, k = i + 1 := ⟨k - 1, by omega⟩
      rw [show (((i + 1 : Nat) : Int) - 1) = (i : Int) by omega]
      have r1 := (hR (i / 8) (by omega)).1
      have hbw := bt_word a i
      have hbl := bt_lt a i
      obtain ⟨n, hn⟩ : ∃ n, n = 48 - (i + 1) := ⟨_, rfl⟩
      rw [← hn] at hown
      have hsn := byv_snoc a n
      rw [show 47 - n = i by omega] at hsn
      have HSN : Hid _ := hsn
      have HN : Hid (n + 1 = 48 - i ∧ n ≤ 48) := ⟨by omega, by omega⟩
      have HM : Hid (_ ∧ _ ∧ _) := ⟨hR, hw, hs⟩
      have HOW : Hid _ := hown
      generalize bt a i = d at hbw hbl HSN
      clear hsn hR hw hn
      go_wp2_with (at_builtin; go_loud (refine wpList_append_own _ rfl _ _ 38 rfl (w.heap.size + 1) 5 i0 (.int .u8 0) 1 1 Try.underlying38 hi hz0 hz1 hz2 rfl (by decide) _ _ _ rfl (World.ownsRow.alloc HOW.out _) ⟨wr.heap.size, 0, none⟩ 1 1 [.int .u8 (d : Int)] rfl rfl ?c1 ?c2 ?c3 ?c4 ?c5 ?_))
      case c1 =>
        intro j u hj
        match j, hj with
        | 0, hj => simp at hj; subst hj; simp [Addr.add]
      case c2 => intro u hu; simp at hu; subst hu; rfl
      case c3 => have := HN.out; unfold maxLen; omega
      case c4 => have := HN.out; omega
      case c5 => simp; omega
      intro v' w2 hown' hgrow' _
      have hb2 : Below (w.heap.size + 1) wr w2 := ((Below.refl _ _).alloc (by omega) _).grown hgrow' (by simp; omega) (fun k hk => (World.ownsRow.lt HOW.out k hk).1)
      have HOW2 : Hid _ := hown'
      clear hown' hgrow' HOW
      go_wp2
      go_roundw
      case rel =>
        obtain ⟨hR, hw, hs⟩ := HM.out
        refine ⟨i, by omega, by go_num, ?_, Row.below hb2 hR (by omega), hw.trans (hb2.mono (by omega)), Nat.lt_of_lt_of_le hs hb2.size⟩
        rw [← HN.out.1, ← HSN.out]
        exact HOW2.out
      case measure => simp [RowKit.intOf] <;> omega
    · have hk0 : k = 0 := by omega
      subst hk0
      rw [show (((0 : Nat) : Int) - 1) = -1 from rfl]
      have HM : Hid (_ ∧ _) := ⟨hown, hw⟩
      clear hown hw hR
      go_wp2
      go_ret
      obtain ⟨hown, hw⟩ := HM.out
      rcases hown.2 with ⟨_, h⟩ | ⟨g, cap, cur, hv, hb, hg, hn, _, _, _⟩
      · exact absurd h (by decide)
      · have hc := World.ownsRow.cells hown (g := g) (by rw [hv]; rfl)
        have hlt := (Array.getElem?_eq_some_iff.1 hg).1
        subst hv
        refine ⟨_, cap, rfl, ?_, hw⟩
        have hf : BSl _ (bys a) cap (.slice (some ⟨g, 0, none⟩) (bys a).length cap) := .full g 0 hlt (by rw [bys_len]; exact hn) (fun i hi => by
          rw [bys_len] at hi
          have := hc i (.int .u8 (bt a (47 - i) : Int)) (by simp [byv, hi])
          rw [show (⟨g, 0, none⟩ : Addr).add i = ⟨g, 0 + i, none⟩ by unfold Addr.add; split <;> simp_all] at this
          rw [this]
          simp [bys, hi])
        rw [bys_len] at hf
        exact hf
end Go.Proofs.Ytpcnhknkgiingaa
