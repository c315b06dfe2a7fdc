/- For any number of six words, any bytes and any text the law WordsTexts returns true, and all three read behind the call as they read before; there is no condition beside. -/
import Derived.Test.YtpcnhknkgiingaaG1
import Derived.Test.YtpcnhknkgiingaaA27
import Derived.ChangeMaps5
import Derived.ChangeSlices
import Derived.OpenShut
namespace Go.Proofs.Ytpcnhknkgiingaa
open Go.ChangeMaps Go.ChangeShapes Go.WideShapes Go.ChangeAt Go.RowKit

theorem texts_any (a : Nat) (ha : a < big) (xs : List Int) (c : Nat) (v : Value) (s : ByteArray) (hx : ∀ x ∈ xs, 0 ≤ x ∧ x < 256) (w : World) (hv : BSl w xs c v) :
    Calls Try.prog 4 #[N a, v, .string s] w fun e w' => e = .returned (.bool true) ∧ Below w.heap.size w w' := by
  by_cases h : 200 < xs.length ∨ 200 < s.size
  · obtain ⟨p, hp⟩ : ∃ p, v = .slice p xs.length c := by
      cases hv using BSl.each with
      | full g o hg hc hcell => exact ⟨_, rfl⟩
      | void p hx => subst hx; exact ⟨p, rfl⟩
    rw [hp]
    exact texts_long a p _ c s h w
  · exact texts_short a ha xs c v s hx (by omega) (by omega) w hv
theorem Try.cells5 : Try.prog.cellsOf 5 = 1 := by kernel_rfl
/-- A slice of bytes that is handed in. -/
theorem open_bytes {H : Type} {enc : TypeId × Value → H} {w : World} {base : Nat} {sp : Nat → Bool} {held : Bool} {r : Reach} {b0 : Nat} {v : Value} {d : DataW H} {ps : List MemPlace}
    (hval : Value.okWide Try.prog w r b0 38 v) (hd : DataW.Trod enc Try.prog w base sp held 38 v d ps) :
    ∃ xs c, BSl w xs c v ∧ (∀ x ∈ xs, 0 ≤ x ∧ x < 256) ∧ ∀ x ∈ ps, x.block < w.heap.size := by
  obtain ⟨a0, len, cap, rfl⟩ := okWide_slice Try.underlying38 hval
  obtain ⟨fuel, hf⟩ := hd
  rcases open_ints Try.underlying38 Try.underlying5 Try.cells5 hf with ⟨hcs, hx⟩ | ⟨a, len', cap', zs, hcs, _, hl, hm, hz, hx, hcell, hwz⟩
  · simp [Value.cells] at hcs
    obtain ⟨rfl, rfl, rfl⟩ := hcs
    simp only [Prod.mk.injEq] at hx
    obtain ⟨_, rfl⟩ := hx
    exact ⟨[], 0, .void none rfl, by simp, by simp⟩
  · simp [Value.cells] at hcs
    obtain ⟨rfl, rfl, rfl⟩ := hcs
    simp only [Prod.mk.injEq] at hx
    obtain ⟨_, rfl⟩ := hx
    have hlz : len ≤ zs.length := by rw [hz]; split <;> omega
    have hps : ∀ x ∈ MemPlace.row a zs.length, x.block < w.heap.size := fun x hx => by
      obtain ⟨i, hi, rfl⟩ := MemPlace.mem_row.1 hx
      have := World.block_lt_of_cell? w _ (hcell i hi)
      obtain ⟨b, off, rfl, _⟩ := ints_at hcell (by omega)
      exact World.block_lt_of_cell? w _ (hcell 0 (by omega))
    have hb : ∀ x ∈ zs, 0 ≤ x ∧ x < 256 := fun x hx => by
      have := bounds_u8 (hwz x hx)
      omega
    by_cases h0 : len = 0
    · subst h0
      exact ⟨[], cap, .void (some a) rfl, by simp, hps⟩
    · obtain ⟨b, off, rfl, hc⟩ := ints_at hcell (by omega)
      refine ⟨zs.take len, cap, ?_, fun x hx => hb x (List.mem_of_mem_take hx), hps⟩
      have hlen : (zs.take len).length = len := by simp; omega
      have hf : BSl w (zs.take len) cap (.slice (some ⟨b, off, none⟩) (zs.take len).length cap) := .full b off (World.block_lt_of_cell? w _ (hc 0 (by omega))) (by rw [hlen]; exact hl) (fun i hi => by
        rw [hlen] at hi
        rw [hc i (by omega)]
        simp [hi])
      rw [hlen] at hf
      exact hf
set_option maxRecDepth 100000 in
theorem wordsTexts_lifted (os : Os) (started : os.Started) (H : Type) (enc : TypeId × Value → H) :
    ReturnsInHanded {} Try.checked os 4 .any (Rows.wordsTextsSpec.pre6 enc Try.prog Try.f4 Rows.wordsTextsRow.domain false) (Rows.wordsTextsSpec.post enc Try.prog Try.f4 false true false false) := by
  refine returnsInHanded_of_change (C := Try.checked) Try.own started (by kernel_rfl) Try.func4
    (ChangeSpec.witness6 (enc := enc) (C := Try.checked) false ⟨#[], #[.agg #[.int .u64 0, .int .u64 0, .int .u64 0, .int .u64 0, .int .u64 0, .int .u64 0], .slice none 0 0, .string ⟨#[]⟩], []⟩ 8 (by kernel_rfl) (by kernel_rfl) (by kernel_rfl) (by kernel_rfl)) ?_
  intro W base args ds gs before hval0 hW hcnd _
  have hval : ∀ (j : Nat) t v, Try.f4.params[j]? = some t → args[j]? = some v → Value.okWide Try.prog W .any base t v := hval0
  have hW' := hW
  obtain ⟨p, q, hA0, hV, rfl, hfz, hnd⟩ := hW
  have hA : DataW.TrodAll enc Try.prog W 0 (fun _ => true) true Try.f4.params.toList args.toList ds p := hA0
  rw [Try.params4] at hA hval
  obtain ⟨v0, v1, v2, d0, d1, d2, p0, p1, p2, rfl, rfl, rfl, h0, h1, h2⟩ := trodAll_three hA
  obtain ⟨rfl, rfl⟩ := trodVars_none hV
  obtain ⟨a, ha, rfl, rfl⟩ := open_num (hval 0 24 v0 rfl rfl) h0
  obtain ⟨xs, c, hbs, hxb, hlt⟩ := open_bytes (hval 1 38 v1 rfl rfl) h1
  obtain ⟨s, rfl, rfl, rfl, hs⟩ := open_string Try.underlying9 (hval 2 9 v2 rfl rfl) h2
  clear hA0 hval0
  simp only [List.nil_append, List.append_nil] at hW'
  refine (texts_any a ha xs c v1 s hxb W hbs).mono fun e W' ⟨he, hw⟩ => ?_
  subst he
  exact ⟨_, rfl, _, _, _, [], _, [], hW', trodAll_mk1 (shut_bool Try.underlying4 _), trodAll_mk3 (num_stays h0 hw) (Below.trod Try.laidOut (by kernel_rfl) (by decide +kernel) h1 hw hlt) (shut_string Try.underlying9 hs), rfl, hw.frame _, fun h => by cases h⟩

theorem wordsTexts_holds : Rows.WordsTextsSaid :=
  OpenClaim.holds_of_wide 4 Try.f4 rfl rfl rfl rfl rfl rfl rfl ⟨rfl, rfl, rfl, rfl, rfl⟩ rfl rfl rfl rfl rfl (by kernel_rfl) Try.func4 (by kernel_rfl)
    (of_decide_eq_true (by kernel_rfl)) (by unfold Func.isWrapper; first | (rw [if_pos (by decide +kernel)]; kernel_rfl) | (rw [if_neg (by decide +kernel)]; exact ⟨rfl, rfl⟩))
    (fun os started H enc _ => wordsTexts_lifted os started H enc)
#print axioms wordsTexts_holds

end Go.Proofs.Ytpcnhknkgiingaa
