/- For any arguments the law DigestTexts returns true, and they read behind the call as they read before; the listed variables read as the program's text lays them, which the card ties to that text. -/
import Derived.Test.YtfboipfpnkngdaaDoorP6
import Derived.ChangeMaps5
import Derived.SevenTiedAt
import Derived.Test.YtfboipfpnkngdaaDoorCards
namespace Go.Proofs.YtfboipfpnkngdaaDoor
open Go.ChangeMaps Go.ChangeShapes Go.WideShapes Go.ChangeAt Go.RowKit
namespace Rg
set_option maxRecDepth 100000 in
theorem digestTexts_lifted (os : Os) (started : os.Started) (H : Type) (enc : TypeId × Value → H) :
    ReturnsInHanded {} Tryd.checked os 4 .any (fun w args => (Rows.digestTextsSpec.pre enc Tryd.prog Tryd.f4 [] false w args ∧ laidMetH Tryd.prog laidL w) ∧ sizedMet enc Tryd.prog Tryd.f4 (OpenSpec.ofChange Rows.digestTextsSpec) false w args)
      (Rows.digestTextsSpec.post enc Tryd.prog Tryd.f4 false true false false) := by
  refine returnsInHanded_of_change_and (C := Tryd.checked) (X := fun w _ => laidMetH Tryd.prog laidL w) (fun _ _ _ hh h => h.of_heap hh) Tryd.own started (by kernel_rfl) Tryd.func4
    (ChangeSpec.witness_shaped (enc := enc) (C := Tryd.checked) (os := os) (X := fun w _ => laidMetH Tryd.prog laidL w) false (World.doorLaid Tryd.prog 400 os) #[.slice none 0 0, .agg (Array.replicate 32 (.int .u8 0)), .string ⟨#[]⟩] 8 rfl (World.shaped_of_RefB (by kernel_rfl) (by kernel_rfl)) (by kernel_rfl) (by kernel_rfl) (by kernel_rfl) (door_met os _)) ?_
  intro W base args ds gs before hval0 hW _ hSz hL _
  have hval : ∀ (j : Nat) t v, Tryd.f4.params[j]? = some t → args[j]? = some v → Value.okWide Tryd.prog W .any base t v := hval0
  have hW' := hW
  obtain ⟨p, q, hA0, hV, rfl, hfz, hnd⟩ := hW
  have hA : DataW.TrodAll enc Tryd.prog W 0 (fun _ => true) true Tryd.f4.params.toList args.toList ds p := hA0
  rw [Tryd.params4] at hA hval
  obtain ⟨v0, v1, v2, d0, d1, d2, p0, p1, p2, rfl, rfl, rfl, h0, h1, h2⟩ := trodAll_three hA
  obtain ⟨rfl, rfl⟩ := trodVars_none hV
  have hSz' : (DataW.weightsEach Tryd.prog (Tryd.f4.params.toList ++ Rows.digestTextsSpec.plain.varTypes Tryd.prog) ([d0, d1, d2] ++ [])).all (· ≤ reachBytes) = true := hSz
  rw [Tryd.params4] at hSz'
  have hS0 : (d0.weights Tryd.prog 29).all (· ≤ reachBytes) = true := by
    have hh := hSz'
    simp only [List.cons_append, DataW.weightsEach, List.all_append, Bool.and_eq_true] at hh
    exact hh.1
  obtain ⟨pl, X, m, c, rfl, hp, hml, hb, hx, hc, hN, hLx, hla⟩ := open_list (hval 0 29 v0 rfl rfl) h0 hS0
  obtain ⟨f, rfl, hf, hpd⟩ := open_digest (hval 1 25 v1 rfl rfl) h1
  subst hpd
  obtain ⟨s, rfl, _, hps, _⟩ := open_string Tryd.underlying9 (hval 2 9 v2 rfl rfl) h2
  subst hps
  obtain ⟨g, n, rfl, hg⟩ := text_st s
  clear hA0 hval0
  simp only [List.append_nil] at hW'
  refine (texts_any pl X m c f g n hp (Nat.le_trans hml (by decide)) (fun i hi => Nat.le_trans (hb i hi) (by decide)) hx hc hN hf hg W (tabs_of_laid hL) hLx).mono fun e W' ⟨he, hw⟩ => ?_
  subst he
  exact ⟨_, rfl, _, _, _, [], _, [], hW', trodAll_mk1 (shut_bool Tryd.underlying4 _), trodAll_mk3 (Below.trod Tryd.laidOut (by kernel_rfl) (by decide +kernel) h0 hw hla) (Below.trod Tryd.laidOut (by kernel_rfl) (by decide +kernel) h1 hw (fun x hx => by cases hx)) (Below.trod Tryd.laidOut (by kernel_rfl) (by decide +kernel) h2 hw (fun x hx => by cases hx)), rfl, hw.frame _, fun h => by cases h⟩
theorem digestTexts_holds : Rows.DigestTextsSaid :=
  OpenClaim.holds_of_wide 4 Tryd.f4 rfl rfl rfl rfl rfl rfl rfl ⟨rfl, rfl, rfl, rfl, rfl⟩ rfl rfl rfl rfl rfl (by kernel_rfl) Tryd.func4 (by kernel_rfl)
    (of_decide_eq_true (by kernel_rfl)) (by unfold Func.isWrapper; first | (rw [if_pos (by decide +kernel)]; kernel_rfl) | (rw [if_neg (by decide +kernel)]; exact ⟨rfl, rfl⟩))
    (fun os started H enc _ => digestTexts_lifted os started H enc)
end Rg
theorem digestTextsCard_holds : Rows.DigestTextsCardSaid :=
  Claim7.holds_tied_plain_at .later [] [.data, .data] true (true, "0681e13fb5449938e8909359d3fd97142c1bd2086f105edf48f144af4ef05c25") false
    Rg.digestTexts_holds (fun _ h => by cases h) (by kernel_rfl) (fun _ h => by cases h) digestTexts_row_tie rfl ⟨rfl, rfl⟩ (by kernel_rfl) rfl
    (fun f fn hf hfn => by
      obtain rfl : f = 4 := Option.some.inj ((show Tryd.prog.funcNamed Rows.digestTextsRow.func = some 4 by kernel_rfl).symm.trans hf) |>.symm
      obtain rfl : fn = Tryd.f4 := (Option.some.inj (Tryd.func4.symm.trans hfn)).symm
      exact ⟨by kernel_rfl, fun j t ht => by
        rw [Tryd.params4] at ht
        have hm : t ∈ [29, 25, 9] := by simpa using Array.mem_of_getElem? ht
        have hall : ([29, 25, 9].all fun u => !Tryd.prog.wantsStandIn u) = true := by kernel_rfl
        exact (show Tryd.prog.wantsStandIn t = false by simpa using List.all_eq_true.1 hall t hm)⟩)
    (by kernel_rfl)
#print axioms digestTextsCard_holds
end Go.Proofs.YtfboipfpnkngdaaDoor
