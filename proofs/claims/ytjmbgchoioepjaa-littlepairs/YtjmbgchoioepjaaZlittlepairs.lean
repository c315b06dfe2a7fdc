/- For any arguments the law LittlePairs returns true, and they read behind the call as they read before; there is no condition beside. -/
import Derived.Test.YtjmbgchoioepjaaP8
import Derived.ChangeMaps5
namespace Go.Proofs.Ytjmbgchoioepjaa
open Go.ChangeMaps Go.ChangeShapes Go.WideShapes Go.ChangeAt Go.RowKit
set_option maxRecDepth 100000 in
theorem littlePairs_lifted (os : Os) (started : os.Started) (H : Type) (enc : TypeId × Value → H) :
    ReturnsInHanded {} Try.checked os 4 .any (Rows.littlePairsSpec.pre6 enc Try.prog Try.f4 Rows.littlePairsRow.domain false) (Rows.littlePairsSpec.post enc Try.prog Try.f4 false true false false) := by
  refine returnsInHanded_of_change (C := Try.checked) Try.own started (by kernel_rfl) Try.func4
    (ChangeSpec.witness6 (enc := enc) (C := Try.checked) false ⟨#[], #[.int .i64 0, .agg #[.int .u64 0, .int .u64 0, .bool false], .agg #[.int .u64 0, .int .u64 0, .bool false], .agg #[.int .u64 0, .int .u64 0], .agg #[.int .u64 0, .int .u64 0], .int .u64 0], []⟩ 8 (by kernel_rfl) (by kernel_rfl) (by kernel_rfl) (by kernel_rfl)) ?_
  intro W base args ds gs before hval0 hW hcnd _
  have hval : ∀ (j : Nat) t v, Try.f4.params[j]? = some t → args[j]? = some v → Value.okWide Try.prog W .any base t v := hval0
  have hW' := hW
  obtain ⟨p, q, hA0, hV, rfl, hfz, hnd⟩ := hW
  have hA : DataW.TrodAll enc Try.prog W 0 (fun _ => true) true Try.f4.params.toList args.toList ds p := hA0
  rw [Try.params4] at hA hval
  obtain ⟨v0, v1, v2, v3, v4, v5, d0, d1, d2, d3, d4, d5, p0, p1, p2, p3, p4, p5, rfl, rfl, rfl, h0, h1, h2, h3, h4, h5⟩ := trodAll_six hA
  obtain ⟨rfl, rfl⟩ := trodVars_none hV
  obtain ⟨a, rfl, rfl, rfl, ha⟩ := open_int Try.underlying22 (hval 0 22 v0 rfl rfl) h0
  obtain ⟨b0, b1, b2, hb0, hb1, rfl, rfl⟩ := open_L1 (hval 1 25 v1 rfl rfl) h1
  obtain ⟨c0, c1, c2, hc0, hc1, rfl, rfl⟩ := open_L1 (hval 2 25 v2 rfl rfl) h2
  obtain ⟨d0, d1, hd0, hd1, rfl, rfl⟩ := open_L2 (hval 3 49 v3 rfl rfl) h3
  obtain ⟨e0, e1, he0, he1, rfl, rfl⟩ := open_L2 (hval 4 49 v4 rfl rfl) h4
  obtain ⟨f, hf, rfl, rfl⟩ := open_U (hval 5 23 v5 rfl rfl) h5
  clear hA0 hval0
  simp only [List.append_nil] at hW'
  refine (Rg.pairs_any a b0 b1 b2 c0 c1 c2 d0 d1 e0 e1 f hf W).mono fun e W' ⟨he, hw⟩ => ?_
  subst he
  exact ⟨_, rfl, _, _, _, [], [], [], hW', trodAll_mk1 (shut_bool Try.underlying4 _), trodAll_mk6 (shut_int Try.underlying22 ha) (l1_stays h1 hw) (l1_stays h2 hw) (l2_stays h3 hw) (l2_stays h4 hw) (u_stays h5 hw), rfl, hw.frame _, fun h => by cases h⟩
theorem littlePairs_holds : Rows.LittlePairsSaid :=
  OpenClaim.holds_of_wide 4 Try.f4 rfl rfl rfl rfl rfl rfl rfl ⟨rfl, rfl, rfl, rfl, rfl⟩ rfl rfl rfl rfl rfl (by kernel_rfl) Try.func4 (by kernel_rfl)
    (of_decide_eq_true (by kernel_rfl)) (by unfold Func.isWrapper; first | (rw [if_pos (by decide +kernel)]; kernel_rfl) | (rw [if_neg (by decide +kernel)]; exact ⟨rfl, rfl⟩))
    (fun os started H enc _ => littlePairs_lifted os started H enc)
#print axioms littlePairs_holds
end Go.Proofs.Ytjmbgchoioepjaa
