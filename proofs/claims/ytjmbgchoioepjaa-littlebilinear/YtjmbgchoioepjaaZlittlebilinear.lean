/- For any arguments the law LittleBilinear returns true, and they read behind the call as they read before; there is no condition beside. -/
import Derived.Test.YtjmbgchoioepjaaP8
import Derived.ChangeMaps5
namespace Go.Proofs.Ytjmbgchoioepjaa
open Go.ChangeMaps Go.ChangeShapes Go.WideShapes Go.ChangeAt Go.RowKit
set_option maxRecDepth 100000 in
theorem littleBilinear_lifted (os : Os) (started : os.Started) (H : Type) (enc : TypeId × Value → H) :
    ReturnsInHanded {} Try.checked os 7 .any (Rows.littleBilinearSpec.pre6 enc Try.prog Try.f7 Rows.littleBilinearRow.domain false) (Rows.littleBilinearSpec.post enc Try.prog Try.f7 false true false false) := by
  refine returnsInHanded_of_change (C := Try.checked) Try.own started (by kernel_rfl) Try.func7
    (ChangeSpec.witness6 (enc := enc) (C := Try.checked) false ⟨#[], #[.int .i64 0, .agg #[.int .u64 0, .int .u64 0, .bool false], .agg #[.int .u64 0, .int .u64 0, .bool false], .agg #[.int .u64 0, .int .u64 0, .bool false], .int .u32 0, .int .u32 0], []⟩ 8 (by kernel_rfl) (by kernel_rfl) (by kernel_rfl) (by kernel_rfl)) ?_
  intro W base args ds gs before hval0 hW hcnd _
  have hval : ∀ (j : Nat) t v, Try.f7.params[j]? = some t → args[j]? = some v → Value.okWide Try.prog W .any base t v := hval0
  have hW' := hW
  obtain ⟨p, q, hA0, hV, rfl, hfz, hnd⟩ := hW
  have hA : DataW.TrodAll enc Try.prog W 0 (fun _ => true) true Try.f7.params.toList args.toList ds p := hA0
  rw [Try.params7] at hA hval
  obtain ⟨v0, v1, v2, v3, v4, v5, d0, d1, d2, d3, d4, d5, p0, p1, p2, p3, p4, p5, rfl, rfl, rfl, h0, h1, h2, h3, h4, h5⟩ := trodAll_six hA
  obtain ⟨rfl, rfl⟩ := trodVars_none hV
  obtain ⟨a, rfl, rfl, rfl, ha⟩ := open_int Try.underlying22 (hval 0 22 v0 rfl rfl) h0
  obtain ⟨b0, b1, b2, hb0, hb1, rfl, rfl⟩ := open_L1 (hval 1 25 v1 rfl rfl) h1
  obtain ⟨c0, c1, c2, hc0, hc1, rfl, rfl⟩ := open_L1 (hval 2 25 v2 rfl rfl) h2
  obtain ⟨d0, d1, d2, hd0, hd1, rfl, rfl⟩ := open_L1 (hval 3 25 v3 rfl rfl) h3
  obtain ⟨e, he, rfl, rfl⟩ := open_W (hval 4 68 v4 rfl rfl) h4
  obtain ⟨f, hf, rfl, rfl⟩ := open_W (hval 5 68 v5 rfl rfl) h5
  clear hA0 hval0
  simp only [List.append_nil] at hW'
  refine (Rg.bil_any a b0 b1 b2 c0 c1 c2 d0 d1 d2 e he f hf W).mono fun e W' ⟨he, hw⟩ => ?_
  subst he
  exact ⟨_, rfl, _, _, _, [], [], [], hW', trodAll_mk1 (shut_bool Try.underlying4 _), trodAll_mk6 (shut_int Try.underlying22 ha) (l1_stays h1 hw) (l1_stays h2 hw) (l1_stays h3 hw) (w_stays h4 hw) (w_stays h5 hw), rfl, hw.frame _, fun h => by cases h⟩
theorem littleBilinear_holds : Rows.LittleBilinearSaid :=
  OpenClaim.holds_of_wide 7 Try.f7 rfl rfl rfl rfl rfl rfl rfl ⟨rfl, rfl, rfl, rfl, rfl⟩ rfl rfl rfl rfl rfl (by kernel_rfl) Try.func7 (by kernel_rfl)
    (of_decide_eq_true (by kernel_rfl)) (by unfold Func.isWrapper; first | (rw [if_pos (by decide +kernel)]; kernel_rfl) | (rw [if_neg (by decide +kernel)]; exact ⟨rfl, rfl⟩))
    (fun os started H enc _ => littleBilinear_lifted os started H enc)
#print axioms littleBilinear_holds
end Go.Proofs.Ytjmbgchoioepjaa
