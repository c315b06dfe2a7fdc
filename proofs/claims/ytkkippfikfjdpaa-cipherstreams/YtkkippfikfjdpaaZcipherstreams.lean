/- For any arguments the law CipherStreams returns true, and they read behind the call as they read before; there is no condition beside. -/
import Derived.Test.YtkkippfikfjdpaaP8
import Derived.ChangeMaps5
namespace Go.Proofs.Ytkkippfikfjdpaa
open Go.ChangeMaps Go.ChangeShapes Go.WideShapes Go.ChangeAt Go.RowKit
set_option maxRecDepth 100000 in
theorem cipherStreams_lifted (os : Os) (started : os.Started) (H : Type) (enc : TypeId × Value → H) :
    ReturnsInHanded {} Try.checked os 3 .any (Rows.cipherStreamsSpec.pre6 enc Try.prog Try.f3 Rows.cipherStreamsRow.domain false) (Rows.cipherStreamsSpec.post enc Try.prog Try.f3 false true false false) := by
  refine returnsInHanded_of_change (C := Try.checked) Try.own started (by kernel_rfl) Try.func3
    (ChangeSpec.witness6 (enc := enc) (C := Try.checked) false ⟨#[], #[.slice none 0 0, .slice none 0 0, .int .u32 0, .slice none 0 0], []⟩ 8 (by kernel_rfl) (by kernel_rfl) (by kernel_rfl) (by kernel_rfl)) ?_
  intro W base args ds gs before hval0 hW hcnd _
  have hval : ∀ (j : Nat) t v, Try.f3.params[j]? = some t → args[j]? = some v → Value.okWide Try.prog W .any base t v := hval0
  have hW' := hW
  obtain ⟨p, q, hA0, hV, rfl, hfz, hnod⟩ := hW
  have hA : DataW.TrodAll enc Try.prog W 0 (fun _ => true) true Try.f3.params.toList args.toList ds p := hA0
  rw [Try.params3] at hA hval
  obtain ⟨v0, v1, v2, v3, d0, d1, d2, d3, p0, p1, p2, p3, rfl, rfl, rfl, h0, h1, h2, h3⟩ := trodAll_four hA
  obtain ⟨rfl, rfl⟩ := trodVars_none hV
  obtain ⟨a, ac, hba, hxa, hna, hla⟩ := open_bytes (hval 0 22 v0 rfl rfl) h0
  obtain ⟨b, bc, hbb, hxb, hnb, hlb⟩ := open_bytes (hval 1 22 v1 rfl rfl) h1
  obtain ⟨c, hc, rfl, rfl⟩ := open_W (hval 2 23 v2 rfl rfl) h2
  obtain ⟨d, dc, hbd, hxd, hnd, hld⟩ := open_bytes (hval 3 22 v3 rfl rfl) h3
  clear hA0 hval0
  simp only [List.append_nil, List.append_assoc] at hW'
  refine (Rg.streams_any a ac v0 hxa b bc v1 hxb c hc d dc v3 hxd W hba hna hbb hnb hbd hnd).mono fun e' W' ⟨hee, hw⟩ => ?_
  subst hee
  exact ⟨_, rfl, _, _, _, [], _, [], hW', trodAll_mk1 (shut_bool Try.underlying4 _), trodAll_mk4 (Below.trod Try.laidOut (by kernel_rfl) (by decide +kernel) h0 hw hla) (Below.trod Try.laidOut (by kernel_rfl) (by decide +kernel) h1 hw hlb) (w_stays h2 hw) (Below.trod Try.laidOut (by kernel_rfl) (by decide +kernel) h3 hw hld), rfl, hw.frame _, fun h => by cases h⟩
theorem cipherStreams_holds : Rows.CipherStreamsSaid :=
  OpenClaim.holds_of_wide 3 Try.f3 rfl rfl rfl rfl rfl rfl rfl ⟨rfl, rfl, rfl, rfl, rfl⟩ rfl rfl rfl rfl rfl (by kernel_rfl) Try.func3 (by kernel_rfl)
    (of_decide_eq_true (by kernel_rfl)) (by unfold Func.isWrapper; first | (rw [if_pos (by decide +kernel)]; kernel_rfl) | (rw [if_neg (by decide +kernel)]; exact ⟨rfl, rfl⟩))
    (fun os started H enc _ => cipherStreams_lifted os started H enc)
#print axioms cipherStreams_holds
end Go.Proofs.Ytkkippfikfjdpaa
