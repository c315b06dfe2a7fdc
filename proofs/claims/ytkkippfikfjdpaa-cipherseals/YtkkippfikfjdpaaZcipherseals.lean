/- For any arguments the law CipherSeals returns true, and they read behind the call as they read before; there is no condition beside. -/
import Derived.Test.YtkkippfikfjdpaaP9
import Derived.ChangeMaps5
namespace Go.Proofs.Ytkkippfikfjdpaa
open Go.ChangeMaps Go.ChangeShapes Go.WideShapes Go.ChangeAt Go.RowKit
set_option maxRecDepth 100000 in
theorem cipherSeals_lifted (os : Os) (started : os.Started) (H : Type) (enc : TypeId × Value → H) :
    ReturnsInHanded {} Try.checked os 4 .any (Rows.cipherSealsSpec.pre6 enc Try.prog Try.f4 Rows.cipherSealsRow.domain false) (Rows.cipherSealsSpec.post enc Try.prog Try.f4 false true false false) := by
  refine returnsInHanded_of_change (C := Try.checked) Try.own started (by kernel_rfl) Try.func4
    (ChangeSpec.witness6 (enc := enc) (C := Try.checked) false ⟨#[], #[.slice none 0 0, .slice none 0 0, .slice none 0 0, .slice none 0 0, .slice none 0 0], []⟩ 8 (by kernel_rfl) (by kernel_rfl) (by kernel_rfl) (by kernel_rfl)) ?_
  intro W base args ds gs before hval0 hW hcnd _
  have hval : ∀ (j : Nat) t v, Try.f4.params[j]? = some t → args[j]? = some v → Value.okWide Try.prog W .any base t v := hval0
  have hW' := hW
  obtain ⟨p, q, hA0, hV, rfl, hfz, hnod⟩ := hW
  have hA : DataW.TrodAll enc Try.prog W 0 (fun _ => true) true Try.f4.params.toList args.toList ds p := hA0
  rw [Try.params4] at hA hval
  obtain ⟨v0, v1, v2, v3, v4, d0, d1, d2, d3, d4, p0, p1, p2, p3, p4, rfl, rfl, rfl, h0, h1, h2, h3, h4⟩ := trodAll_five hA
  obtain ⟨rfl, rfl⟩ := trodVars_none hV
  obtain ⟨a, ac, hba, hxa, hna, hla⟩ := open_bytes (hval 0 22 v0 rfl rfl) h0
  obtain ⟨b, bc, hbb, hxb, hnb, hlb⟩ := open_bytes (hval 1 22 v1 rfl rfl) h1
  obtain ⟨c, cc, hbc, hxc, hnc, hlc⟩ := open_bytes (hval 2 22 v2 rfl rfl) h2
  obtain ⟨d, dc, hbd, hxd, hnd, hld⟩ := open_bytes (hval 3 22 v3 rfl rfl) h3
  obtain ⟨e, ec, hbe, hxe, hne, hle⟩ := open_bytes (hval 4 22 v4 rfl rfl) h4
  clear hA0 hval0
  simp only [List.append_nil, List.append_assoc] at hW'
  refine (Rg.seals_any a ac v0 hxa b bc v1 hxb c cc v2 hxc d dc v3 hxd e ec v4 hxe W hba hna hbb hnb hbc hnc hbd hnd hbe hne).mono fun e' W' ⟨hee, hw⟩ => ?_
  subst hee
  exact ⟨_, rfl, _, _, _, [], _, [], hW', trodAll_mk1 (shut_bool Try.underlying4 _), trodAll_mk5 (Below.trod Try.laidOut (by kernel_rfl) (by decide +kernel) h0 hw hla) (Below.trod Try.laidOut (by kernel_rfl) (by decide +kernel) h1 hw hlb) (Below.trod Try.laidOut (by kernel_rfl) (by decide +kernel) h2 hw hlc) (Below.trod Try.laidOut (by kernel_rfl) (by decide +kernel) h3 hw hld) (Below.trod Try.laidOut (by kernel_rfl) (by decide +kernel) h4 hw hle), rfl, hw.frame _, fun h => by cases h⟩
theorem cipherSeals_holds : Rows.CipherSealsSaid :=
  OpenClaim.holds_of_wide 4 Try.f4 rfl rfl rfl rfl rfl rfl rfl ⟨rfl, rfl, rfl, rfl, rfl⟩ rfl rfl rfl rfl rfl (by kernel_rfl) Try.func4 (by kernel_rfl)
    (of_decide_eq_true (by kernel_rfl)) (by unfold Func.isWrapper; first | (rw [if_pos (by decide +kernel)]; kernel_rfl) | (rw [if_neg (by decide +kernel)]; exact ⟨rfl, rfl⟩))
    (fun os started H enc _ => cipherSeals_lifted os started H enc)
#print axioms cipherSeals_holds
end Go.Proofs.Ytkkippfikfjdpaa
