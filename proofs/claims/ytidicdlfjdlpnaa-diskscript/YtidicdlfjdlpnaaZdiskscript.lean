/- For any numbers and any list of calls handed in the law DiskScript returns true, and they read behind the call as they read before; there is no condition beside. -/
import Derived.Test.YtidicdlfjdlpnaaP9
namespace Go.Proofs.Ytidicdlfjdlpnaa
open Go.ChangeMaps Go.ChangeShapes Go.WideShapes Go.ChangeAt Go.RowKit
open Rg.Wi
set_option maxRecDepth 100000
theorem script_any {w : World} {p : Option Addr} {n c g o : Nat} {F : Nat → Int} {pl : Option Addr} {m cl b off : Nat} {ys : Nat → Acd} (hin : Ins w p n c g o F) (hac : Acs w pl m b off ys) (hok : Aok w m ys) (hm : m ≤ 9223372036854775807) :
    Calls Try.prog 3 #[.slice p n c, .slice pl m cl] w fun e w' => e = .returned (.bool true) ∧ Below w.heap.size w w' := by
  by_cases hg : Lgd m ys
  · by_cases h1 : n ≤ 100
    · exact script_main hin hac hm hok hg h1
    · by_cases h2 : n ≤ 4096
      · exact script_mid hin hac hm hg (by omega) h2
      · by_cases h3 : n ≤ 4105
        · exact script_long hin hac hm hg (by omega) h3
        · exact script_big hin hac hm hg (by omega)
  · exact script_bad hin hac hm hg
section
variable {H : Type} {enc : TypeId × Value → H} {w : World} {base : Nat} {sp : Nat → Bool} {held : Bool} {r : Reach} {b0 : Nat} {v0 v1 : Value} {d0 d1 : DataW H} {p0 p1 : List MemPlace}
theorem script_lift (hv0 : Value.okWide Try.prog w r b0 22 v0) (h0 : DataW.Trod enc Try.prog w base sp held 22 v0 d0 p0) (hv1 : Value.okWide Try.prog w r b0 23 v1) (h1 : DataW.Trod enc Try.prog w base sp held 23 v1 d1 p1) (hw : ∀ x ∈ d1.weights Try.prog 23, x ≤ reachBytes) :
    Calls Try.prog 3 #[v0, v1] w fun e w' => e = .returned (.bool true) ∧ Below w.heap.size w w' := by
  obtain ⟨a0, len0, cap0, rfl⟩ := okWide_slice Try.underlying22 hv0
  obtain ⟨f0, hf0⟩ := h0
  obtain ⟨p, n, c, g, o, e0, k0, _, kz, k2, k3⟩ := open_row Try.underlying22 cells3 (by decide) hf0
  obtain ⟨a1, len1, cap1, rfl⟩ := okWide_slice Try.underlying23 hv1
  obtain ⟨f1, hf1⟩ := h1
  obtain ⟨pl, m, cl, b, off, e1, j0, jm, jz, j2, j3⟩ := open_row Try.underlying23 cells37 (by decide) hf1
  simp [Value.cells] at e0 e1
  obtain ⟨rfl, rfl, rfl⟩ := e0
  obtain ⟨rfl, rfl, rfl⟩ := e1
  have part0 : ∀ i, ∃ z : Int, i < len0 → w.cell? ⟨g, o + i, none⟩ = some (.int .i64 z) ∧ (Lit.int .i64 z).wf = true := fun i => by
    by_cases hi : i < len0
    · obtain ⟨es, n', z', _, g1, _, g2⟩ := k3 i hi
      obtain ⟨z, rfl, _, hz⟩ := DataW.trod_int Try.underlying3 g1
      refine ⟨z, fun _ => ⟨?_, hz⟩⟩
      have := g2 0 (by decide)
      simpa using this
    · exact ⟨0, fun h => absurd h hi⟩
  obtain ⟨F, hF⟩ := Classical.axiomOfChoice part0
  have part1 : ∀ i, ∃ a : Acd, i < len1 → (∀ j, j < 6 → w.cell? ⟨b, off + (i * 6 + j), none⟩ = a.c[j]?) ∧ a.k < 256 ∧ a.n < 9223372036854775808 ∧ Pq a.q w ∧ (∀ x ∈ gbl a.q, x < w.heap.size) ∧ (∃ zs, Kin w a.kp a.kn a.kc zs) ∧ a.s.size ≤ 140737488351232 ∧ a.t.size ≤ 140737488351232 := fun i => by
    by_cases hi : i < len1
    · obtain ⟨es, n', z', _, g1, g3, g2⟩ := j3 i hi
      obtain ⟨a, rfl, q⟩ := open_act g1 fun x hx => hw x (g3 x hx)
      exact ⟨a, fun _ => ⟨fun j hj => (g2 j hj).trans (by rw [Array.getElem?_toList]), q⟩⟩
    · exact ⟨⟨0, ⟨#[]⟩, ⟨#[]⟩, ⟨0, 0, 0, 0, none, fun _ => 0⟩, 0, none, 0, 0⟩, fun h => absurd h hi⟩
  obtain ⟨ys, hY⟩ := Classical.axiomOfChoice part1
  refine script_any (F := F) (g := g) (o := o) (b := b) (off := off) (ys := ys) ⟨fun e => ?_, k2, fun i hi => (hF i hi).1, fun i hi => (hF i hi).2⟩ ⟨j2, fun i hi j hj => ?_, fun i hi => (hY i hi).2.2.2.2.2.2⟩ (fun i hi => ?_) (Nat.le_trans j0 (Nat.le_trans jm (by decide)))
  · have := kz e
    exact ⟨by omega, this⟩
  · rw [show off + i * 6 + j = off + (i * 6 + j) by omega]
    exact (hY i hi).1 j hj
  · obtain ⟨_, q1, q2, q3, q4, q5, _⟩ := hY i hi
    exact ⟨q1, q2, q3, q4, q5⟩
end
theorem diskScript_lifted (os : Os) (started : os.Started) (H : Type) (enc : TypeId × Value → H) :
    ReturnsInHanded {} Try.checked os 3 .any (Rows.diskScriptSpec.pre6 enc Try.prog Try.f3 Rows.diskScriptRow.domain false) (Rows.diskScriptSpec.post enc Try.prog Try.f3 false true false false) := by
  refine returnsInHanded_of_change_sized (C := Try.checked) Try.own started (by kernel_rfl) Try.func3
    (ChangeSpec.witness6 (enc := enc) (C := Try.checked) false ⟨#[], #[.slice none 0 0, .slice none 0 0], []⟩ 8 (by kernel_rfl) (by kernel_rfl) (by kernel_rfl) (by kernel_rfl)) ?_
  intro W base args ds gs before hval0 hW _ hSz _
  have hval : ∀ (j : Nat) t v, Try.f3.params[j]? = some t → args[j]? = some v → Value.okWide Try.prog W .any base t v := hval0
  have hW' := hW
  obtain ⟨p, q, hA0, hV, rfl, hfz, hnod⟩ := hW
  have hA : DataW.TrodAll enc Try.prog W 0 (fun _ => true) true Try.f3.params.toList args.toList ds p := hA0
  have hlt := hA.lt
  rw [Try.params3] at hA hval
  obtain ⟨v0, v1, d0, d1, p0, p1, rfl, rfl, rfl, h0, h1⟩ := trodAll_two hA
  obtain ⟨rfl, rfl⟩ := trodVars_none hV
  have hSz' : (DataW.weightsEach Try.prog (Try.f3.params.toList ++ Rows.diskScriptSpec.plain.varTypes Try.prog) ([d0, d1] ++ [])).all (· ≤ reachBytes) = true := hSz
  rw [Try.params3] at hSz'
  have hS1 : ∀ x ∈ d1.weights Try.prog 23, x ≤ reachBytes := fun x hx => by
    have hh := List.all_eq_true.1 hSz' x (DataW.weights_mem_each (j := 1) (t := 23) (d := d1) rfl rfl x hx)
    simpa using hh
  clear hA0 hval0
  simp only [List.append_nil] at hW'
  refine (script_lift (hval 0 22 v0 rfl rfl) h0 (hval 1 23 v1 rfl rfl) h1 hS1).mono fun e' W' ⟨hee, hw⟩ => ?_
  subst hee
  exact ⟨_, rfl, _, _, _, [], _, [], hW', trodAll_mk1 (shut_bool Try.underlying4 _), trodAll_mk2 (Below.trod Try.laidOut (by kernel_rfl) (by decide +kernel) h0 hw fun x hx => hlt x (by simp [hx])) (Below.trod Try.laidOut (by kernel_rfl) (by decide +kernel) h1 hw fun x hx => hlt x (by simp [hx])), rfl, hw.frame _, fun h => by cases h⟩
theorem diskScript_holds : Rows.DiskScriptSaid :=
  OpenClaim.holds_of_wide 3 Try.f3 rfl rfl rfl rfl rfl rfl rfl ⟨rfl, rfl, rfl, rfl, rfl⟩ rfl rfl rfl rfl rfl (by kernel_rfl) Try.func3 (by kernel_rfl)
    (of_decide_eq_true (by kernel_rfl)) (by unfold Func.isWrapper; first | (rw [if_pos (by decide +kernel)]; kernel_rfl) | (rw [if_neg (by decide +kernel)]; exact ⟨rfl, rfl⟩))
    (fun os started H enc _ => diskScript_lifted os started H enc)
#print axioms diskScript_holds
end Go.Proofs.Ytidicdlfjdlpnaa
