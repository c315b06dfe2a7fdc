/- For any arguments the law BallotNil returns true, and they read behind the call as they read before; the listed tables read as the program's text lays them, which the card ties to that text. -/
import Derived.Test.YtjadelfdhhjkdaaGreatDoorP2
import Derived.ProofKit
import Derived.OpenShut
import Derived.ChangeSlices
import Derived.ChangeMaps5
import Derived.ChangeOld
import Derived.LaidMore
import Derived.Stop.Joined
import Derived.SevenTiedAt
import Derived.Test.YtjadelfdhhjkdaaGreatDoorRows
import Derived.Test.YtjadelfdhhjkdaaGreatDoorTie
import Derived.Test.YtjadelfdhhjkdaaGreatDoorCards
namespace Go.Proofs.YtjadelfdhhjkdaaGreatDoor
open Go.ChangeMaps Go.ChangeShapes Go.WideShapes Go.ChangeAt Go.RowKit
theorem Tryz.own : ownKnob Tryz.prog.godebug = none := by kernel_rfl
theorem Tryz.laidOut : laidOutB Tryz.prog = true := by kernel_rfl
theorem cons_apart {l : List Value} {n : Nat} (h : l.length = n + 1) : ∃ a t, l = a :: t ∧ t.length = n := by
  cases l with
  | nil => cases h
  | cons a t => exact ⟨a, t, rfl, by simpa using h⟩
namespace Rg
set_option maxRecDepth 100000
abbrev laidL : List (String × DataW Unit) := Rows.ballotNilRow.laid
theorem door_met (os : Os) (args : Array Value) : laidMetH Tryz.prog laidL ((World.doorLaid Tryz.prog 400 os).forCall (fun _ _ => 0) ⟨#[], args, []⟩).memory :=
  laidMetH_of_parts3 (fuel := 8) (laidMet_of_run' 8 (by kernel_rfl) (by kernel_rfl)) (by kernel_rfl) (by kernel_rfl)
theorem ballotNil_lifted (os : Os) (started : os.Started) (H : Type) (enc : TypeId × Value → H) :
    ReturnsInHanded {} Tryz.checked os 3 .any (fun w args => (Rows.ballotNilSpec.pre enc Tryz.prog Tryz.f3 [] false w args ∧ laidMetH Tryz.prog laidL w) ∧ sizedMet enc Tryz.prog Tryz.f3 (OpenSpec.ofChange Rows.ballotNilSpec) false w args)
      (Rows.ballotNilSpec.post enc Tryz.prog Tryz.f3 false true false false) := by
  refine returnsInHanded_of_change_and (C := Tryz.checked) (X := fun w _ => laidMetH Tryz.prog laidL w) (fun _ _ _ hh h => h.of_heap hh) Tryz.own started (by kernel_rfl) Tryz.func3
    (ChangeSpec.witness_shaped (enc := enc) (C := Tryz.checked) (os := os) (X := fun w _ => laidMetH Tryz.prog laidL w) false (World.doorLaid Tryz.prog 400 os) #[.agg #[.int .i64 0, .int .i64 0, .int .i64 0, .int .u8 0, .int .u8 0, .int .u8 0, .int .u8 0, .int .u8 0, .int .u8 0, .int .u8 0, .int .u8 0, .int .u8 0, .int .u8 0, .int .u8 0, .int .u8 0, .int .u8 0, .int .u8 0, .int .u8 0, .int .u8 0, .int .u8 0, .int .u8 0, .int .u8 0, .int .u8 0, .int .u8 0, .int .u8 0, .int .u8 0, .int .u8 0, .int .u8 0, .int .u8 0, .int .u8 0, .int .u8 0, .int .u8 0, .int .u8 0, .int .u8 0, .int .u8 0, .int .i64 0, .int .i64 0, .int .u64 0, .int .u64 0, .int .u64 0, .int .u64 0, .int .u64 0, .int .u64 0, .int .u64 0, .int .u64 0, .int .u64 0, .int .u64 0, .int .u64 0, .int .u64 0, .bool false, .int .u64 0, .int .u64 0, .bool false, .int .u64 0, .int .u64 0, .int .u64 0, .int .u64 0, .int .u64 0, .int .u64 0]] 8 rfl (World.shaped_of_RefB (by kernel_rfl) (by kernel_rfl)) (by kernel_rfl) (by kernel_rfl) (by kernel_rfl) (door_met os _)) ?_
  intro W base args ds gs before hval0 hW _ _ hL _
  have hval : ∀ (j : Nat) t v, Tryz.f3.params[j]? = some t → args[j]? = some v → Value.okWide Tryz.prog W .any base t v := hval0
  have hW' := hW
  obtain ⟨p, q, hA0, hV, rfl, hfz, hnd⟩ := hW
  have hA : DataW.TrodAll enc Tryz.prog W 0 (fun _ => true) true Tryz.f3.params.toList args.toList ds p := hA0
  have hlt := hA.lt
  rw [Tryz.params3] at hA hval
  obtain ⟨v0, d0, rfl, rfl, h0⟩ := trodAll_one hA
  obtain ⟨rfl, rfl⟩ := trodVars_none hV
  have hv := hval 0 35 v0 rfl rfl
  unfold Value.okWide at hv
  rw [Tryz.underlying35] at hv
  obtain ⟨cs, rfl, hsz, ts, hts, _, hall⟩ := hv
  have hsz' : cs.toList.length = 59 := by
    rw [Array.length_toList]
    exact hsz.trans (by kernel_rfl)
  obtain ⟨l, rfl⟩ : ∃ l : List Value, cs = l.toArray := ⟨cs.toList, by simp⟩
  have k0 : l.length = 59 := by simpa using hsz'
  clear hsz hsz'
  obtain ⟨c0, m1, rfl, k1⟩ := cons_apart k0
  obtain ⟨c1, m2, rfl, k2⟩ := cons_apart k1
  obtain ⟨c2, m3, rfl, k3⟩ := cons_apart k2
  obtain ⟨c3, m4, rfl, k4⟩ := cons_apart k3
  obtain ⟨c4, m5, rfl, k5⟩ := cons_apart k4
  obtain ⟨c5, m6, rfl, k6⟩ := cons_apart k5
  obtain ⟨c6, m7, rfl, k7⟩ := cons_apart k6
  obtain ⟨c7, m8, rfl, k8⟩ := cons_apart k7
  obtain ⟨c8, m9, rfl, k9⟩ := cons_apart k8
  obtain ⟨c9, m10, rfl, k10⟩ := cons_apart k9
  obtain ⟨c10, m11, rfl, k11⟩ := cons_apart k10
  obtain ⟨c11, m12, rfl, k12⟩ := cons_apart k11
  obtain ⟨c12, m13, rfl, k13⟩ := cons_apart k12
  obtain ⟨c13, m14, rfl, k14⟩ := cons_apart k13
  obtain ⟨c14, m15, rfl, k15⟩ := cons_apart k14
  obtain ⟨c15, m16, rfl, k16⟩ := cons_apart k15
  obtain ⟨c16, m17, rfl, k17⟩ := cons_apart k16
  obtain ⟨c17, m18, rfl, k18⟩ := cons_apart k17
  obtain ⟨c18, m19, rfl, k19⟩ := cons_apart k18
  obtain ⟨c19, m20, rfl, k20⟩ := cons_apart k19
  obtain ⟨c20, m21, rfl, k21⟩ := cons_apart k20
  obtain ⟨c21, m22, rfl, k22⟩ := cons_apart k21
  obtain ⟨c22, m23, rfl, k23⟩ := cons_apart k22
  obtain ⟨c23, m24, rfl, k24⟩ := cons_apart k23
  obtain ⟨c24, m25, rfl, k25⟩ := cons_apart k24
  obtain ⟨c25, m26, rfl, k26⟩ := cons_apart k25
  obtain ⟨c26, m27, rfl, k27⟩ := cons_apart k26
  obtain ⟨c27, m28, rfl, k28⟩ := cons_apart k27
  obtain ⟨c28, m29, rfl, k29⟩ := cons_apart k28
  obtain ⟨c29, m30, rfl, k30⟩ := cons_apart k29
  obtain ⟨c30, m31, rfl, k31⟩ := cons_apart k30
  obtain ⟨c31, m32, rfl, k32⟩ := cons_apart k31
  obtain ⟨c32, m33, rfl, k33⟩ := cons_apart k32
  obtain ⟨c33, m34, rfl, k34⟩ := cons_apart k33
  obtain ⟨c34, m35, rfl, k35⟩ := cons_apart k34
  obtain ⟨c35, m36, rfl, k36⟩ := cons_apart k35
  obtain ⟨c36, m37, rfl, k37⟩ := cons_apart k36
  obtain ⟨c37, m38, rfl, k38⟩ := cons_apart k37
  obtain ⟨c38, m39, rfl, k39⟩ := cons_apart k38
  obtain ⟨c39, m40, rfl, k40⟩ := cons_apart k39
  obtain ⟨c40, m41, rfl, k41⟩ := cons_apart k40
  obtain ⟨c41, m42, rfl, k42⟩ := cons_apart k41
  obtain ⟨c42, m43, rfl, k43⟩ := cons_apart k42
  obtain ⟨c43, m44, rfl, k44⟩ := cons_apart k43
  obtain ⟨c44, m45, rfl, k45⟩ := cons_apart k44
  obtain ⟨c45, m46, rfl, k46⟩ := cons_apart k45
  obtain ⟨c46, m47, rfl, k47⟩ := cons_apart k46
  obtain ⟨c47, m48, rfl, k48⟩ := cons_apart k47
  obtain ⟨c48, m49, rfl, k49⟩ := cons_apart k48
  obtain ⟨c49, m50, rfl, k50⟩ := cons_apart k49
  obtain ⟨c50, m51, rfl, k51⟩ := cons_apart k50
  obtain ⟨c51, m52, rfl, k52⟩ := cons_apart k51
  obtain ⟨c52, m53, rfl, k53⟩ := cons_apart k52
  obtain ⟨c53, m54, rfl, k54⟩ := cons_apart k53
  obtain ⟨c54, m55, rfl, k55⟩ := cons_apart k54
  obtain ⟨c55, m56, rfl, k56⟩ := cons_apart k55
  obtain ⟨c56, m57, rfl, k57⟩ := cons_apart k56
  obtain ⟨c57, m58, rfl, k58⟩ := cons_apart k57
  obtain ⟨c58, m59, rfl, k59⟩ := cons_apart k58
  obtain rfl := List.eq_nil_of_length_eq_zero k59
  obtain ⟨u, hu, hok⟩ := hall 2 c2 rfl
  have e2 : (Tryz.prog.cellTypes Tryz.prog.depth 35).bind (fun ts => ts[2 % ts.length]?) = some 3 := by kernel_rfl
  rw [hts] at e2
  obtain rfl : u = 3 := Option.some.inj (hu.symm.trans e2)
  unfold Cell.okWide Cell.ok at hok
  rw [Tryz.underlying3] at hok
  have hk : ∃ k : Int, c2 = .int .i64 k := by
    cases c2 with
    | int kk n => exact ⟨n, by simp at hok; rw [hok.1]⟩
    | _ => simp at hok
  obtain ⟨k, rfl⟩ := hk
  clear hA0 hval0 hall
  simp only [List.append_nil] at hW'
  refine (Wi.ballotNil_any k c0 c1 c3 c4 c5 c6 c7 c8 c9 c10 c11 c12 c13 c14 c15 c16 c17 c18 c19 c20 c21 c22 c23 c24 c25 c26 c27 c28 c29 c30 c31 c32 c33 c34 c35 c36 c37 c38 c39 c40 c41 c42 c43 c44 c45 c46 c47 c48 c49 c50 c51 c52 c53 c54 c55 c56 c57 c58 W).mono fun e W' ⟨he, hw⟩ => ?_
  subst he
  exact ⟨_, rfl, _, _, _, [], _, [], hW', trodAll_mk1 (shut_bool Tryz.underlying4 _), trodAll_mk1 (Below.trod Tryz.laidOut (by kernel_rfl) (by decide +kernel) h0 hw hlt), rfl, hw.frame _, fun h => by cases h⟩
theorem ballotNil_holds : Rows.BallotNilSaid :=
  OpenClaim.holds_of_wide 3 Tryz.f3 rfl rfl rfl rfl rfl rfl rfl ⟨rfl, rfl, rfl, rfl, rfl⟩ rfl rfl rfl rfl rfl (by kernel_rfl) Tryz.func3 (by kernel_rfl)
    (of_decide_eq_true (by kernel_rfl)) (by unfold Func.isWrapper; first | (rw [if_pos (by decide +kernel)]; kernel_rfl) | (rw [if_neg (by decide +kernel)]; exact ⟨rfl, rfl⟩))
    (fun os started H enc _ => ballotNil_lifted os started H enc)
end Rg
theorem ballotNilCard_holds : Rows.BallotNilCardSaid :=
  Claim7.holds_tied_plain_at .later [] [.data, .data, .data] true (true, "f45897074e30598df46d1dc8ce94ba3d8a94a57239329eb70b4260e8a656e338") false
    Rg.ballotNil_holds (fun _ h => by cases h) (by kernel_rfl) (fun _ h => by cases h) ballotNil_row_tie rfl ⟨rfl, rfl⟩ (by kernel_rfl) rfl
    (fun f fn hf hfn => by
      obtain rfl : f = 3 := Option.some.inj ((show Tryz.prog.funcNamed Rows.ballotNilRow.func = some 3 by kernel_rfl).symm.trans hf) |>.symm
      obtain rfl : fn = Tryz.f3 := (Option.some.inj (Tryz.func3.symm.trans hfn)).symm
      exact ⟨by kernel_rfl, fun j t ht => by
        rw [Tryz.params3] at ht
        have hm : t ∈ [35] := by simpa using Array.mem_of_getElem? ht
        have hall : ([35].all fun u => !Tryz.prog.wantsStandIn u) = true := by kernel_rfl
        exact (show Tryz.prog.wantsStandIn t = false by simpa using List.all_eq_true.1 hall t hm)⟩)
    (by kernel_rfl)
#print axioms ballotNilCard_holds
end Go.Proofs.YtjadelfdhhjkdaaGreatDoor
