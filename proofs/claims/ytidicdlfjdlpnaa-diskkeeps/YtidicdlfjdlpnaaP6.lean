/- Texts of the proof, joined. -/
import Derived.Test.YtidicdlfjdlpnaaP5
import Derived.Maps.OwnSet
import Derived.Shelf.SlGeneric
import Derived.Shelf.SlIter.Nil
import Derived.Shelf.SortM.Plain
import Derived.Shelf.SortM.SortNone
import Derived.Ground.GgzProg
import Derived.Ground.SlgmProg
import Derived.Test.YtidicdlfjdlpnaaProg
import Derived.Laws.Shifts
import Derived.Laws.Bits64b
import Derived.Laws.Unary
import Derived.ProofKit
import Derived.OpenShut
import Derived.ChangeSlices
import Derived.ChangeMaps5
import Derived.Test.YtidicdlfjdlpnaaRows
section
namespace Go.Proofs.Ytidicdlfjdlpnaa
open Go.RowKit
namespace Rg
namespace Wi
set_option maxRecDepth 100000
open Go.Shelf Go.Maps
theorem quiet_f_hit (D : Dq) (s : ByteArray) (hs : s.size ≤ maxLen) (f : Fq) (w : World) (h : DOk w D) (hl : lk D.fs s = some f) (ho : f.ops.length = 0) : Calls Try.prog 74 #[PT D.d 0, .string s] w fun e w' => e = .returned (.tuple #[PT f.g 0, .int .i64 0]) ∧ Below w.heap.size w w' := by
  obtain ⟨hf, _⟩ := lk_mem hl
  obtain ⟨pu, cu, eu⟩ := (h.fl f hf).bare ho
  have h2 := h.two hf
  rw [eu] at h2
  exact quiet_hit D.d D.mb D.rb f.g 0 cu pu f.s f.fr _ s rfl w h2 (fun u hu => by rw [h.look s hs (hu.block _ (h.blt _ (by unfold Dq.bl; simp))), hl]; rfl)
theorem quiet_f_busy (D : Dq) (s : ByteArray) (hs : s.size ≤ maxLen) (f : Fq) (w : World) (h : DOk w D) (hl : lk D.fs s = some f) (ho : 0 < f.ops.length) : Calls Try.prog 74 #[PT D.d 0, .string s] w fun e w' => e = .returned (.tuple #[.pointer none, .int .i64 10]) ∧ Below w.heap.size w w' := by
  obtain ⟨hf, _⟩ := lk_mem hl
  obtain ⟨gu, cu, eu, _⟩ := (h.fl f hf).und ho
  have h2 := h.two hf
  rw [eu] at h2
  exact quiet_busy D.d D.mb D.rb f.g f.ops.length cu _ f.s f.fr _ s ho w h2 (fun u hu => by rw [h.look s hs (hu.block _ (h.blt _ (by unfold Dq.bl; simp))), hl]; rfl)
theorem bel_on {w u v : World} (h1 : Below w.heap.size w u) (h2 : Below u.heap.size u v) : Below w.heap.size w v := h1.trans (h2.mono h1.size)
theorem named_is {t : ByteArray} (hn : nmd t = true) (w : World) : Calls Try.prog 67 #[.string t] w fun e w' => e = .returned (.bool true) ∧ Below w.heap.size w w' := by
  have := named_any t w
  rwa [hn] at this
set_option maxHeartbeats 2000000 in
theorem Rename_busy_f (D : Dq) (s t : ByteArray) (hs : s.size ≤ maxLen) (hn : nmd t = true) (f : Fq) (w : World) (h : DOk w D) (hk : D.k + 1 < 4611686018427387904) (hno : D.no = false) (hl : lk D.fs s = some f) (ho : 0 < f.ops.length) :
    Calls Try.prog 22 #[PT D.d 0, .string s, .string t] w fun e w' => e = .returned (.int .i64 10) ∧ Dw w D D.tick w' := by
  have hc0 : Calls Try.prog 66 #[PT D.d 0] w fun e w' => e = .returned (.int .i64 0) ∧ DOk w' D.tick ∧ Chg D.bl w w' := (count_f D w h hk).mono fun e w' hh => ⟨by rw [hh.1, hno]; rfl, hh.2⟩
  clear h
  go_enter Try.func22, Try.ntmps22
  go_wp2_with (first
    | (go_at_call 66; refine hc0.mono ?_; rintro e w1 ⟨rfl, h1, hc1⟩; have HD : Hid (DOk w1 D.tick) := h1; clear h1)
    | (go_at_call 67; refine (named_is hn w1).mono ?_; rintro e w2 ⟨rfl, hb2⟩)
    | (go_at_call 74; refine (quiet_f_busy D.tick s hs f w2 (HD.out.below hb2) hl ho).mono ?_; rintro e w3 ⟨rfl, hb3⟩)
    | go_in)
  go_ret
  exact ⟨rfl, HD.out.below (bel_on hb2 hb3), hc1.below (bel_on hb2 hb3), fun x hx => .inl hx⟩
theorem ren_put {w w3 w4 u : World} {D0 : Dq} {D : Dq} {f : Fq} {s t : ByteArray} {X : DataW Nat} {n : Nat} (h : DOk w3 D) (hc : Chg D0.bl w w3) (hl : lk D.fs s = some f) (ht : t.size ≤ maxLen) (x2 : ∀ x, X.atKey (ky x) .nil = dv (lk D.fs x)) (x3 : ∀ x, Maps.has X (ky x) = (lk D.fs x).isSome) (hown : w4.ownsMap Try.prog 9 RF D.mb n (X.del (ky s))) (hg : w3.grownBy w4 (some D.mb)) (hb : Below w4.heap.size w4 u) (hn : n < maxLen) (hmb : D.mb ∈ D0.bl) :
    ∃ u', (Instr.mapUpdate 39 (.map (some D.mb)) (.string t) (PT f.g 0)).run Try.prog u = .ok () u' ∧ DOk u' (D.ren f s t) ∧ Chg D0.bl w u' := by
  have hlt := hown.lt
  have y1 := ownMap_keep hown (hb.block _ hlt)
  obtain ⟨u', hr, hm, hg2⟩ := y1.update (Maps.string_keyed Try.underlying9) Try.underlying39 hn (WideMaps.keyOf_string_mk Try.underlying9 ht) (show RF (PT f.g 0) = some (.held f.g, []) from rfl)
  have c1 : Chg [D.mb] w3 u' := ((Chg.grown hg).below hb).trans (Chg.grown hg2) (fun x hx => .inl hx)
  refine ⟨u', hr, h.ren hl c1 hm (fun x => ?_) (fun x => ?_), hc.trans c1 (fun x hx => .inl (by rw [List.mem_singleton.1 hx]; exact hmb))⟩
  · by_cases e : x = t
    · subst e
      rw [if_pos rfl]
      exact Maps.atKey_put_same y1.isMap (ky_lit x) _ _
    · rw [if_neg e, show (DataW.put (X.del (ky s)) (Lit.string t.data.toList) (.held f.g)).atKey (ky x) .nil = (X.del (ky s)).atKey (ky x) .nil from Maps.atKey_put_other (fun e2 => e (ky_inj e2)) _ _]
      by_cases e2 : x = s
      · rw [if_pos e2, e2, Maps.atKey_del_same]
      · rw [if_neg e2, Maps.atKey_del_other (fun e3 => e2 (ky_inj e3)), x2]
  · by_cases e : x = t
    · subst e
      rw [decide_eq_true rfl, Bool.true_or]
      exact Maps.has_put_same y1.isMap (ky_lit x) _
    · rw [decide_eq_false e, Bool.false_or, show Maps.has (DataW.put (X.del (ky s)) (Lit.string t.data.toList) (.held f.g)) (ky x) = Maps.has (X.del (ky s)) (ky x) from Maps.has_put_other (fun e2 => e (ky_inj e2)) _]
      by_cases e2 : x = s
      · rw [decide_eq_true e2, e2, Maps.has_del_same]
        rfl
      · rw [decide_eq_false e2, Maps.has_del_other (fun e3 => e2 (ky_inj e3)), x3]
        rfl
theorem ren_pre {w : World} {D : Dq} (h : DOk w D) : ∃ X, w.ownsMap Try.prog 9 RF D.mb D.fs.length X ∧ (∀ x, X.atKey (ky x) .nil = dv (lk D.fs x)) ∧ (∀ x, Maps.has X (ky x) = (lk D.fs x).isSome) ∧ w.cell? ⟨D.d, 0, none⟩ = some (.map (some D.mb)) ∧ ∀ u, w.mapTurned u D.mb → Mm u [(D.d, [Value.map (some D.mb), Value.map (some D.rb), Value.int .i64 ((D.k : Nat) : Int)])] := by
  obtain ⟨X, x1, x2, x3, x4⟩ := h.mp
  refine ⟨X, x1, x2, x3, ((h.cel.blk _ (List.mem_cons_self ..)).2 0 _ rfl).1, fun u hq => (Chg.grown hq.grown).mm h.cel (fun p hp hm => h.h3.1 ?_)⟩
  obtain rfl := List.mem_singleton.1 hp
  simpa using hm
end Wi
end Rg
end Go.Proofs.Ytidicdlfjdlpnaa
end
section
namespace Go.Proofs.Ytidicdlfjdlpnaa
open Go.RowKit
namespace Rg
namespace Wi
set_option maxRecDepth 100000
open Go.Shelf Go.Maps
set_option maxHeartbeats 400000 in
theorem Rename_ok_f (D : Dq) (s t : ByteArray) (hs : s.size ≤ maxLen) (ht : t.size ≤ 281474976710656) (hn : nmd t = true) (f : Fq) (w : World) (h : DOk w D) (hk : D.k + 1 < 4611686018427387904) (hno : D.no = false) (hl : lk D.fs s = some f) (ho : f.ops.length = 0) :
    Calls Try.prog 22 #[PT D.d 0, .string s, .string t] w fun e w' => e = .returned (.int .i64 0) ∧ Dw w D (D.tick.ren f s t) w' := by
  have hc0 : Calls Try.prog 66 #[PT D.d 0] w fun e w' => e = .returned (.int .i64 0) ∧ DOk w' D.tick ∧ Chg D.bl w w' := (count_f D w h hk).mono fun e w' hh => ⟨by rw [hh.1, hno]; rfl, hh.2⟩
  have htm : t.size ≤ maxLen := by unfold maxLen; omega
  clear h
  go_enter Try.func22, Try.ntmps22
  go_wp2_with (first
    | (go_at_call 66; refine hc0.mono ?_; rintro e w1 ⟨rfl, h1, hc1⟩; have HD : Hid (DOk w1 D.tick) := h1; clear h1)
    | (go_at_call 67; refine (named_is hn w1).mono ?_; rintro e w2 ⟨rfl, hb2⟩)
    | (go_at_call 74; refine (quiet_f_hit D.tick s hs f w2 (HD.out.below hb2) hl ho).mono ?_; rintro e w3 ⟨rfl, hb3⟩; have H3 : Hid (DOk w3 D.tick) := HD.out.below (bel_on hb2 hb3); have hc3 : Chg D.bl w w3 := hc1.below (bel_on hb2 hb3); obtain ⟨X, x1, x2, x3, cD0, hmd⟩ := ren_pre H3.out; have cD : w3.cell? ⟨D.d, 0, none⟩ = some (.map (some D.mb)) := cD0; clear cD0)
    | (at_delete; refine wpList_delete_own _ rfl _ _ 39 9 rfl 111 (Maps.string_keyed Try.underlying9) Try.underlying39 RF D.mb _ X rfl x1 _ (ky s) rfl (WideMaps.keyOf_string_mk Try.underlying9 hs) ?_; intro w4 hown4 hturn4)
    | (go_at_call 71; refine (put_any D.d D.mb D.rb f.g _ t ht (fun u => DOk u (D.tick.ren f s t) ∧ Chg D.bl w u) w4 (hmd w4 hturn4) (fun u u' q hb => ⟨q.1.below hb, q.2.below hb⟩) (fun u hb => ren_put H3.out hc3 hl htm x2 x3 hown4 hturn4.grown hb (by have := H3.out.n64; have : D.fs.length ≤ 64 := this; unfold maxLen; exact Nat.lt_of_le_of_lt this (by decide)) (show D.mb ∈ D.bl by unfold Dq.bl; simp))).mono ?_; rintro e w5 ⟨rfl, hD5, hc5⟩)
    | go_in)
  go_ret
  refine ⟨rfl, hD5, hc5, fun x hx => .inl ?_⟩
  unfold Dq.bl at hx
  simp only [List.mem_cons, List.mem_flatMap] at hx
  rcases hx with e | e | e | ⟨y, hy, e⟩
  · unfold Dq.bl; rw [e]; exact List.mem_cons_self ..
  · unfold Dq.bl; rw [e]; exact List.mem_cons_of_mem _ (List.mem_cons_self ..)
  · unfold Dq.bl; rw [e]; exact List.mem_cons_of_mem _ (List.mem_cons_of_mem _ (List.mem_cons_self ..))
  · rcases List.mem_append.1 hy with q | q
    · exact Dq.fbl (List.mem_filter.1 q).1 x e
    · rw [List.mem_singleton.1 q] at e
      exact Dq.fbl (lk_mem hl).1 x e
end Wi
end Rg
end Go.Proofs.Ytidicdlfjdlpnaa
end
section
/-
  DERIVED: THE SHELF's CONTRACTS AT THIS DUMP, IN PLAIN WORDS (tools/lay-plain.mjs out of 'YtidicdlfjdlpnaaSq.lean', which tools/lay-shelf.mjs wrote): THE SAME DECLARATIONS UNDER THE SAME NAMES: 'import', 'namespace', 'open', 'def', 'theorem' AND NOTHING ELSE: no command of the shelf's: FOR A HAND-IN. Each laying: the table of numbers ('.._ren') and one theorem, a field a fact of the dump's own or the kernel's comparison; each contract: ONE APPLICATION.
-/
namespace Go.Proofs
open Go.Shelf
def Try.keys80_ren : Go.Shelf.Ren := ⟨fun | 7 => 80 | 10 => 108 | n => n, fun | 23 => 39 | 26 => 9 | 3 => 111 | 28 => 131 | 0 => 0 | 27 => 130 | 33 => 84 | 4 => 4 | n => n, fun | n => n⟩
theorem Try.keys80 : Go.Proofs.SlLaysZ.n7 Try.prog Try.keys80_ren := {
  mixed := by kernel_rfl
  f7 := ⟨Try.f80.name, by decide, Try.func80.trans (congrArg some (by kernel_rfl))⟩
  f10 := ⟨Try.f108.name, by decide, Try.func108.trans (congrArg some (by kernel_rfl))⟩
  t0 := Try.underlying0
  a0 := Try.isAgg0
  z0 := Try.sizeOf0
  v0 := Try.zeroValue0
  t4 := Try.underlying4
  a4 := Try.isAgg4
  z4 := Try.sizeOf4
  v4 := Try.zeroValue4
  t23 := Try.underlying39
  a23 := Try.isAgg39
  z23 := Try.sizeOf39
  v23 := Try.zeroValue39
  t26 := Try.underlying9
  a26 := Try.isAgg9
  z26 := Try.sizeOf9
  v26 := Try.zeroValue9
  t27 := Try.underlying130
  a27 := Try.isAgg130
  z27 := Try.sizeOf130
  v27 := Try.zeroValue130
  t28 := Try.underlying131
  a28 := Try.isAgg131
  z28 := Try.sizeOf131
  v28 := Try.zeroValue131
  t33 := Try.underlying84
  a33 := Try.isAgg84
  z33 := Try.sizeOf84
  v33 := Try.zeroValue84 }
def Try.sorted79_ren : Go.Shelf.Ren := ⟨fun | 6 => 79 | 8 => 106 | 9 => 107 | 11 => 117 | 13 => 119 | 12 => 118 | 23 => 130 | 24 => 131 | 14 => 121 | 15 => 122 | 16 => 123 | 17 => 124 | 18 => 125 | 19 => 126 | 20 => 127 | 21 => 128 | 22 => 129 | 25 => 132 | 26 => 133 | 27 => 134 | 28 => 135 | 29 => 136 | 30 => 137 | 31 => 138 | n => n, fun | 26 => 9 | 28 => 131 | 24 => 51 | 0 => 0 | 3 => 3 | 37 => 136 | 48 => 72 | 50 => 179 | 4 => 4 | 40 => 170 | 39 => 169 | 45 => 175 | 5 => 5 | 9 => 9 | 51 => 180 | 55 => 184 | 57 => 186 | 58 => 187 | 33 => 84 | n => n, fun | n => n⟩
theorem Try.sorted79 : Go.Proofs.SlLaysZ.n6 Try.prog Try.sorted79_ren := {
  mixed := by kernel_rfl
  f6 := ⟨Try.f79.name, by decide, Try.func79.trans (congrArg some (by kernel_rfl))⟩
  f8 := ⟨Try.f106.name, by decide, Try.func106.trans (congrArg some (by kernel_rfl))⟩
  f11 := ⟨Try.f117.name, by decide, Try.func117.trans (congrArg some (by kernel_rfl))⟩
  t0 := Try.underlying0
  a0 := Try.isAgg0
  z0 := Try.sizeOf0
  v0 := Try.zeroValue0
  t24 := Try.underlying51
  a24 := Try.isAgg51
  z24 := Try.sizeOf51
  v24 := Try.zeroValue51
  t26 := Try.underlying9
  a26 := Try.isAgg9
  z26 := Try.sizeOf9
  v26 := Try.zeroValue9
  t28 := Try.underlying131
  a28 := Try.isAgg131
  z28 := Try.sizeOf131
  v28 := Try.zeroValue131
  i26 := by kernel_rfl }
def Try.sort107_ren : Go.Shelf.Ren := ⟨fun | 6 => 107 | 8 => 119 | 9 => 118 | 19 => 130 | 20 => 131 | 21 => 121 | 22 => 122 | 23 => 123 | 24 => 124 | 25 => 125 | 26 => 126 | 27 => 127 | 28 => 128 | 29 => 129 | 36 => 132 | 31 => 133 | 32 => 134 | 37 => 135 | 38 => 136 | 39 => 137 | 41 => 138 | n => n, fun | 27 => 51 | 29 => 9 | 3 => 3 | 32 => 136 | 26 => 51 | 0 => 0 | 44 => 72 | 46 => 179 | 4 => 4 | 36 => 170 | 35 => 169 | 41 => 175 | 5 => 5 | 9 => 9 | 53 => 180 | 57 => 184 | 63 => 186 | 64 => 187 | n => n, fun | n => n⟩
theorem Try.sort107 : Go.Proofs.SlLaysM.n6 Try.prog Try.sort107_ren := {
  mixed := by kernel_rfl
  f6 := ⟨Try.f107.name, by decide, Try.func107.trans (congrArg some (by kernel_rfl))⟩
  f8 := Try.func119.trans (congrArg some (by kernel_rfl))
  f9 := ⟨Try.f118.name, by decide, Try.func118.trans (congrArg some (by kernel_rfl))⟩
  f19 := Try.func130.trans (congrArg some (by kernel_rfl))
  f20 := Try.func131.trans (congrArg some (by kernel_rfl))
  f21 := ⟨Try.f121.name, by decide, Try.func121.trans (congrArg some (by kernel_rfl))⟩
  f22 := ⟨Try.f122.name, by decide, Try.func122.trans (congrArg some (by kernel_rfl))⟩
  f23 := ⟨Try.f123.name, by decide, Try.func123.trans (congrArg some (by kernel_rfl))⟩
  f24 := ⟨Try.f124.name, by decide, Try.func124.trans (congrArg some (by kernel_rfl))⟩
  f25 := ⟨Try.f125.name, by decide, Try.func125.trans (congrArg some (by kernel_rfl))⟩
  f26 := ⟨Try.f126.name, by decide, Try.func126.trans (congrArg some (by kernel_rfl))⟩
  f27 := ⟨Try.f127.name, by decide, Try.func127.trans (congrArg some (by kernel_rfl))⟩
  f28 := ⟨Try.f128.name, by decide, Try.func128.trans (congrArg some (by kernel_rfl))⟩
  f29 := ⟨Try.f129.name, by decide, Try.func129.trans (congrArg some (by kernel_rfl))⟩
  f31 := Try.func133.trans (congrArg some (by kernel_rfl))
  f32 := Try.func134.trans (congrArg some (by kernel_rfl))
  f36 := ⟨Try.f132.name, by decide, Try.func132.trans (congrArg some (by kernel_rfl))⟩
  f37 := ⟨Try.f135.name, by decide, Try.func135.trans (congrArg some (by kernel_rfl))⟩
  f38 := ⟨Try.f136.name, by decide, Try.func136.trans (congrArg some (by kernel_rfl))⟩
  f39 := ⟨Try.f137.name, by decide, Try.func137.trans (congrArg some (by kernel_rfl))⟩
  f41 := ⟨Try.f138.name, by decide, Try.func138.trans (congrArg some (by kernel_rfl))⟩
  t0 := Try.underlying0
  a0 := Try.isAgg0
  z0 := Try.sizeOf0
  v0 := Try.zeroValue0
  t3 := Try.underlying3
  a3 := Try.isAgg3
  z3 := Try.sizeOf3
  v3 := Try.zeroValue3
  t4 := Try.underlying4
  a4 := Try.isAgg4
  z4 := Try.sizeOf4
  v4 := Try.zeroValue4
  t5 := Try.underlying5
  a5 := Try.isAgg5
  z5 := Try.sizeOf5
  v5 := Try.zeroValue5
  t9 := Try.underlying9
  a9 := Try.isAgg9
  z9 := Try.sizeOf9
  v9 := Try.zeroValue9
  t26 := Try.underlying51
  a26 := Try.isAgg51
  z26 := Try.sizeOf51
  v26 := Try.zeroValue51
  t27 := Try.underlying51
  a27 := Try.isAgg51
  z27 := Try.sizeOf51
  v27 := Try.zeroValue51
  t29 := Try.underlying9
  a29 := Try.isAgg9
  z29 := Try.sizeOf9
  v29 := Try.zeroValue9
  t32 := Try.underlying136
  a32 := Try.isAgg136
  z32 := Try.sizeOf136
  v32 := Try.zeroValue136
  t35 := Try.underlying169
  a35 := Try.isAgg169
  z35 := Try.sizeOf169
  v35 := Try.zeroValue169
  t36 := Try.underlying170
  a36 := Try.isAgg170
  z36 := Try.sizeOf170
  v36 := Try.zeroValue170
  t41 := Try.underlying175
  a41 := Try.isAgg175
  z41 := Try.sizeOf175
  v41 := Try.zeroValue175
  t44 := Try.underlying72
  a44 := Try.isAgg72
  z44 := Try.sizeOf72
  v44 := Try.zeroValue72
  t46 := Try.underlying179
  a46 := Try.isAgg179
  z46 := Try.sizeOf179
  v46 := Try.zeroValue179
  t53 := Try.underlying180
  a53 := Try.isAgg180
  z53 := Try.sizeOf180
  v53 := Try.zeroValue180
  t57 := Try.underlying184
  a57 := Try.isAgg184
  z57 := Try.sizeOf184
  v57 := Try.zeroValue184
  t63 := Try.underlying186
  a63 := Try.isAgg186
  z63 := Try.sizeOf186
  v63 := Try.zeroValue186
  t64 := Try.underlying187
  a64 := Try.isAgg187
  z64 := Try.sizeOf187
  v64 := Try.zeroValue187 }
end Go.Proofs
end
section
namespace Go.Proofs.Ytidicdlfjdlpnaa
open Go.RowKit
namespace Rg
namespace Wi
set_option maxRecDepth 100000
open Go.Shelf Go.Maps Go.Sort
attribute [local go_sem] Oper.semAt_some
theorem sorts79 (m : Nat) : AnyZ.SortsIn Try.prog Try.sorted79_ren Fence.wide m :=
  ⟨fun blk off cap ss W hH hblk hsz => callsIn_wide.2 (AnyM.slices_Sort_string Try.sort107 blk off cap ss W hH hblk hsz),
   fun p cap W => callsIn_wide.2 (AnyM.slices_Sort_string_none Try.sort107 p cap W)⟩
theorem maps_Keys_80 (mb : Option Nat) (W : World) : CallsIn Fence.wide 5 Try.prog 80 #[.map mb] W fun e w' => e = .returned (.func (.func 108) #[] #[.pointer (some ⟨W.heap.size, 0, none⟩)]) ∧ w' = W.alloc (.cells #[.map mb] 39) :=
  AnyZ.keys_in Try.keys80 Fence.wide 5 trivial rfl mb W
set_option maxHeartbeats 1000000 in
theorem slices_Sorted_keys_79_80 {H : Type} (b nn : Nat) (D0 : DataW H) (R : Value → Option (DataW H × List MemPlace)) (w : World) (hown : w.ownsMap Try.prog 9 R b nn D0) (hmax : Maps.size D0 ≤ maxLen) (hbytes : Maps.size D0 * 16 ≤ 140737488355328) :
    CallsIn Fence.wide 5 Try.prog 79 #[.func (.func 108) #[] #[.pointer (some ⟨w.heap.size, 0, none⟩)]] (w.alloc (.cells #[.map (some b)] 39)) fun e w' => ∃ (v : Value) (ss : List (List UInt8)), e = .returned v ∧ ss.Perm (strKeys D0) ∧
      w'.ownsRow (w.alloc (.cells #[.map (some b)] 39)).heap.size 9 1 v ss.length ((ss.mergeSort (fun x y => decide (x ≤ y))).map encStr) ∧ (v = .slice none 0 0 ↔ ss = []) ∧ Below (w.alloc (.cells #[.map (some b)] 39)).heap.size (w.alloc (.cells #[.map (some b)] 39)) w' := by
  have hbl := hown.lt
  have hseq : SeqGives Fence.wide 2 Try.prog 108 #[.pointer (some ⟨w.heap.size, 0, none⟩)] encStr (fun ss => ss.Perm (strKeys D0)) (Maps.size D0) (w.alloc (.cells #[.map (some b)] 39)) :=
    AnyZ.keys_gives (ρ := Try.keys80_ren) { Try.keys80 with } Fence.wide _ trivial rfl (by omega) w.heap.size b nn D0 _ (by simp) (by simp) (by
      obtain ⟨es, clock, hb, Ft, hs, hD⟩ := hown
      exact ⟨es, clock, (Below.heap_alloc _ _ b hbl).trans hb, Ft, hs, hD⟩)
  exact AnyZ.sorted_in Try.sorted79 Fence.wide 5 trivial trivial trivial trivial rfl (by omega) (sorts79 _) (enters_of Try.func107 (by kernel_rfl) rfl) 108 #[.pointer (some ⟨w.heap.size, 0, none⟩)] trivial (enters_of Try.func108 (by kernel_rfl) rfl) _ _ hmax hbytes _ hseq
theorem names_perm {w : World} {b n : Nat} {X : DataW Nat} {fs : List Fq} (h : w.ownsMap Try.prog 9 RF b n X) (hh : ∀ s, Maps.has X (ky s) = (lk fs s).isSome) (un : (fs.map Fq.nm).Nodup) : (strKeys X).Perm (fs.map fun f => f.nm.data.toList) := by
  obtain ⟨es, rfl, hap, hks⟩ := h.entries (Maps.string_keyed Try.underlying9)
  have hst : ∀ p ∈ es, ∃ s, p.1 = ky s := fun p hp => by
    obtain ⟨es0, clock, _, F, _, e⟩ := h
    injection e with e
    rw [e] at hp
    obtain ⟨x, hx, rfl⟩ := List.mem_map.1 (mem_sorted.1 hp)
    obtain ⟨y, hy⟩ := F.reads x hx
    rw [WideElems.rg_of hy]
    obtain ⟨s, _, e2, _⟩ := key_string (WideElems.rd_key hy)
    exact ⟨s, e2⟩
  have hnd : (es.map Prod.fst).Nodup := List.pairwise_map.2 hap
  have hnf : (fs.map fun f => ky f.nm).Nodup := by
    have : (fs.map fun f => ky f.nm) = (fs.map Fq.nm).map ky := by rw [List.map_map]; rfl
    rw [this]
    exact List.pairwise_map.2 (un.imp (fun hne e => hne (ky_inj e)))
  have hp : (es.map Prod.fst).Perm (fs.map fun f => ky f.nm) := (List.perm_ext_iff_of_nodup hnd hnf).2 (fun a => by
    constructor
    · intro ha
      obtain ⟨p, hp, rfl⟩ := List.mem_map.1 ha
      obtain ⟨s, e⟩ := hst p hp
      have h1 : Maps.has (.map es) (ky s) = true := by
        rw [← e]
        exact List.any_eq_true.2 ⟨p, hp, WideAt.sameKey_self (hks p hp)⟩
      rw [hh] at h1
      obtain ⟨f, hf⟩ := Option.isSome_iff_exists.1 h1
      obtain ⟨h2, h3⟩ := lk_mem hf
      exact List.mem_map.2 ⟨f, h2, by rw [h3, e]⟩
    · intro ha
      obtain ⟨f, hf, rfl⟩ := List.mem_map.1 ha
      have h1 : (lk fs f.nm).isSome = true := by
        unfold lk
        rw [List.find?_isSome]
        exact ⟨f, hf, decide_eq_true rfl⟩
      rw [← hh] at h1
      obtain ⟨p, hp, h2⟩ := List.any_eq_true.1 h1
      exact List.mem_map.2 ⟨p, hp, WideAt.sameKey_eq h2⟩)
  have h2 := hp.map strOf
  rw [List.map_map, List.map_map] at h2
  exact h2
theorem nam_pre {w : World} {D : Dq} (h : DOk w D) : ∃ X, (strKeys X).Perm (D.fs.map fun f => f.nm.data.toList) ∧ Maps.size X ≤ maxLen ∧ Maps.size X * 16 ≤ 140737488355328 ∧ ∀ u, Below w.heap.size w u → u.ownsMap Try.prog 9 RF D.mb D.fs.length X ∧ u.cell? ⟨D.d, 0, none⟩ = some (.map (some D.mb)) := by
  obtain ⟨X, x1, x2, x3, x4⟩ := h.mp
  have hn := h.n64
  refine ⟨X, names_perm x1 x3 h.un, by rw [x4]; unfold maxLen; omega, by rw [x4]; omega, fun u hb => ⟨ownMap_keep x1 (hb.block _ x1.lt), (((h.below hb).cel.blk _ (List.mem_cons_self ..)).2 0 _ rfl).1⟩⟩
set_option maxHeartbeats 2000000 in
theorem Names_f (D : Dq) (w : World) (h : DOk w D) : Calls Try.prog 26 #[PT D.d 0] w fun e w' => ∃ (v : Value) (ss : List (List UInt8)), e = .returned v ∧ ss.Perm (D.fs.map fun f => f.nm.data.toList) ∧ w'.ownsRow w.heap.size 9 1 v ss.length ((ss.mergeSort (fun x y => decide (x ≤ y))).map encStr) ∧ (v = .slice none 0 0 ↔ ss = []) ∧ Below w.heap.size w w' := by
  obtain ⟨X, hpp, hmax, hby, hpre⟩ := nam_pre h
  have hp : Hid _ := hpp
  have HP : Hid _ := hpre
  have hcel := h.cel
  clear h hpp hpre
  refine (callsIn_wide (n := 7)).1 ?_
  have hro : Fence.wide.round = none := rfl
  refine callsIn_of_wp Try.func26 rfl trivial ?_ hro
  simp only [Try.ntmps26, List.size_toArray, List.length_cons, List.length_nil, Nat.reduceAdd, Nat.reduceSub, Array.replicate_succ, Array.replicate_zero, List.push_toArray, List.append_toArray, List.nil_append, List.cons_append]
  gi_wp2_with (first
    | (gi_at_call 75; refine (callsIn_wide.2 (made_ok D.d D.mb D.rb _ w hcel)).mono ?_; rintro e w1 ⟨rfl, hb1⟩; have HX1 : Hid (w1.ownsMap Try.prog 9 RF D.mb D.fs.length X) := (HP.out w1 hb1).1; have cD : w1.cell? ⟨D.d, 0, none⟩ = some (.map (some D.mb)) := (HP.out w1 hb1).2)
    | (refine ⟨trivial, ?_⟩; gi_at_call 75; refine (callsIn_wide.2 (made_ok D.d D.mb D.rb _ w hcel)).mono ?_; rintro e w1 ⟨rfl, hb1⟩; have HX1 : Hid (w1.ownsMap Try.prog 9 RF D.mb D.fs.length X) := (HP.out w1 hb1).1; have cD : w1.cell? ⟨D.d, 0, none⟩ = some (.map (some D.mb)) := (HP.out w1 hb1).2)
    | (gi_at_call 80; refine (callsIn_wide.2 (callsIn_wide.1 (maps_Keys_80 (some D.mb) w1))).mono ?_; rintro e w2 ⟨rfl, rfl⟩)
    | (refine ⟨trivial, ?_⟩; gi_at_call 80; refine (callsIn_wide.2 (callsIn_wide.1 (maps_Keys_80 (some D.mb) w1))).mono ?_; rintro e w2 ⟨rfl, rfl⟩)
    | (gi_at_call 79; refine (callsIn_wide.2 (callsIn_wide.1 (slices_Sorted_keys_79_80 D.mb D.fs.length X RF w1 HX1.out hmax hby))).mono ?_; rintro e w3 ⟨v, ss, rfl, hS, hrow, hnil, hb3⟩)
    | (refine ⟨trivial, ?_⟩; gi_at_call 79; refine (callsIn_wide.2 (callsIn_wide.1 (slices_Sorted_keys_79_80 D.mb D.fs.length X RF w1 HX1.out hmax hby))).mono ?_; rintro e w3 ⟨v, ss, rfl, hS, hrow, hnil, hb3⟩))
  have hb2 := (Below.refl _ w1).alloc (Nat.le_refl _) (.cells #[.map (some D.mb)] 39)
  go_ret
  exact ⟨v, ss, rfl, hS.trans hp.out, own_base hrow (Nat.le_trans hb1.size hb2.size), hnil, hb1.trans ((hb2.trans (hb3.mono hb2.size)).mono hb1.size)⟩
end Wi
end Rg
end Go.Proofs.Ytidicdlfjdlpnaa
end
section
namespace Go.Proofs.Ytidicdlfjdlpnaa
open Go.RowKit
namespace Rg
namespace Wi
set_option maxRecDepth 100000
/-- A disk, all of which is new since w0. -/
structure Dn (w0 : World) (D : Dq) (u : World) : Prop where
  b : Below w0.heap.size w0 u
  dk : DOk u D
  lo : ∀ x ∈ D.bl, w0.heap.size ≤ x
theorem Dn.step {w0 u u' : World} {D : Dq} (h : Dn w0 D u) (hb : Below u.heap.size u u') : Dn w0 D u' := ⟨h.b.trans (hb.mono h.b.size), h.dk.below hb, h.lo⟩
theorem Dn.dw {w0 u u' : World} {D D' : Dq} (h : Dn w0 D u) (hw : Dw u D D' u') : Dn w0 D' u' := ⟨h.b.trans (hw.2.1.toBelow h.lo h.b.size), hw.1, fun x hx => (hw.2.2 x hx).elim (h.lo x) (Nat.le_trans h.b.size)⟩
set_option maxHeartbeats 2000000 in
theorem same_texts1 (g1 o1 c1 g2 o2 c2 : Nat) (s : ByteArray) (w : World) (h1 : w.cell? ⟨g1, o1, none⟩ = some (.string s)) (hg1 : g1 < w.heap.size) (hg2 : g2 < w.heap.size) (h2 : w.cell? ⟨g2, o2, none⟩ = some (.string s)) :
    Calls Try.prog 30 #[.slice (some ⟨g1, o1, none⟩) 1 c1, .slice (some ⟨g2, o2, none⟩) 1 c2] w fun e w' => e = .returned (.bool true) ∧ Below w.heap.size w w' := by
  go_enter Try.func30, Try.ntmps30
  go_wp2
  go_loopw [5] (fun v wr => ∃ i : Nat, v = .int .i64 (i : Int) ∧ i ≤ 1 ∧ Below w.heap.size w wr)
    (fun v _ => 1 - (RowKit.intOf v).toNat)
  case atStart => exact ⟨0, rfl, by omega, Below.refl _ _⟩
  case round =>
    obtain ⟨i, rfl, hi, hb⟩ := hrel
    have k1 := (hb.cell (p := ⟨g1, o1, none⟩) hg1).trans h1
    have k2 := (hb.cell (p := ⟨g2, o2, none⟩) hg2).trans h2
    clear h1 h2
    obtain rfl | rfl : i = 0 ∨ i = 1 := by omega
    · go_wp2
      go_region
      all_goals go_wp2
      exact ⟨⟨1, rfl, by omega, hb.drew⟩, by simp [RowKit.intOf]⟩
    · go_wp2
      go_ret
      exact ⟨rfl, hb⟩
end Wi
end Rg
end Go.Proofs.Ytidicdlfjdlpnaa
end
section
namespace Go.Proofs.Ytidicdlfjdlpnaa
open Go.RowKit
namespace Rg
namespace Wi
set_option maxRecDepth 100000
section
variable {ρ : Operand → Value} {o : Oper} {x y : Operand} {g off j m c : Nat} {w : World}
theorem ex_mkM39 (ho : o.op = .makeMap 39 none) : (execOp ρ o).run Try.prog w = .ok (.value (.map (some w.heap.size))) (w.alloc (.map #[] 0)) := by
  simp only [execOp, ho]
  simp [run_makeMap]
theorem ex_mkM40 (ho : o.op = .makeMap 40 none) : (execOp ρ o).run Try.prog w = .ok (.value (.map (some w.heap.size))) (w.alloc (.map #[] 0)) := by
  simp only [execOp, ho]
  simp [run_makeMap]
theorem ex_ixN {p : Option Addr} (he : p = some ⟨g, off, none⟩) (ho : o.op = .indexAddr 22 x y) (hx : ρ x = .slice p m c) (hy : ρ y = .int .i64 ((j : Nat) : Int)) (h : j < m) : (execOp ρ o).run Try.prog w = .ok (.value (PT g (off + j))) w := by
  subst he
  simp only [execOp, ho, hx, hy]
  clear ho hx hy
  go_simp
theorem ex_ldN {a : Int} (c0 : w.cell? ⟨g, off, none⟩ = some (.int .i64 a)) (ho : o.op = .load 3 x) (hx : ρ x = PT g off) : (execOp ρ o).run Try.prog w = .ok (.value (.int .i64 a)) w := by
  simp only [execOp, ho, hx]
  clear ho hx
  go_simp
end
/-- A disk under way to be made. -/
structure Nm1 (w : World) (mb : Nat) (u : World) : Prop where
  b : Below w.heap.size w u
  nm : w.heap.size ≤ mb
  mp : u.ownsMap Try.prog 9 RF mb 0 (.map [])
structure Nm2 (w : World) (mb rb : Nat) (u : World) : Prop where
  one : Nm1 w mb u
  nr : mb < rb
  rm : u.ownsMap Try.prog 3 RU rb 0 (.map [])
/-- A disk without files, that is made. -/
structure Nw (w : World) (d mb rb : Nat) (rf : Nat → Bool) (m : Nat) (u : World) : Prop where
  two : Nm1 w mb u
  nr : mb < rb
  nd : rb < d
  cel : Mm u [(d, [Value.map (some mb), Value.map (some rb), Value.int .i64 0])]
  rm : ∃ Y, u.ownsMap Try.prog 3 RU rb m Y ∧ ∀ i : Nat, i < 4611686018427387905 → Maps.has Y (.int .i64 (i : Int)) = rf i
section
variable {w u u' : World} {d mb rb m : Nat} {rf : Nat → Bool}
theorem Nm1.step (h : Nm1 w mb u) (hb : Below u.heap.size u u') : Nm1 w mb u' := ⟨h.b.trans (hb.mono h.b.size), h.nm, ownMap_keep h.mp (hb.block _ h.mp.lt)⟩
theorem Nm1.start (h : Below w.heap.size w u) : Nm1 w u.heap.size (u.alloc (.map #[] 0)) := ⟨h.alloc h.size _, h.size, World.ownsMap_made _ _ _ _⟩
theorem Nm2.step (h : Nm2 w mb rb u) (hb : Below u.heap.size u u') : Nm2 w mb rb u' := ⟨h.one.step hb, h.nr, ownMap_keep h.rm (hb.block _ h.rm.lt)⟩
theorem Nm2.start (h : Nm1 w mb u) : Nm2 w mb u.heap.size (u.alloc (.map #[] 0)) := ⟨h.step ((Below.refl _ _).alloc (Nat.le_refl _) _), h.mp.lt, World.ownsMap_made _ _ _ _⟩
theorem Nw.step (h : Nw w d mb rb rf m u) (hb : Below u.heap.size u u') : Nw w d mb rb rf m u' := by
  obtain ⟨Y, y1, y2⟩ := h.rm
  exact ⟨h.two.step hb, h.nr, h.nd, h.cel.below hb, Y, ownMap_keep y1 (hb.block _ y1.lt), y2⟩
theorem Nw.start (h : Nm2 w mb rb u) (t : TypeId) : Nw w u.heap.size mb rb (fun _ => false) 0 (u.alloc (.cells ([Value.map (some mb), Value.map (some rb), Value.int .i64 0] : List Value).toArray t)) := by
  have hb : Below u.heap.size u (u.alloc (.cells ([Value.map (some mb), Value.map (some rb), Value.int .i64 0] : List Value).toArray t)) := (Below.refl _ _).alloc (Nat.le_refl _) _
  have h2 := h.step hb
  exact ⟨h2.one, h2.nr, h.rm.lt, (Mm.nil u).alloc _ _ rfl, _, h2.rm, fun _ _ => rfl⟩
theorem Nw.ref (h : Nw w d mb rb rf m u) (i : Int) (hw : (Lit.int .i64 i).wf = true) (hm : m < 1000000) : ∃ u', (Instr.mapUpdate 40 (.map (some rb)) (.int .i64 i) (.agg ([] : List Value).toArray)).run Try.prog u = .ok () u' ∧ Nw w d mb rb (fun j => decide ((j : Int) = i) || rf j) (m + 1) u' := by
  obtain ⟨Y, y1, y2⟩ := h.rm
  obtain ⟨u', hr, hm2, hg⟩ := y1.update (Maps.int_keyed Try.underlying3) Try.underlying40 (by unfold maxLen; omega) (Maps.keyOf_int_mk Try.underlying3 hw) (show RU (.agg ([] : List Value).toArray) = some (.nil, []) from rfl)
  have hc : Chg [rb] u u' := Chg.grown hg
  have h1 := h.nr
  have h2 := h.nd
  refine ⟨u', hr, ⟨h.two.b.trans (hc.toBelow (fun x hx => by have := h.two.nm; rw [List.mem_singleton.1 hx]; omega) h.two.b.size), h.two.nm, ownMap_keep h.two.mp (hc.block _ h.two.mp.lt (fun hx => by have := List.mem_singleton.1 hx; omega))⟩, h1, h2, hc.mm h.cel (fun p hp hx => by obtain rfl := List.mem_singleton.1 hp; have := List.mem_singleton.1 hx; omega), _, hm2, fun j hj => ?_⟩
  by_cases e : (j : Int) = i
  · subst e
    rw [Maps.has_put_same y1.isMap (Maps.int_keyed Try.underlying3 |>.key (Maps.keyOf_int_mk Try.underlying3 hw))]
    simp
  · rw [Maps.has_put_other (fun e2 => e (by injection e2)), y2 j hj, decide_eq_false e, Bool.false_or]
theorem Nw.disk (h : Nw w d mb rb rf m u) : DOk u ⟨d, mb, rb, 0, [], rf⟩ := by
  have h1 := h.nr
  have h2 := h.nd
  obtain ⟨Y, y1, y2⟩ := h.rm
  exact ⟨h.cel, ⟨_, h.two.mp, fun _ => rfl, fun _ => rfl, rfl⟩, ⟨m, Y, y1, y2⟩, fun f hf => (by cases hf), fun f hf => (by cases hf), fun f hf => (by cases hf), ⟨(show d ≠ mb by omega), (show d ≠ rb by omega), (show mb ≠ rb by omega)⟩, List.nodup_nil, (show 0 < 4611686018427387904 by decide), (show 0 ≤ 64 by decide)⟩
end
/-- Which numbers are refused. -/
def rff (F : Nat → Int) : Nat → Nat → Bool
  | 0 => fun _ => false
  | k + 1 => fun j => decide ((j : Int) = F k) || rff F k j
set_option maxHeartbeats 2000000 in
set_option maxRecDepth 100000 in
theorem New_any (p : Option Addr) (n cp g of : Nat) (F : Nat → Int) (hn : n ≤ 4096) (w : World) (hp0 : 0 < n → p = some ⟨g, of, none⟩) (hcl0 : ∀ i, i < n → g < w.heap.size ∧ w.cell? ⟨g, of + i, none⟩ = some (.int .i64 (F i)) ∧ (Lit.int .i64 (F i)).wf = true) :
    Calls Try.prog 14 #[.slice p n cp] w fun e w' => ∃ d mb rb, e = .returned (.tuple #[PT d 0, .int .i64 0]) ∧ Nw w d mb rb (rff F n) n w' := by
  have H0 : Hid (_ ∧ _) := ⟨Mm.nil w, Below.refl w.heap.size w⟩
  have hp : Hid _ := hp0
  have hcl : Hid _ := hcl0
  clear hp0 hcl0
  go_enter Try.func14, Try.ntmps14
  refine wp_seq ?_
  refine sq_startW (l := [0, 1]) rfl (fun u0 hu0 => ?_)
  have H1 : Hid (Mm u0 [] ∧ Below w.heap.size w u0) := by rw [hu0]; exact H0
  clear hu0 H0
  refine rest_set (d := 2) (v := .pointer none) (w' := u0) rfl rfl rfl (rfl) ?_
  simp only [Act.put, sa, sz, ss]
  refine rest_set (d := 3) (v := .int .i64 0) (w' := u0) rfl rfl rfl (rfl) ?_
  simp only [Act.put, sa, sz, ss]
  refine rest_nil (then_normal ?_)
  refine wp_seq (wp_seq ?_)
  refine sq_start (l := [0, 1, 2]) rfl ?_
  refine rest_set (d := 7) (v := .slice p n cp) (w' := u0) rfl rfl rfl (rfl) ?_
  simp only [Act.put, sa, sz, ss]
  refine rest_set (d := 8) (v := .int .i64 ((n : Nat) : Int)) (w' := u0) rfl rfl rfl (by go_simp) ?_
  simp only [Act.put, sa, sz, ss]
  refine rest_set (d := 9) (v := .bool false) (w' := u0) rfl rfl rfl (by go_simp <;> omega) ?_
  simp only [Act.put, sa, sz, ss]
  refine rest_nil (then_normal ?_)
  refine wp_cond_false rfl (wp_skip ?_)
  refine then_normal (wp_seq ?_)
  refine sq_start (l := [0, 1, 2, 3, 4]) rfl ?_
  refine rest_set (d := 10) (v := .map (some u0.heap.size)) (w' := (u0.alloc (.map #[] 0))) rfl rfl rfl (ex_mkM39 rfl) ?_
  simp only [Act.put, sa, sz, ss]
  have H2 : Hid (Mm (u0.alloc (.map #[] 0)) [] ∧ Nm1 w u0.heap.size (u0.alloc (.map #[] 0))) := ⟨Mm.nil _, Nm1.start H1.out.2⟩
  clear H1
  generalize hgw : u0.alloc (.map #[] 0) = w2 at H2 ⊢
  clear hgw
  generalize u0.heap.size = mb at H2 ⊢
  refine rest_set (d := 11) (v := .map (some w2.heap.size)) (w' := (w2.alloc (.map #[] 0))) rfl rfl rfl (ex_mkM40 rfl) ?_
  simp only [Act.put, sa, sz, ss]
  have H3 : Hid (Mm (w2.alloc (.map #[] 0)) [] ∧ Nm2 w mb w2.heap.size (w2.alloc (.map #[] 0))) := ⟨Mm.nil _, Nm2.start H2.out.2⟩
  clear H2
  generalize hgw : w2.alloc (.map #[] 0) = w3 at H3 ⊢
  clear hgw
  generalize w2.heap.size = rb at H3 ⊢
  refine rest_set (d := 12) (v := .agg ([Value.map (some mb), Value.map (some rb), Value.int .i64 0]).toArray) (w' := w3) rfl rfl rfl (by kernel_rfl) ?_
  simp only [Act.put, sa, sz, ss]
  refine rest_set (d := 13) (v := PT w3.heap.size 0) (w' := (w3.alloc (.cells ([Value.map (some mb), Value.map (some rb), Value.int .i64 0] : List Value).toArray 42))) rfl rfl rfl (ex_boxT rfl rfl) ?_
  simp only [Act.put, sa, sz, ss]
  have H4 : Hid (Mm (w3.alloc (.cells ([Value.map (some mb), Value.map (some rb), Value.int .i64 0] : List Value).toArray 42)) [] ∧ Nw w w3.heap.size mb rb (fun _ => false) 0 (w3.alloc (.cells ([Value.map (some mb), Value.map (some rb), Value.int .i64 0] : List Value).toArray 42))) := ⟨Mm.nil _, Nw.start H3.out.2 _⟩
  clear H3
  generalize hgw : w3.alloc (.cells ([Value.map (some mb), Value.map (some rb), Value.int .i64 0] : List Value).toArray 42) = w4 at H4 ⊢
  clear hgw
  generalize w3.heap.size = d at H4 ⊢
  refine rest_set (d := 4) (v := PT d 0) (w' := w4) rfl rfl rfl (rfl) ?_
  simp only [Act.put, sa, sz, ss]
  refine rest_nil (then_normal ?_)
  refine wp_seq (wp_seq ?_)
  refine sq_start (l := [0, 1, 2]) rfl ?_
  refine rest_set (d := 14) (v := .slice p n cp) (w' := w4) rfl rfl rfl (rfl) ?_
  simp only [Act.put, sa, sz, ss]
  refine rest_set (d := 15) (v := .int .i64 ((n : Nat) : Int)) (w' := w4) rfl rfl rfl (by go_simp) ?_
  simp only [Act.put, sa, sz, ss]
  refine rest_set (d := 16) (v := .int .i64 0) (w' := w4) rfl rfl rfl (rfl) ?_
  simp only [Act.put, sa, sz, ss]
  refine rest_nil (then_normal (wp_block ?_))
  refine loop_ghost (α := Nat) (fun x a' w' => ∃ s0 : Nat → Value, a' = ⟨#[.slice p n cp, undef, .pointer none, .int .i64 0, PT d 0, undef, s0 6, .slice p n cp, .int .i64 ((n : Nat) : Int), .bool false, .map (some mb), .map (some rb), .agg ([Value.map (some mb), Value.map (some rb), Value.int .i64 0]).toArray, PT d 0, .slice p n cp, .int .i64 ((n : Nat) : Int), .int .i64 ((x : Nat) : Int), s0 17, s0 18, s0 19, s0 20, s0 21, s0 22, s0 23, s0 24, s0 25, s0 26, undef], []⟩ ∧ (Mm w' [] ∧ Nw w d mb rb (rff F x) x w') ∧ x ≤ n) (fun x => n - x) 0 ?st0 ?rd0
  case st0 => exact ⟨(slotfn [undef, undef, undef, undef, undef, undef, undef, undef, undef, undef, undef, undef, undef, undef, undef, undef, undef, undef, undef, undef, undef, undef, undef, undef, undef, undef, undef]), rfl, ⟨H4.out.1, H4.out.2⟩, Nat.zero_le _⟩
  intro x a' w5 hI
  obtain ⟨s0, rfl, hMB, hk0⟩ := hI
  have H5 : Hid (_ ∧ _) := hMB
  clear hMB H4
  by_cases hltx : x < n
  · have hrd : True := trivial
    clear hrd
    refine wp_seq ?_
    refine sq_start (l := [0]) rfl ?_
    refine rest_set (d := 17) (v := .bool true) (w' := w5) rfl rfl rfl (by go_simp <;> omega) ?_
    simp only [Act.put, sa, sz, ss]
    refine rest_nil (then_normal ?_)
    refine wp_seq (wp_cond_true rfl ?_)
    refine wp_skip (then_normal ?_)
    refine wp_seq (wp_block (wp_seq ?_))
    refine sq_start (l := [0, 1, 2]) rfl ?_
    refine rest_set (d := 18) (v := PT g (of + x)) (w' := w5) rfl rfl rfl (ex_ixN (hp.out (by omega)) rfl rfl rfl (by omega)) ?_
    simp only [Act.put, sa, sz, ss]
    refine rest_set (d := 19) (v := .int .i64 (F x)) (w' := w5) rfl rfl rfl (ex_ldN ((H5.out.2.two.b.cell (p := ⟨g, _, none⟩) (hcl.out x (by omega)).1).trans (hcl.out x (by omega)).2.1) rfl rfl) ?_
    simp only [Act.put, sa, sz, ss]
    refine rest_set (d := 6) (v := .int .i64 (F x)) (w' := w5) rfl rfl rfl (rfl) ?_
    simp only [Act.put, sa, sz, ss]
    refine rest_nil (then_normal ?_)
    refine sq_start (l := [0, 1, 2, 3, 4, 5, 6]) rfl ?_
    refine rest_set (d := 20) (v := PT d 0) (w' := w5) rfl rfl rfl (rfl) ?_
    simp only [Act.put, sa, sz, ss]
    refine rest_set (d := 21) (v := PT d 0) (w' := w5) rfl rfl rfl (by go_simp) ?_
    simp only [Act.put, sa, sz, ss]
    refine rest_set (d := 22) (v := PT d 1) (w' := w5) rfl rfl rfl (by go_simp) ?_
    simp only [Act.put, sa, sz, ss]
    refine rest_set (d := 23) (v := .map (some rb)) (w' := w5) rfl rfl rfl (ex_loadC H5.out.2.cel 0 rfl rfl rfl Try.isAgg40 rfl) ?_
    simp only [Act.put, sa, sz, ss]
    refine rest_set (d := 24) (v := .int .i64 (F x)) (w' := w5) rfl rfl rfl (rfl) ?_
    simp only [Act.put, sa, sz, ss]
    refine rest_set (d := 25) (v := .agg (([] : List Value)).toArray) (w' := w5) rfl rfl rfl (by kernel_rfl) ?_
    simp only [Act.put, sa, sz, ss]
    obtain ⟨w6, hr9, hI9⟩ := H5.out.2.ref (F x) (hcl.out x (by omega)).2.2 (by omega)
    refine rest_store rfl rfl rfl (ex_mup hr9 rfl rfl rfl rfl) ?_
    have H6 : Hid (Mm w6 [] ∧ Nw w d mb rb (rff F (x + 1)) (x + 1) w6) := ⟨Mm.nil _, hI9⟩
    clear hr9 hI9 H5
    refine rest_nil (block_normal (then_normal ?_))
    refine sq_start (l := [0, 1]) rfl ?_
    refine rest_set (d := 26) (v := .int .i64 ((x + 1 : Nat) : Int)) (w' := w6) rfl rfl rfl (by go_simp; rw [IntKind.wrap_i64]; omega) ?_
    simp only [Act.put, sa, sz, ss]
    refine rest_set (d := 16) (v := .int .i64 ((x + 1 : Nat) : Int)) (w' := w6) rfl rfl rfl (rfl) ?_
    simp only [Act.put, sa, sz, ss]
    refine rest_nil (then_normal ?_)
    exact ⟨x + 1, ⟨(slotfn [undef, undef, undef, undef, undef, undef, .int .i64 (F x), undef, undef, undef, undef, undef, undef, undef, undef, undef, undef, .bool true, PT g (of + x), .int .i64 (F x), PT d 0, PT d 0, PT d 1, .map (some rb), .int .i64 (F x), .agg (([] : List Value)).toArray, .int .i64 ((x + 1 : Nat) : Int)]), rfl, ⟨H6.out.1, H6.out.2⟩, (show x + 1 ≤ n by omega)⟩, (show n - (x + 1) < n - x by omega)⟩
  refine wp_seq ?_
  refine sq_start (l := [0]) rfl ?_
  refine rest_set (d := 17) (v := .bool false) (w' := w5) rfl rfl rfl (by go_simp <;> omega) ?_
  simp only [Act.put, sa, sz, ss]
  refine rest_nil (then_normal ?_)
  refine wp_seq (wp_cond_false rfl ?_)
  refine wp_exit ?_
  repeat refine then_exit ?_
  refine block_exit ?_
  have hxn : x = n := by omega
  refine then_normal (wp_seq ?_)
  refine sq_start (l := [0, 1, 2]) rfl ?_
  refine rest_set (d := 27) (v := PT d 0) (w' := w5) rfl rfl rfl (rfl) ?_
  simp only [Act.put, sa, sz, ss]
  refine rest_set (d := 2) (v := PT d 0) (w' := w5) rfl rfl rfl (rfl) ?_
  simp only [Act.put, sa, sz, ss]
  refine rest_set (d := 3) (v := .int .i64 0) (w' := w5) rfl rfl rfl (rfl) ?_
  simp only [Act.put, sa, sz, ss]
  refine rest_nil (then_normal (wp_ret ?_))
  repeat (first | refine then_ret ?_ | refine block_ret ?_)
  refine bodyPost_ret (v := .tuple #[PT d 0, .int .i64 0]) (by simp [results, Try.results14, go_sem, *]) rfl ?_
  exact ⟨_, _, _, rfl, by rw [← hxn]; exact H5.out.2⟩
theorem New_nil (w : World) : Calls Try.prog 14 #[.slice none 0 0] w fun e w' => ∃ d mb rb, e = .returned (.tuple #[PT d 0, .int .i64 0]) ∧ Nw w d mb rb (fun _ => false) 0 w' := New_any none 0 0 0 0 (fun _ => 0) (by decide) w (fun h => absurd h (by decide)) (fun i hi => absurd hi (Nat.not_lt_zero _))
end Wi
end Rg
end Go.Proofs.Ytidicdlfjdlpnaa
end
section
namespace Go.Proofs.Ytidicdlfjdlpnaa
open Go.RowKit
namespace Rg
namespace Wi
set_option maxRecDepth 100000
section
variable (D : Dq) (s : ByteArray) (q : Pt8) (w : World)
theorem Dw.co {D : Dq} {w : World} {r : Int} (h : DOk w D) (hk : D.k + 1 < 4611686018427387904) (hr : (if D.no then (13 : Int) else 0) = r) : ∀ u, Below w.heap.size w u → Calls Try.prog 66 #[PT D.d 0] u fun e u' => e = .returned (.int .i64 r) ∧ Dw w D D.tick u' := fun u hu =>
  (count_f D u (h.below hu) hk).mono fun e u' hh => ⟨by rw [hh.1, ← hr], hh.2.1, (Chg.of hu).trans hh.2.2 (fun x hx => .inl hx), fun x hx => .inl hx⟩
theorem below_on {w : World} : ∀ u u', Below w.heap.size w u → Below u.heap.size u u' → Below w.heap.size w u' := fun _ _ h1 h2 => h1.trans (h2.mono h1.size)
theorem Append_no_f (h : DOk w D) (hk : D.k + 1 < 4611686018427387904) (hno : D.no = true) : Calls Try.prog 19 #[PT D.d 0, .string s, .slice q.p q.n q.cp] w fun e w' => e = .returned (.int .i64 13) ∧ Dw w D D.tick w' :=
  Append_no D.d s q (fun u => Below w.heap.size w u) (Dw w D D.tick) w (Below.refl _ _) below_on Dw.step (Dw.co h hk (by rw [hno]; rfl))
theorem nm_is (c : Bool) (h : nmd s = c) {I : World → Prop} : ∀ u, I u → Calls Try.prog 67 #[.string s] u fun e u' => e = .returned (.bool c) ∧ Below u.heap.size u u' := fun u _ => (named_any s u).mono fun e u' hh => ⟨by rw [hh.1, h], hh.2⟩
theorem Append_bad_f (h : DOk w D) (hk : D.k + 1 < 4611686018427387904) (hno : D.no = false) (hnm : nmd s = false) : Calls Try.prog 19 #[PT D.d 0, .string s, .slice q.p q.n q.cp] w fun e w' => e = .returned (.int .i64 2) ∧ Dw w D D.tick w' :=
  Append_bad D.d s q (fun u => Below w.heap.size w u) (Dw w D D.tick) w (Below.refl _ _) below_on Dw.step (Dw.co h hk (by rw [hno]; rfl)) (nm_is s false hnm)
theorem Dw.lk {D : Dq} {w : World} {s : ByteArray} (hsz : s.size ≤ maxLen) {x : Option Fq} (hl : lk D.fs s = x) : ∀ u, Dw w D D.tick u → (Instr.lookup 39 (.map (some D.mb)) (.string s) false).run Try.prog u = .ok (pv x) u := fun u hu => by
  have e := hu.1.look (u := u) s hsz rfl
  rw [show Wi.lk D.tick.fs s = x from hl] at e
  exact e
theorem Append_long_f (h : DOk w D) (hk : D.k + 1 < 4611686018427387904) (hno : D.no = false) (hnm : nmd s = true) (hsz : s.size ≤ maxLen) (f : Fq) (hl : lk D.fs s = some f) (hq : q.n ≤ 281474976710656) (hL : 1048576 < f.N + q.n) : Calls Try.prog 19 #[PT D.d 0, .string s, .slice q.p q.n q.cp] w fun e w' => e = .returned (.int .i64 3) ∧ Dw w D D.tick w' :=
  have hm := (lk_mem hl).1
  Append_long D.d s q D.mb D.rb f.g f.N ((D.k + 1 : Nat) : Int) (h.fl f hm).N1 hq hL (fun u => Below w.heap.size w u) (Dw w D D.tick) w (Below.refl _ _) below_on Dw.step (Dw.co h hk (by rw [hno]; rfl)) (nm_is s true hnm) (fun u hu => hu.1.cel) (Dw.lk hsz hl) (fun u hu => size_f f u (hu.1.fl f hm))
theorem Dw.len {D : Dq} {w : World} : ∀ u, Dw w D D.tick u → ∀ ty, (Builtin.len_ #[39] ty #[.map (some D.mb)]).run Try.prog u = .ok (.int .i64 ((D.fs.length : Nat) : Int)) u := fun u hu ty => by
  obtain ⟨X, x1, _, _, x4⟩ := hu.1.mp
  have e := x1.len Try.underlying39 ty
  rw [x4] at e
  exact e
theorem Append_full_f (h : DOk w D) (hk : D.k + 1 < 4611686018427387904) (hno : D.no = false) (hnm : nmd s = true) (hsz : s.size ≤ maxLen) (hl : lk D.fs s = none) (hL : 64 ≤ D.fs.length) : Calls Try.prog 19 #[PT D.d 0, .string s, .slice q.p q.n q.cp] w fun e w' => e = .returned (.int .i64 8) ∧ Dw w D D.tick w' :=
  Append_full D.d s q D.mb D.rb D.fs.length ((D.k + 1 : Nat) : Int) hL (fun u => Below w.heap.size w u) (Dw w D D.tick) w (Below.refl _ _) below_on Dw.step (Dw.co h hk (by rw [hno]; rfl)) (nm_is s true hnm) (fun u hu => hu.1.cel) (Dw.lk hsz hl) Dw.len
theorem Append_newlong_f (h : DOk w D) (hk : D.k + 1 < 4611686018427387904) (hno : D.no = false) (hnm : nmd s = true) (hsz : s.size ≤ maxLen) (hl : lk D.fs s = none) (h64 : D.fs.length < 64) (hq : q.n ≤ 281474976710656) (hL : 1048576 < q.n) : Calls Try.prog 19 #[PT D.d 0, .string s, .slice q.p q.n q.cp] w fun e w' => e = .returned (.int .i64 3) ∧ Dw w D D.tick w' := by
  refine (Append_newlong D.d D.mb D.rb D.fs.length 0 s q ((D.k + 1 : Nat) : Int) h64 (Nat.zero_le _) hq (by omega) (fun u => Below w.heap.size w u) (Dw w D D.tick) (fun g u => Dw w D D.tick u ∧ FOk u (newF s g)) w (Below.refl _ _) below_on Dw.step (fun g u u' hu hb => ⟨Dw.step _ _ hu.1 hb, hu.2.below hb⟩) (Dw.co h hk (by rw [hno]; rfl)) (nm_is s true hnm) (fun u hu => hu.1.cel) (Dw.lk hsz hl) Dw.len (fun u hu => ?_) (fun g u hu => size_f (newF s g) u hu.2)).mono fun e w' hh => ?_
  · exact ⟨Dw.step _ _ hu ((Below.refl _ _).alloc (Nat.le_refl _) _), newF_ok s ((Mm.nil u).alloc _ _ rfl)⟩
  · obtain ⟨e1, g, e2, _⟩ := hh
    exact ⟨e1, e2⟩
end
end Wi
end Rg
end Go.Proofs.Ytidicdlfjdlpnaa
end
section
namespace Go.Proofs.Ytidicdlfjdlpnaa
open Go.RowKit
namespace Rg
namespace Wi
set_option maxRecDepth 100000
/-- A row's bytes as a list. -/
def bs (n : Nat) (f : Nat → Nat) : List Nat := (List.range n).map f
theorem bs_len (n : Nat) (f : Nat → Nat) : (bs n f).length = n := by simp [bs]
theorem bs_get {n i : Nat} (f : Nat → Nat) (h : i < n) : (bs n f)[i]? = some (f i) := by simp [bs, h]
theorem bs_cg {n : Nat} {f g : Nat → Nat} (h : ∀ i, i < n → f i = g i) : bs n f = bs n g := by
  unfold bs
  exact List.map_congr_left fun i hi => h i (List.mem_range.1 hi)
theorem bs_eq {n m : Nat} {f g : Nat → Nat} (h : bs n f = bs m g) : n = m ∧ ∀ i, i < n → f i = g i := by
  have e : n = m := by have := congrArg List.length h; rwa [bs_len, bs_len] at this
  subst e
  refine ⟨rfl, fun i hi => ?_⟩
  have := congrArg (fun l => l[i]?) h
  simp only [bs_get f hi, bs_get g hi] at this
  exact Option.some.inj this
theorem bs_take {n m : Nat} (f : Nat → Nat) (h : m ≤ n) : (bs n f).take m = bs m f := by
  unfold bs
  rw [← List.map_take, List.take_range, Nat.min_eq_left h]
theorem bs_add (n m : Nat) (f : Nat → Nat) : bs (n + m) f = bs n f ++ bs m (fun j => f (n + j)) := by
  unfold bs
  rw [List.range_add, List.map_append, List.map_map]
  rfl
theorem bs_ct {N st m : Nat} {X g : Nat → Nat} (h : st ≤ N) : bs (st + m) (ct X st g) = (bs N X).take st ++ bs m g := by
  rw [bs_add, bs_take X h]
  congr 1
  · exact bs_cg fun i hi => by unfold ct; rw [if_pos hi]
  · exact bs_cg fun i hi => by unfold ct; rw [if_neg (by omega)]; congr 1; omega
/-- A file: its safe bytes, its operations under way. -/
structure Af where
  nm : ByteArray
  sf : List Nat
  ops : List (Nat × List Nat)
  fr : Bool
/-- What operations make of bytes. -/
def ctn (c : List Nat) (ops : List (Nat × List Nat)) : List Nat := ops.foldl (fun c o => c.take o.1 ++ o.2) c
def Af.cn (f : Af) : List Nat := ctn f.sf f.ops
structure Ad where
  k : Nat
  fs : List Af
  rf : Nat → Bool
def uab (o : Uop) : Nat × List Nat := (o.st, bs o.q.n o.q.f)
def Fq.ab (f : Fq) : Af := ⟨f.nm, bs f.n f.P, f.ops.map uab, f.fr⟩
def Dq.ab (D : Dq) : Ad := ⟨D.k, D.fs.map Fq.ab, D.rf⟩
def Ad.lk (A : Ad) (s : ByteArray) : Option Af := A.fs.find? (fun f => decide (f.nm = s))
def Ad.no (A : Ad) : Bool := A.rf (A.k + 1)
def Ad.tick (A : Ad) : Ad := ⟨A.k + 1, A.fs, A.rf⟩
def Ad.swap (A : Ad) (s : ByteArray) (f : Af) : Ad := ⟨A.k, A.fs.map (fun x => if x.nm = s then f else x), A.rf⟩
def Af.more (f : Af) (n : Nat) (b : List Nat) : Af := ⟨f.nm, f.sf, f.ops ++ [(n, b)], f.fr⟩
def Af.dn (f : Af) (a : Int) : Nat := min a.toNat f.ops.length
def Af.tl (f : Af) (a b : Int) : List Nat := match f.ops[f.dn a]? with | some o => o.2.take b.toNat | none => []
def Af.set (f : Af) (a b : Int) : Af := ⟨f.nm, ctn f.sf (f.ops.take (f.dn a)) ++ f.tl a b, [], false⟩
def Af.there (f : Af) (a b : Int) : Bool := !f.fr || decide (0 < f.dn a + (f.tl a b).length)
theorem Dq.lk_ab (D : Dq) (s : ByteArray) : D.ab.lk s = (Wi.lk D.fs s).map Fq.ab := by
  unfold Ad.lk Dq.ab Wi.lk
  rw [List.find?_map]
  rfl
theorem ops_at {l : List Uop} {i : Nat} (h : i < l.length) : (l.map uab)[i]? = some (uab (opF l i)) := by
  rw [List.getElem?_map, opF_at h]
  rfl
theorem cn_upto {w : World} {f : Fq} (h : FOk w f) : ∀ i, i ≤ f.ops.length → bs (rN f.n (opF f.ops) i) (rP f.P (opF f.ops) i) = ctn f.ab.sf (f.ab.ops.take i)
  | 0, _ => rfl
  | i + 1, hi => by
    have e := cn_upto h i (by omega)
    have hv := (h.vl i (by omega)).1
    show bs ((opF f.ops i).st + (opF f.ops i).q.n) (ct (rP f.P (opF f.ops) i) (opF f.ops i).st (opF f.ops i).q.f) = _
    rw [bs_ct hv, e, List.take_add_one, show f.ab.ops[i]? = _ from ops_at (by omega)]
    unfold ctn
    rw [Option.toList_some, List.foldl_append]
    rfl
theorem Fq.cn_ab {w : World} {f : Fq} (h : FOk w f) : bs f.N f.C = f.ab.cn := by
  have e := cn_upto h f.ops.length (Nat.le_refl _)
  rw [List.take_of_length_le (by show (f.ops.map uab).length ≤ _; simp)] at e
  exact e
theorem Fq.N_ab {w : World} {f : Fq} (h : FOk w f) : f.N = f.ab.cn.length := by rw [← Fq.cn_ab h, bs_len]
theorem Fq.dn_ab (f : Fq) (a : Int) : f.dn a = f.ab.dn a := by unfold Fq.dn Af.dn Fq.ab; simp
theorem Fq.tl_ab (f : Fq) (a b : Int) : bs (f.tn a b) (opF f.ops (f.dn a)).q.f = f.ab.tl a b := by
  unfold Fq.tn Af.tl
  rw [← Fq.dn_ab]
  by_cases h : f.dn a < f.ops.length
  · rw [if_pos h, show f.ab.ops[f.dn a]? = _ from ops_at h]
    show _ = (bs _ _).take _
    by_cases h2 : b.toNat ≤ (opF f.ops (f.dn a)).q.n
    · rw [Nat.min_eq_left h2, bs_take _ h2]
    · rw [Nat.min_eq_right (by omega), List.take_of_length_le (by rw [bs_len]; omega)]
  · rw [if_neg h, List.getElem?_eq_none (by show (f.ops.map uab).length ≤ _; simp; omega)]
    rfl
theorem Fq.tn_ab (f : Fq) (a b : Int) : f.tn a b = (f.ab.tl a b).length := by rw [← Fq.tl_ab, bs_len]
theorem Fq.there_ab (f : Fq) (a b : Int) : f.there a b = f.ab.there a b := by
  unfold Fq.there Af.there
  rw [Fq.dn_ab, Fq.tn_ab]
  rfl
theorem Fq.set_ab {w : World} {f : Fq} (h : FOk w f) (s : Value) (a b : Int) : (f.set s a b).ab = f.ab.set a b := by
  have hd : f.dn a ≤ f.ops.length := Nat.min_le_right _ _
  have e : bs (f.sN a b) (f.sP a) = ctn f.ab.sf (f.ab.ops.take (f.ab.dn a)) ++ f.ab.tl a b := by
    unfold Fq.sN Fq.sP
    rw [bs_ct (Nat.le_refl _), List.take_of_length_le (by rw [bs_len]; exact Nat.le_refl _), Fq.tl_ab, cn_upto h _ hd, Fq.dn_ab]
  unfold Fq.set Af.set Fq.ab
  show Af.mk f.nm (bs (f.sN a b) (f.sP a)) [] false = _
  rw [e]
  rfl
theorem Fq.more_ab (f : Fq) (v : Value) (n : Nat) (q : Pt8) : (f.more v (appo n q)).ab = f.ab.more n (bs q.n q.f) := by
  unfold Fq.more Af.more Fq.ab
  simp [appo, uab]
theorem Dq.swap_ab (D : Dq) (f f' : Fq) : (D.swap f f').ab = D.ab.swap f.nm f'.ab := by
  unfold Dq.swap Ad.swap Dq.ab
  simp only [List.map_map]
  congr 1
  refine List.map_congr_left fun x _ => ?_
  simp only [Function.comp, swp]
  show _ = if x.nm = f.nm then _ else _
  split <;> rfl
/-- A disk on which the blocks of L do not lie; all of it is new since w0. -/
def Da (w0 : World) (d : Nat) (A : Ad) (L : List Nat) (u : World) : Prop := ∃ D : Dq, Dn w0 D u ∧ D.d = d ∧ D.ab = A ∧ ∀ x ∈ L, x < u.heap.size ∧ x ∉ D.bl
/-- The blocks of L are as they were. -/
def Kx (L : List Nat) (u u' : World) : Prop := u.heap.size ≤ u'.heap.size ∧ ∀ x ∈ L, u'.heap[x]? = u.heap[x]?
theorem Kx.trans {L : List Nat} {a b c : World} (h : Kx L a b) (k : Kx L b c) : Kx L a c := ⟨Nat.le_trans h.1 k.1, fun x hx => (k.2 x hx).trans (h.2 x hx)⟩
theorem Kx.refl (L : List Nat) (a : World) : Kx L a a := ⟨Nat.le_refl _, fun _ _ => rfl⟩
theorem Kx.sub {L M : List Nat} {a b : World} (h : Kx L a b) (hs : ∀ x ∈ M, x ∈ L) : Kx M a b := ⟨h.1, fun x hx => h.2 x (hs x hx)⟩
section
variable {w0 u u' : World} {d : Nat} {A : Ad} {L : List Nat}
theorem Da.b (h : Da w0 d A L u) : Below w0.heap.size w0 u := by
  obtain ⟨D, h1, _⟩ := h
  exact h1.b
theorem Da.kx (h : Da w0 d A L u) (hb : Below u.heap.size u u') : Kx L u u' := by
  obtain ⟨D, _, _, _, h1⟩ := h
  exact ⟨hb.size, fun x hx => hb.block x (h1 x hx).1⟩
theorem Da.step (h : Da w0 d A L u) (hb : Below u.heap.size u u') : Da w0 d A L u' := by
  obtain ⟨D, h1, h2, h3, h4⟩ := h
  exact ⟨D, h1.step hb, h2, h3, fun x hx => ⟨Nat.lt_of_lt_of_le (h4 x hx).1 hb.size, (h4 x hx).2⟩⟩
theorem Da.sub {M : List Nat} (h : Da w0 d A L u) (hs : ∀ x ∈ M, x ∈ L) : Da w0 d A M u := by
  obtain ⟨D, h1, h2, h3, h4⟩ := h
  exact ⟨D, h1, h2, h3, fun x hx => h4 x (hs x hx)⟩
theorem Da.add {M : List Nat} (h : Da w0 d A L u) (hb : Below u.heap.size u u') (hn : ∀ x ∈ M, u.heap.size ≤ x ∧ x < u'.heap.size) : Da w0 d A (M ++ L) u' := by
  obtain ⟨D, h1, h2, h3, h4⟩ := h
  refine ⟨D, h1.step hb, h2, h3, fun x hx => ?_⟩
  rcases List.mem_append.1 hx with e | e
  · exact ⟨(hn x e).2, fun hm => absurd (h1.dk.blt x hm) (Nat.not_lt.2 (hn x e).1)⟩
  · exact ⟨Nat.lt_of_lt_of_le (h4 x e).1 hb.size, (h4 x e).2⟩
theorem Da.dw {D D' : Dq} (h1 : Dn w0 D u) (h4 : ∀ x ∈ L, x < u.heap.size ∧ x ∉ D.bl) (hw : Dw u D D' u') (hd : D'.d = d) (ha : D'.ab = A) : Da w0 d A L u' ∧ Kx L u u' :=
  ⟨⟨D', h1.dw hw, hd, ha, fun x hx => ⟨Nat.lt_of_lt_of_le (h4 x hx).1 hw.2.1.size, fun hm => (hw.2.2 x hm).elim (h4 x hx).2 (fun e => absurd (h4 x hx).1 (Nat.not_lt.2 e))⟩⟩, hw.2.1.size, fun x hx => hw.2.1.block x (h4 x hx).1 (h4 x hx).2⟩
def Ad.app (A : Ad) (s : ByteArray) (b : List Nat) : Int × Ad :=
  if A.no then (13, A.tick) else if nmd s = false then (2, A.tick) else
  match A.lk s with
  | some f => if 1048576 < f.cn.length + b.length then (3, A.tick) else (0, A.tick.swap s (f.more f.cn.length b))
  | none => if 64 ≤ A.fs.length then (8, A.tick) else if 1048576 < b.length then (3, A.tick) else (0, ⟨A.k + 1, A.fs ++ [⟨s, [], [(0, b)], true⟩], A.rf⟩)
def Ad.syn (A : Ad) (s : ByteArray) : Int × Ad := if A.no then (13, A.tick) else match A.lk s with
  | none => (6, A.tick)
  | some f => (0, A.tick.swap s ⟨f.nm, f.cn, [], false⟩)
def Ad.cut (A : Ad) (s : ByteArray) (c : Int) : Int × Ad := if A.no then (13, A.tick) else match A.lk s with
  | none => (6, A.tick)
  | some f => if 0 ≤ c ∧ c ≤ f.cn.length then (0, A.tick.swap s (f.more c.toNat [])) else (2, A.tick)
def Ad.cra (A : Ad) (K : ByteArray → Kv) : Ad := ⟨A.k, (A.fs.filter fun f => f.there (K f.nm).1.2.1 (K f.nm).1.2.2).map fun f => f.set (K f.nm).1.2.1 (K f.nm).1.2.2, A.rf⟩
def Ad.ren (A : Ad) (f : Af) (s t : ByteArray) : Ad := ⟨A.k + 1, A.fs.filter (fun g => decide (g.nm ≠ s ∧ g.nm ≠ t)) ++ [⟨t, f.sf, f.ops, f.fr⟩], A.rf⟩
/-- A part's block, if it has one. -/
def gbl (q : Pt8) : List Nat := if q.n = 0 then [] else [q.gb]
def Pq (q : Pt8) (u : World) : Prop := Pok q ∧ (q.p = none → q.cp = 0) ∧ q.rs u
theorem Pq.kx {q : Pt8} {M : List Nat} (h : Pq q u) (hk : Kx M u u') (hm : ∀ x ∈ gbl q, x ∈ M) : Pq q u' := by
  refine ⟨h.1, h.2.1, fun hn => Nat.lt_of_lt_of_le (h.2.2.lt hn) hk.1, fun i hi => ?_⟩
  have e : u'.heap[q.gb]? = u.heap[q.gb]? := hk.2 _ (hm _ (by unfold gbl; rw [if_neg (by omega)]; simp))
  rw [World.cell?_of_block (a := ⟨q.gb, q.o + i, none⟩) e]
  exact h.2.2.at_ i hi
theorem Pq.below {q : Pt8} (h : Pq q u) (hb : Below u.heap.size u u') : Pq q u' := ⟨h.1, h.2.1, h.2.2.below hb⟩
theorem app_a (h : Da w0 d A L u) (hk : A.k < 1000000000) (ho : ∀ f ∈ A.fs, f.ops.length < 1000000) (s : ByteArray) (hs : s.size ≤ 281474976710656) (q : Pt8) (hq : Pq q u) (hL : ∀ x ∈ gbl q, x ∈ L ∨ x < w0.heap.size) (hn : q.n ≤ 281474976710656) :
    Calls Try.prog 19 #[PT d 0, .string s, .slice q.p q.n q.cp] u fun e u' => e = .returned (.int .i64 (A.app s (bs q.n q.f)).1) ∧ Da w0 d (A.app s (bs q.n q.f)).2 L u' ∧ Kx L u u' := by
  obtain ⟨D, h1, rfl, rfl, h4⟩ := h
  have hk : D.k < 1000000000 := hk
  have hk1 : D.k + 1 < 4611686018427387904 := by omega
  have hms : s.size ≤ maxLen := Nat.le_trans hs (by decide)
  have hrq : Rq q D u := ⟨hq.1, hq.2.1, hq.2.2, fun hn hm => by
    rcases hL q.gb (by unfold gbl; rw [if_neg (by omega)]; simp) with e | e
    · exact (h4 _ e).2 hm
    · exact absurd e (Nat.not_lt.2 (h1.lo _ hm))⟩
  have hno : D.ab.no = D.no := rfl
  unfold Ad.app
  by_cases c1 : D.no = true
  · rw [if_pos (hno.trans c1)]
    exact (Append_no_f D s q u h1.dk hk1 c1).mono fun e u' hh => ⟨hh.1, Da.dw h1 h4 hh.2 rfl rfl⟩
  · have c1 : D.no = false := by simpa using c1
    rw [if_neg (by rw [hno, c1]; decide)]
    by_cases c2 : nmd s = false
    · rw [if_pos c2]
      exact (Append_bad_f D s q u h1.dk hk1 c1 c2).mono fun e u' hh => ⟨hh.1, Da.dw h1 h4 hh.2 rfl rfl⟩
    · have c3 : nmd s = true := by simpa using c2
      rw [if_neg c2, Dq.lk_ab]
      cases hl : lk D.fs s with
      | none =>
        show Calls _ _ _ _ fun e u' => e = .returned (.int .i64 (if 64 ≤ (D.fs.map Fq.ab).length then _ else _ : Int × Ad).1) ∧ _
        simp only [Option.map_none, List.length_map, bs_len]
        by_cases c4 : 64 ≤ D.fs.length
        · simp only [show 64 ≤ D.ab.fs.length by show 64 ≤ (D.fs.map _).length; simpa using c4, c4, if_true]
          exact (Append_full_f D s q u h1.dk hk1 c1 c3 hms hl c4).mono fun e u' hh => ⟨hh.1, Da.dw h1 h4 hh.2 rfl rfl⟩
        · simp only [show ¬64 ≤ D.ab.fs.length by show ¬64 ≤ (D.fs.map _).length; simpa using c4, c4, if_false]
          by_cases c5 : 1048576 < q.n
          · simp only [c5, if_true]
            exact (Append_newlong_f D s q u h1.dk hk1 c1 c3 hms hl (by omega) hn c5).mono fun e u' hh => ⟨hh.1, Da.dw h1 h4 hh.2 rfl rfl⟩
          · simp only [c5, if_false]
            refine (Append_new_f D s hs q u h1.dk hk1 hrq c1 c3 hl (by omega) (by omega)).mono fun e u' hh => ?_
            obtain ⟨e1, g, q2, v, e2, e3, e4⟩ := hh
            refine ⟨e1, Da.dw h1 h4 e4 rfl ?_⟩
            unfold Dq.ab Dq.add
            simp only [List.map_append, List.map_cons, List.map_nil, Fq.more_ab, e2, e3]
            rfl
      | some f =>
        have hf := lk_mem hl
        have hF := h1.dk.fl f hf.1
        have hof : f.ops.length < 1000000 := by
          have := ho f.ab (List.mem_map.2 ⟨f, hf.1, rfl⟩)
          simpa [Fq.ab] using this
        simp only [Option.map_some, bs_len, ← Fq.N_ab hF]
        by_cases c5 : 1048576 < f.N + q.n
        · simp only [c5, if_true]
          exact (Append_long_f D s q u h1.dk hk1 c1 c3 hms f hl hn c5).mono fun e u' hh => ⟨hh.1, Da.dw h1 h4 hh.2 rfl rfl⟩
        · simp only [c5, if_false]
          refine (Append_hit_f D s hs q f u h1.dk hk1 hrq c1 c3 hl hof (by omega)).mono fun e u' hh => ?_
          obtain ⟨e1, q2, v, e2, e3, e4⟩ := hh
          refine ⟨e1, Da.dw h1 h4 e4 rfl ?_⟩
          rw [Dq.swap_ab, Fq.more_ab, e2, e3, hf.2]
          rfl
theorem Af.set_len (f : Af) : f.set f.ops.length 0 = ⟨f.nm, f.cn, [], false⟩ := by
  unfold Af.set Af.tl Af.dn Af.cn
  simp
theorem syn_a (h : Da w0 d A L u) (hk : A.k < 1000000000) (s : ByteArray) (hs : s.size ≤ 281474976710656) :
    Calls Try.prog 21 #[PT d 0, .string s] u fun e u' => e = .returned (.int .i64 (A.syn s).1) ∧ Da w0 d (A.syn s).2 L u' ∧ Kx L u u' := by
  obtain ⟨D, h1, rfl, rfl, h4⟩ := h
  have hk : D.k < 1000000000 := hk
  have hk1 : D.k + 1 < 4611686018427387904 := by omega
  have hms : s.size ≤ maxLen := Nat.le_trans hs (by decide)
  refine (Sync_f D s hms u h1.dk hk1).mono fun e u' hh => ?_
  have hno : D.ab.no = D.rf (D.k + 1) := rfl
  unfold Ad.syn
  by_cases c1 : D.rf (D.k + 1) = true
  · rw [if_pos c1] at hh
    rw [if_pos (hno.trans c1)]
    exact ⟨hh.1, Da.dw h1 h4 ⟨hh.2.1, hh.2.2, fun x hx => .inl hx⟩ rfl rfl⟩
  · rw [if_neg c1] at hh
    rw [if_neg (by rw [hno]; exact c1), Dq.lk_ab]
    cases hl : lk D.fs s with
    | none =>
      rw [hl] at hh
      exact ⟨hh.1, Da.dw h1 h4 ⟨hh.2.1, hh.2.2, fun x hx => .inl hx⟩ rfl rfl⟩
    | some f =>
      rw [hl] at hh
      obtain ⟨e1, s', e2, e3, e4⟩ := hh
      have hf := lk_mem hl
      have hF := h1.dk.fl f hf.1
      refine ⟨e1, Da.dw h1 h4 ⟨e2, e3, fun x hx => (Dq.swap_bl hx).elim .inl fun hy => (e4 x hy).elim (fun hz => .inl (Dq.fbl hf.1 x hz)) .inr⟩ rfl ?_⟩
      rw [Dq.swap_ab, Fq.set_ab hF, hf.2]
      have : (f.ab.set f.ops.length 0) = ⟨f.ab.nm, f.ab.cn, [], false⟩ := by
        rw [← Af.set_len]; congr 1; simp [Fq.ab]
      rw [this]
      rfl
theorem cut_a (h : Da w0 d A L u) (hk : A.k < 1000000000) (ho : ∀ f ∈ A.fs, f.ops.length < 1000000) (s : ByteArray) (hs : s.size ≤ 281474976710656) (c : Int) :
    Calls Try.prog 20 #[PT d 0, .string s, .int .i64 c] u fun e u' => e = .returned (.int .i64 (A.cut s c).1) ∧ Da w0 d (A.cut s c).2 L u' ∧ Kx L u u' := by
  obtain ⟨D, h1, rfl, rfl, h4⟩ := h
  have hk : D.k < 1000000000 := hk
  have hk1 : D.k + 1 < 4611686018427387904 := by omega
  have hms : s.size ≤ maxLen := Nat.le_trans hs (by decide)
  refine (Cut_f D s hms c u h1.dk hk1 (fun f hf => by simpa [Fq.ab] using ho f.ab (List.mem_map.2 ⟨f, hf, rfl⟩))).mono fun e u' hh => ?_
  have hno : D.ab.no = D.no := rfl
  unfold Ad.cut
  by_cases c1 : D.no = true
  · rw [if_pos c1] at hh
    rw [if_pos (hno.trans c1)]
    exact ⟨hh.1, Da.dw h1 h4 hh.2 rfl rfl⟩
  · rw [if_neg c1] at hh
    rw [if_neg (by rw [hno]; exact c1), Dq.lk_ab]
    cases hl : lk D.fs s with
    | none =>
      rw [hl] at hh
      exact ⟨hh.1, Da.dw h1 h4 hh.2 rfl rfl⟩
    | some f =>
      rw [hl] at hh
      have hf := lk_mem hl
      have hF := h1.dk.fl f hf.1
      simp only [Option.map_some, ← Fq.N_ab hF]
      by_cases c2 : 0 ≤ c ∧ c ≤ f.N
      · rw [if_pos c2]
        simp only [if_pos c2] at hh
        obtain ⟨e1, v, e2⟩ := hh
        refine ⟨e1, Da.dw h1 h4 e2 rfl ?_⟩
        rw [Dq.swap_ab, hf.2, show cuto c.toNat = appo c.toNat ⟨0, 0, 0, 0, none, fun _ => 0⟩ from rfl, Fq.more_ab]
        rfl
      · rw [if_neg c2]
        simp only [if_neg c2] at hh
        exact ⟨hh.1, Da.dw h1 h4 hh.2 rfl rfl⟩
theorem read_a (h : Da w0 d A L u) (s : ByteArray) (hs : s.size ≤ 281474976710656) :
    Calls Try.prog 18 #[PT d 0, .string s] u fun e u' => Below u.heap.size u u' ∧ match A.lk s with
      | some f => ∃ q : Pt8, e = .returned (.tuple #[.slice q.p q.n q.cp, .int .i64 0]) ∧ Pq q u' ∧ bs q.n q.f = f.cn ∧ Da w0 d A (gbl q ++ L) u'
      | none => e = .returned (.tuple #[.slice none 0 0, .int .i64 6]) ∧ Da w0 d A L u' := by
  have h' := h
  obtain ⟨D, h1, rfl, rfl, h4⟩ := h
  have hms : s.size ≤ maxLen := Nat.le_trans hs (by decide)
  refine (Read_f D s hms u h1.dk).mono fun e u' hh => ?_
  rw [Dq.lk_ab]
  cases hl : lk D.fs s with
  | none =>
    rw [hl] at hh
    exact ⟨hh.2, hh.1, h'.step hh.2⟩
  | some f =>
    rw [hl] at hh
    obtain ⟨v, e1, e2⟩ := hh
    obtain ⟨q, rfl, q1, q2, q3, q4, q5, q6⟩ := e2.part
    refine ⟨e2.b, q, e1, ⟨q1, q2, q5⟩, ?_, h'.add e2.b fun x hx => ?_⟩
    · rw [q3, q4]
      exact Fq.cn_ab (h1.dk.fl f (lk_mem hl).1)
    · unfold gbl at hx
      split at hx
      · cases hx
      · obtain rfl := List.mem_singleton.1 hx
        exact ⟨q6 (by omega), q5.lt (by omega)⟩
theorem pend_a (h : Da w0 d A L u) (s : ByteArray) (hs : s.size ≤ 281474976710656) :
    Calls Try.prog 27 #[PT d 0, .string s] u fun e u' => e = .returned (.int .i64 ((match A.lk s with | some f => f.ops.length | none => 0 : Nat) : Int)) ∧ Below u.heap.size u u' := by
  obtain ⟨D, h1, rfl, rfl, h4⟩ := h
  refine (Pending_f D s (Nat.le_trans hs (by decide)) u h1.dk).mono fun e u' hh => ?_
  rw [Dq.lk_ab]
  cases hl : lk D.fs s with
  | none => rw [hl] at hh; exact hh
  | some f =>
    rw [hl] at hh
    refine ⟨hh.1.trans ?_, hh.2⟩
    simp [Fq.ab]
theorem crash_a (h : Da w0 d A L u) (a : Option Addr) (len cap : Nat) (zs : Nat → Kv) (hlen : len ≤ 1152921504606846976) (hK : Kps u.heap.size u (.slice a len cap) len zs) :
    Calls Try.prog 24 #[PT d 0, .slice a len cap] u fun e u' => e = .returned (.int .i64 0) ∧ Da w0 d (A.cra (kof (kup (kbk len zs) len))) L u' ∧ Kx L u u' := by
  obtain ⟨D, h1, rfl, rfl, h4⟩ := h
  refine (Crash_f D a len cap zs hlen u h1.dk hK).mono fun e u' hh => ?_
  obtain ⟨e1, σ, e2⟩ := hh
  refine ⟨e1, Da.dw h1 h4 e2 rfl ?_⟩
  generalize kof (kup (kbk len zs) len) = K
  unfold Dq.aft Ad.cra Dq.ab
  have e3 : ∀ fs : List Fq, (∀ f ∈ fs, FOk u f) → ((fs.filter (Fq.stay K)).map (Fq.aft K σ)).map Fq.ab = ((fs.map Fq.ab).filter fun f => f.there (K f.nm).1.2.1 (K f.nm).1.2.2).map fun f => f.set (K f.nm).1.2.1 (K f.nm).1.2.2 := by
    intro fs
    induction fs with
    | nil => intro _; rfl
    | cons f r ih =>
      intro hf
      have i2 := ih fun g hg => hf g (List.mem_cons_of_mem _ hg)
      have e4 : f.stay K = f.ab.there (K f.ab.nm).1.2.1 (K f.ab.nm).1.2.2 := Fq.there_ab ..
      rw [List.map_cons, List.filter_cons, List.filter_cons, e4]
      split
      · rw [List.map_cons, List.map_cons, List.map_cons, i2]
        congr 1
        exact Fq.set_ab (hf f (List.mem_cons_self ..)) ..
      · exact i2
  rw [e3 D.fs h1.dk.fl]
theorem ren_busy_a (h : Da w0 d A L u) (hk : A.k < 1000000000) (s t : ByteArray) (hs : s.size ≤ 281474976710656) (hn : nmd t = true) (hno : A.no = false) (f : Af) (hl : A.lk s = some f) (ho : f.ops ≠ []) :
    Calls Try.prog 22 #[PT d 0, .string s, .string t] u fun e u' => e = .returned (.int .i64 10) ∧ Da w0 d A.tick L u' ∧ Kx L u u' := by
  obtain ⟨D, h1, rfl, rfl, h4⟩ := h
  have hk : D.k < 1000000000 := hk
  rw [Dq.lk_ab] at hl
  obtain ⟨f', hl', rfl⟩ := Option.map_eq_some_iff.1 hl
  refine (Rename_busy_f D s t (Nat.le_trans hs (by decide)) hn f' u h1.dk (by omega) hno hl' (by
    have : f'.ops ≠ [] := fun e => ho (by unfold Fq.ab; simp [e])
    exact List.length_pos_iff.2 this)).mono fun e u' hh => ?_
  exact ⟨hh.1, Da.dw h1 h4 hh.2 rfl rfl⟩
theorem ren_ok_a (h : Da w0 d A L u) (hk : A.k < 1000000000) (s t : ByteArray) (hs : s.size ≤ 281474976710656) (ht : t.size ≤ 281474976710656) (hn : nmd t = true) (hno : A.no = false) (f : Af) (hl : A.lk s = some f) (ho : f.ops = []) :
    Calls Try.prog 22 #[PT d 0, .string s, .string t] u fun e u' => e = .returned (.int .i64 0) ∧ Da w0 d (A.ren f s t) L u' ∧ Kx L u u' := by
  obtain ⟨D, h1, rfl, rfl, h4⟩ := h
  have hk : D.k < 1000000000 := hk
  rw [Dq.lk_ab] at hl
  obtain ⟨f', hl', rfl⟩ := Option.map_eq_some_iff.1 hl
  refine (Rename_ok_f D s t (Nat.le_trans hs (by decide)) ht hn f' u h1.dk (by omega) hno hl' (by
    have := congrArg List.length ho
    simpa [Fq.ab] using this)).mono fun e u' hh => ?_
  refine ⟨hh.1, Da.dw h1 h4 hh.2 rfl ?_⟩
  unfold Ad.ren Dq.ren Dq.ab Dq.tick
  simp only [List.map_append, List.map_cons, List.map_nil]
  congr 2
  · induction D.fs with
    | nil => rfl
    | cons x r ih =>
      simp only [List.filter_cons, List.map_cons]
      show _ = if decide (x.nm ≠ s ∧ x.nm ≠ t) = true then _ else _
      split
      · rw [List.map_cons, ih]
      · exact ih
theorem Nw.lo2 {w u : World} {d mb rb m : Nat} {rf : Nat → Bool} (h : Nw w d mb rb rf m u) : ∀ x ∈ Dq.bl ⟨d, mb, rb, 0, [], rf⟩, w.heap.size ≤ x := fun x hx => by
  have h1 := h.two.nm
  have h2 := h.nr
  have h3 := h.nd
  have : x = d ∨ x = mb ∨ x = rb := by simpa [Dq.bl] using hx
  omega
theorem new_a {w : World} {d mb rb m : Nat} {rf : Nat → Bool} (h : Nw w d mb rb rf m u) : Da w d ⟨0, [], rf⟩ [] u := ⟨⟨d, mb, rb, 0, [], rf⟩, ⟨h.two.b, h.disk, h.lo2⟩, rfl, rfl, fun _ hx => by cases hx⟩
theorem names1_a (h : Da w0 d A L u) (s : ByteArray) (hA : A.fs.map Af.nm = [s]) :
    Calls Try.prog 26 #[PT d 0] u fun e u' => ∃ g o c, e = .returned (.slice (some ⟨g, o, none⟩) 1 c) ∧ Below u.heap.size u u' ∧ u.heap.size ≤ g ∧ g < u'.heap.size ∧ u'.cell? ⟨g, o, none⟩ = some (.string s) := by
  obtain ⟨D, h1, rfl, rfl, h4⟩ := h
  refine (Names_f D u h1.dk).mono fun e u' hh => ?_
  obtain ⟨v, ss, rfl, hp, hr, hv, hb⟩ := hh
  have e1 : (D.fs.map fun f => f.nm.data.toList) = [s.data.toList] := by
    have : (D.fs.map Fq.nm) = [s] := by
      rw [← hA]; unfold Dq.ab; simp [Fq.ab]
    rw [show (fun f : Fq => f.nm.data.toList) = (fun x : ByteArray => x.data.toList) ∘ Fq.nm from rfl, ← List.map_map, this]
    rfl
  rw [e1] at hp
  have e2 := List.perm_singleton.1 hp
  subst e2
  rcases hr.2 with ⟨_, h0⟩ | ⟨g, cap, cur, rfl, hg, _⟩
  · cases h0
  · refine ⟨g, 0, cap, rfl, hb, hg, (World.ownsRow.lt hr g rfl).2, ?_⟩
    exact World.ownsRow.cells hr (g := g) rfl 0 (.string s) (by rw [List.mergeSort_singleton]; rfl)
end
end Wi
end Rg
end Go.Proofs.Ytidicdlfjdlpnaa
end
section
namespace Go.Proofs.Ytidicdlfjdlpnaa
open Go.RowKit
namespace Rg
namespace Wi
set_option maxRecDepth 100000
abbrev W32 (n : Nat) : Value := .int .u32 (n : Int)
/-- A number shifted by 1, and turned if a 1 fell out; k times; the table; a step of the check; the check of bytes. -/
def shf (n : Nat) : Nat := if an n 1 = 1 then xo (sr n 1) 3988292384 else sr n 1
def shN (n : Nat) : Nat → Nat
  | 0 => n
  | k + 1 => shf (shN n k)
def crt (i : Nat) : Nat := shN (c32 i) 8
def xb (a b : Nat) : Nat := (a ^^^ b) % 256
def cst (n c : Nat) : Nat := xo (sr n 8) (crt (xb (n % 256) c))
def crn (f : Nat → Nat) : Nat → Nat
  | 0 => 4294967295
  | k + 1 => cst (crn f k) (f k)
def crc (f : Nat → Nat) (n : Nat) : Nat := nt (crn f n)
def nb4 (a b c d : Nat) : Nat := ou (ou (ou (sl (c32 a) 24) (sl (c32 b) 16)) (sl (c32 c) 8)) (c32 d)
section
variable {ρ : Operand → Value} {o : Oper} {x y : Operand} {a b k g off j n : Nat} {w : World}
end
/-- A table in memory, from a place of a block on. -/
structure Tb (g t : Nat) (w : World) : Prop where
  lt : g < w.heap.size
  at_ : ∀ i, i < 256 → w.cell? ⟨g, t + i, none⟩ = some (W32 (crt i))
theorem Tb.keep {g t : Nat} {w w' : World} (h : Tb g t w) (hs : w.heap.size ≤ w'.heap.size) (hb : w'.heap[g]? = w.heap[g]?) : Tb g t w' := ⟨Nat.lt_of_lt_of_le h.lt hs, fun i hi => (World.cell?_of_block (a := ⟨g, t + i, none⟩) hb).trans (h.at_ i hi)⟩
theorem Tb.below {g t : Nat} {w w' : World} (h : Tb g t w) (hb : Below w.heap.size w w') : Tb g t w' := h.keep hb.size (hb.block g h.lt)
theorem Tb.mm {g : Nat} {w : World} (h : Mm w [(g, ints .u32 crt 256)]) : Tb g 0 w := ⟨(h.blk _ (List.mem_cons_self ..)).1, fun i hi => by rw [Nat.zero_add]; exact h.get 0 rfl i (ints_get _ _ hi)⟩
end Wi
end Rg
end Go.Proofs.Ytidicdlfjdlpnaa
end
section
namespace Go.Proofs.Ytidicdlfjdlpnaa
open Go.RowKit
namespace Rg
namespace Wi
set_option maxRecDepth 100000
/-- A part's first k, a part without its first k. -/
def Pt8.tk (q : Pt8) (k : Nat) : Pt8 := ⟨q.gb, q.o, k, q.cp, q.p, q.f⟩
def Pt8.dp (q : Pt8) (k : Nat) : Pt8 := ⟨q.gb, q.o + k, q.n - k, q.cp - k, if q.cp = k then q.p else q.p.map (·.add k), fun j => q.f (k + j)⟩
theorem Pok.tk {q : Pt8} (h : Pok q) {k : Nat} (hk : k ≤ q.n) : Pok (q.tk k) := by
  refine ⟨⟨fun h0 => ?_, fun h0 => ⟨_, _, by rw [← h0]⟩⟩, Nat.le_trans hk h.le⟩
  have e := h.at (Nat.lt_of_lt_of_le h0 hk)
  show Value.slice q.p k q.cp = _
  rw [e]
  rfl
theorem Pok.dp {q : Pt8} (h : Pok q) {k : Nat} (hk : k ≤ q.n) : Pok (q.dp k) := by
  refine ⟨⟨fun h0 => ?_, fun h0 => ⟨_, _, by rw [← h0]⟩⟩, ?_⟩
  · have h1 : k < q.n := by have : 0 < q.n - k := h0; omega
    have h2 := h.le
    have e := h.at (by omega)
    show Value.slice (if q.cp = k then q.p else q.p.map (·.add k)) (q.n - k) (q.cp - k) = .slice (some ⟨q.gb, q.o + k + 0, none⟩) (q.n - k - 0) (q.cp - k - 0)
    rw [if_neg (by omega), e, Option.map_some, show (⟨q.gb, q.o, none⟩ : Addr).add k = ⟨q.gb, q.o + k, none⟩ by unfold Addr.add; split <;> simp_all]
    rfl
  · have h2 := h.le
    show q.n - k ≤ q.cp - k
    omega
theorem Pt8.rs_tk {q : Pt8} {w : World} (h : q.rs w) {k : Nat} (hk : k ≤ q.n) : (q.tk k).rs w := ⟨fun h0 => h.lt (Nat.lt_of_lt_of_le h0 hk), fun i hi => h.at_ i (Nat.lt_of_lt_of_le hi hk)⟩
theorem Pt8.rs_dp {q : Pt8} {w : World} (h : q.rs w) {k : Nat} (hk : k ≤ q.n) : (q.dp k).rs w := ⟨fun h0 => h.lt (by have : 0 < q.n - k := h0; omega), fun i hi => by
  have h1 : i < q.n - k := hi
  have e := h.at_ (k + i) (by omega)
  rw [← Nat.add_assoc] at e
  exact e⟩
theorem Pt8.dp_no {q : Pt8} (h : q.p = none → q.cp = 0) (k : Nat) : (q.dp k).p = none → (q.dp k).cp = 0 := fun e => by
  have e2 : (if q.cp = k then q.p else q.p.map (·.add k)) = none := e
  show q.cp - k = 0
  by_cases hc : q.cp = k
  · omega
  · rw [if_neg hc] at e2
    have : q.p = none := by cases hp : q.p with | none => rfl | some a => rw [hp] at e2; cases e2
    rw [h this]
    omega
/-- The number at a part's front. -/
def Pt8.nb (q : Pt8) : Nat := nb4 (q.f 0) (q.f 1) (q.f 2) (q.f 3)
section
variable {ρ : Operand → Value} {o : Oper} {x x0 x1 x2 x3 y z : Operand} {a b c d k m : Nat} {w : World}
end
end Wi
end Rg
end Go.Proofs.Ytidicdlfjdlpnaa
end
section
namespace Go.Proofs.Ytidicdlfjdlpnaa
open Go.RowKit
namespace Rg
namespace Wi
set_option maxRecDepth 100000
end Wi
end Rg
end Go.Proofs.Ytidicdlfjdlpnaa
end
section
namespace Go.Proofs.Ytidicdlfjdlpnaa
open Go.RowKit
namespace Rg
namespace Wi
set_option maxRecDepth 100000
/-- Parts as a list's cells. -/
def pcs (P : Nat → Pt8) (m : Nat) : List Value := (List.range m).map fun i => .slice (P i).p (P i).n (P i).cp
def upP (P : Nat → Pt8) (k : Nat) (q : Pt8) : Nat → Pt8 := fun i => if i = k then q else P i
theorem pcs_snoc (P : Nat → Pt8) (m : Nat) (q : Pt8) : pcs P m ++ [.slice q.p q.n q.cp] = pcs (upP P m q) (m + 1) := by
  unfold pcs
  rw [List.range_succ, List.map_append]
  congr 1
  · exact List.map_congr_left fun i hi => by
      have h : i ≠ m := by have : i < m := (by simpa using hi); omega
      unfold upP
      rw [if_neg h]
  · simp [upP]
theorem info_sl : ∃ i, Try.prog.info? 34 = some i ∧ i.zero = some (.slice none 0 0) ∧ i.size = 1 ∧ i.bytes = 24 := by
  obtain ⟨i, hi⟩ : ∃ i, Try.prog.info? 34 = some i := by
    have h : (Try.prog.info? 34).isSome = true := by kernel_rfl
    rcases e : Try.prog.info? 34 with _ | i
    · rw [e] at h; cases h
    · exact ⟨i, rfl⟩
  have h1 : (Try.prog.info? 34).map (·.zero) = some (some (.slice none 0 0)) := by kernel_rfl
  have h2 : (Try.prog.info? 34).map (·.size) = some 1 := by kernel_rfl
  have h3 : (Try.prog.info? 34).map (·.bytes) = some 24 := by kernel_rfl
  rw [hi] at h1 h2 h3
  exact ⟨i, hi, Option.some.inj h1, Option.some.inj h2, Option.some.inj h3⟩
/-- A list of the call's own, of parts of the call's own. -/
structure Lr (w : World) (vv : Value) (m : Nat) (P : Nat → Pt8) (w' : World) : Prop where
  b : Below w.heap.size w w'
  own : w'.ownsRow w.heap.size 34 1 vv m (pcs P m)
  ok : ∀ i, i < m → Pok (P i) ∧ ((P i).p = none → (P i).cp = 0) ∧ (P i).rs w' ∧ (0 < (P i).n → w.heap.size ≤ (P i).gb ∧ (P i).gb ∉ vbl vv)
theorem Rs.keep {gb o n : Nat} {f : Nat → Nat} {w w' : World} (h : Rs gb o n f w) (hs : w.heap.size ≤ w'.heap.size) (hb : 0 < n → w'.heap[gb]? = w.heap[gb]?) : Rs gb o n f w' :=
  ⟨fun h0 => Nat.lt_of_lt_of_le (h.lt h0) hs, fun i hi => (World.cell?_of_block (a := ⟨gb, o + i, none⟩) (hb (Nat.lt_of_le_of_lt (Nat.zero_le i) hi))).trans (h.at_ i hi)⟩
section
variable {w u u' : World} {vv : Value} {m : Nat} {P : Nat → Pt8}
theorem Lr.start (P : Nat → Pt8) (h : Below w.heap.size w u) : Lr w (.slice none 0 0) 0 P u := ⟨h, World.ownsRow_nil _ _ _ _, fun _ hi => absurd hi (Nat.not_lt_zero _)⟩
theorem Lr.step (h : Lr w vv m P u) (hb : Below u.heap.size u u') : Lr w vv m P u' :=
  ⟨h.b.trans (hb.mono h.b.size), own_keep h.own (fun x hx => hb.block x (own_lt h.own x hx)), fun i hi => ⟨(h.ok i hi).1, (h.ok i hi).2.1, (h.ok i hi).2.2.1.below hb, (h.ok i hi).2.2.2⟩⟩
theorem Lr.app (h : Lr w vv m P u) (hm : m ≤ 1000000) {q : Pt8} (hq : Pok q ∧ (q.p = none → q.cp = 0) ∧ q.rs u ∧ (0 < q.n → w.heap.size ≤ q.gb ∧ q.gb ∉ vbl vv)) {gs : Nat} (hs : u.cell? ⟨gs, 0, none⟩ = some (.slice q.p q.n q.cp)) (ty : TypeId) :
    ∃ v' u2, (Builtin.append_ #[61, 61] ty #[vv, .slice (some ⟨gs, 0, none⟩) 1 1]).run Try.prog u = .ok v' u2 ∧ Lr w v' (m + 1) (upP P m q) u2 := by
  obtain ⟨i0, hi, hz0, hz1, hz2⟩ := info_sl
  obtain ⟨v', w2, r1, r2, r3, _, r5⟩ := run_append_own_at (P := Try.prog) u w.heap.size 61 ty 34 i0 (.slice none 0 0) 1 24 Try.underlying61 hi hz0 hz1 hz2 rfl (by decide) vv m _ h.own ⟨gs, 0, none⟩ 1 1 [.slice q.p q.n q.cp] rfl
    (fun j v hj => by
      rcases j with _ | j
      · rw [show (⟨gs, 0, none⟩ : Addr).add 0 = ⟨gs, 0, none⟩ by unfold Addr.add; split <;> simp_all, hs]; exact hj
      · cases hj) (fun v hv => by rw [List.mem_singleton.1 hv]; rfl) (by unfold maxLen; omega) (by omega) h.b.size
  rw [pcs_snoc] at r2
  have hc := Chg.grown r3
  have key : ∀ p : Pt8, p.rs u → (0 < p.n → w.heap.size ≤ p.gb ∧ p.gb ∉ vbl vv) → p.rs w2 ∧ (0 < p.n → w.heap.size ≤ p.gb ∧ p.gb ∉ vbl v') := fun p h1 h2 => ⟨h1.keep hc.size (fun h0 => hc.block _ (h1.lt h0) (h2 h0).2), fun h0 => ⟨(h2 h0).1, fun hx => by
    unfold vbl at hx
    rcases r5 with e | e
    · rw [e] at hx; exact (h2 h0).2 hx
    · rw [e] at hx
      have : p.gb = u.heap.size := by simpa using hx
      have := h1.lt h0
      omega⟩⟩
  refine ⟨v', w2, r1, h.b.trans (hc.toBelow (fun x hx => ?_) h.b.size), r2, fun i hi => ?_⟩
  · unfold vbl at hx
    cases hv : vv.ownBlock with
    | none => rw [hv] at hx; simp at hx
    | some k => rw [hv] at hx; simp at hx; subst hx; exact (World.ownsRow.lt h.own _ hv).1
  · unfold upP
    by_cases e : i = m
    · rw [if_pos e]
      exact ⟨hq.1, hq.2.1, key q hq.2.2.1 hq.2.2.2⟩
    · rw [if_neg e]
      have h3 := h.ok i (by omega)
      exact ⟨h3.1, h3.2.1, key _ h3.2.2.1 h3.2.2.2⟩
end
/-- Bytes from a place on; a frame's head that is whole; a record that is whole. -/
def sh (f : Nat → Nat) (a : Nat) : Nat → Nat := fun j => f (a + j)
structure Hdk (f : Nat → Nat) (L : Nat) : Prop where
  nb : nb4 (f 0) (f 1) (f 2) (f 3) = L
  le : L ≤ 65536
  ck : crc f 4 = nb4 (f 4) (f 5) (f 6) (f 7)
def Bdk (f : Nat → Nat) (L : Nat) : Prop := crc (sh f 8) L = nb4 (f (8 + L)) (f (8 + L + 1)) (f (8 + L + 2)) (f (8 + L + 3))
/-- So many whole frames stand at the front of a log's bytes. -/
structure Lgk (f : Nat → Nat) (n : Nat) (A Ln : Nat → Nat) (M : Nat) : Prop where
  z : A 0 = 0
  s : ∀ i, i < M → A (i + 1) = A i + (12 + Ln i)
  le : A M ≤ n
  hd : ∀ i, i < M → Hdk (sh f (A i)) (Ln i)
  bd : ∀ i, i < M → Bdk (sh f (A i)) (Ln i)
theorem Lgk.mono {f : Nat → Nat} {n : Nat} {A Ln : Nat → Nat} {M : Nat} (h : Lgk f n A Ln M) : ∀ (k i : Nat), i + k = M → A i + 12 * k ≤ A M
  | 0, i, e => by rw [show i = M by omega]; omega
  | k + 1, i, e => by
    have h1 := h.mono k (i + 1) (by omega)
    have h2 := h.s i (by omega)
    omega
theorem Lgk.at_le {f : Nat → Nat} {n : Nat} {A Ln : Nat → Nat} {M : Nat} (h : Lgk f n A Ln M) {i : Nat} (hi : i ≤ M) : A i ≤ n ∧ M - i ≤ n := by
  have := h.mono (M - i) i (by omega)
  have := h.le
  omega
theorem Lgk.nx_le {f : Nat → Nat} {n : Nat} {A Ln : Nat → Nat} {M : Nat} (h : Lgk f n A Ln M) {i : Nat} (hi : i < M) : A i + (12 + Ln i) ≤ n := by
  have h1 := (h.at_le (i := i + 1) hi).1
  rw [h.s i hi] at h1
  exact h1
/-- Where the reading is: how many were read, what is left, the list. -/
structure Gr where
  i : Nat
  r : Pt8
  v : Value
  P : Nat → Pt8
structure Rk (q : Pt8) (A Ln : Nat → Nat) (M : Nat) (w : World) (x : Gr) : Prop where
  le : x.i ≤ M
  ok : Pok x.r ∧ x.r.rs w
  no : x.r.p = none → x.r.cp = 0
  n : x.r.n + A x.i = q.n
  f : x.r.f = sh q.f (A x.i)
  ps : ∀ i, i < x.i → (x.P i).n = Ln i ∧ ∀ j, j < Ln i → (x.P i).f j = q.f (A i + 8 + j)
theorem Rk.next {q : Pt8} {A Ln : Nat → Nat} {M : Nat} {w : World} {x : Gr} (h : Rk q A Ln M w x) (hg : Lgk q.f q.n A Ln M) (hlt : x.i < M) {q2 : Pt8} {v : Value} (hn : q2.n = ((x.r.tk (8 + Ln x.i)).dp 8).n) (hf : q2.f = ((x.r.tk (8 + Ln x.i)).dp 8).f) : Rk q A Ln M w ⟨x.i + 1, x.r.dp (8 + Ln x.i + 4), v, upP x.P x.i q2⟩ := by
  have h1 := h.n
  have h2 := hg.nx_le hlt
  have h3 := hg.s x.i hlt
  have h4 := h.ok.1.le
  refine ⟨hlt, ⟨h.ok.1.dp (by omega), Pt8.rs_dp h.ok.2 (by omega)⟩, Pt8.dp_no h.no _, ?_, ?_, fun i hi => ?_⟩
  · show x.r.n - (8 + Ln x.i + 4) + A (x.i + 1) = q.n
    omega
  · show (fun j => x.r.f (8 + Ln x.i + 4 + j)) = sh q.f (A (x.i + 1))
    funext j
    rw [h.f]
    show q.f (A x.i + (8 + Ln x.i + 4 + j)) = q.f (A (x.i + 1) + j)
    rw [h3]
    congr 1
    omega
  · show (upP x.P x.i q2 i).n = Ln i ∧ ∀ j, j < Ln i → (upP x.P x.i q2 i).f j = q.f (A i + 8 + j)
    unfold upP
    by_cases e : i = x.i
    · rw [if_pos e, e, hn, hf]
      refine ⟨(show 8 + Ln x.i - 8 = _ by omega), fun j hj => ?_⟩
      show x.r.f (8 + j) = _
      rw [h.f]
      show q.f (A x.i + (8 + j)) = _
      rw [Nat.add_assoc]
    · rw [if_neg e]
      exact h.ps i (by have : i < x.i + 1 := hi; omega)
end Wi
end Rg
end Go.Proofs.Ytidicdlfjdlpnaa
end
section
namespace Go.Proofs.Ytidicdlfjdlpnaa
open Go.RowKit
namespace Rg
namespace Wi
set_option maxRecDepth 100000
/-- An empty part. -/
def nilp (f : Nat → Nat) : Pt8 := ⟨0, 0, 0, 0, none, f⟩
theorem Nw.up {w u u' : World} {d mb rb m : Nat} {rf : Nat → Bool} (h : Nw u d mb rb rf m u') (hb : Below w.heap.size w u) : Nw w d mb rb rf m u' := ⟨⟨hb.trans (h.two.b.mono hb.size), Nat.le_trans hb.size h.two.nm, h.two.mp⟩, h.nr, h.nd, h.cel, h.rm⟩
/-- A part that was made behind w. -/
structure Pw (w : World) (n : Nat) (f : Nat → Nat) (q : Pt8) (u : World) : Prop where
  b : Below w.heap.size w u
  ok : Pok q
  no : q.p = none → q.cp = 0
  rs : q.rs u
  n : q.n = n
  f : q.f = f
  gb : 0 < q.n → w.heap.size ≤ q.gb
theorem Pw.step {w u u' : World} {n : Nat} {f : Nat → Nat} {q : Pt8} (h : Pw w n f q u) (hb : Below u.heap.size u u') : Pw w n f q u' := ⟨h.b.trans (hb.mono h.b.size), h.ok, h.no, h.rs.below hb, h.n, h.f, h.gb⟩
end Wi
end Rg
end Go.Proofs.Ytidicdlfjdlpnaa
end
section
namespace Go.Proofs.Ytidicdlfjdlpnaa
open Go.RowKit
namespace Rg
namespace Wi
set_option maxRecDepth 100000
end Wi
end Rg
end Go.Proofs.Ytidicdlfjdlpnaa
end
section
namespace Go.Proofs.Ytidicdlfjdlpnaa
open Go.RowKit
namespace Rg
namespace Wi
set_option maxRecDepth 100000
/-- A list of parts in memory above B. -/
structure Lq (B : Nat) (vv : Value) (m : Nat) (P : Nat → Pt8) (u : World) : Prop where
  own : u.ownsRow B 34 1 vv m (pcs P m)
  ok : ∀ i, i < m → Pok (P i) ∧ ((P i).p = none → (P i).cp = 0) ∧ (P i).rs u ∧ (0 < (P i).n → B ≤ (P i).gb)
section
variable {B m : Nat} {vv : Value} {P : Nat → Pt8} {w u u' : World}
theorem Lq.lo (h : Lq B vv m P u) : ∀ x ∈ vbl vv, B ≤ x := fun x hx => by
  unfold vbl at hx
  cases hv : vv.ownBlock with
  | none => rw [hv] at hx; simp at hx
  | some k => rw [hv] at hx; simp at hx; subst hx; exact (World.ownsRow.lt h.own _ hv).1
theorem Lq.chg (h : Lq B vv m P u) {L : List Nat} (hc : Chg L u u') (hL : ∀ x ∈ L, x < B) : Lq B vv m P u' :=
  ⟨own_keep h.own (fun x hx => hc.block x (own_lt h.own x hx) (fun hm => absurd (hL x hm) (Nat.not_lt.2 (h.lo x hx)))), fun i hi => ⟨(h.ok i hi).1, (h.ok i hi).2.1, (h.ok i hi).2.2.1.keep hc.size (fun h0 => hc.block _ ((h.ok i hi).2.2.1.lt h0) (fun hm => absurd (hL _ hm) (Nat.not_lt.2 ((h.ok i hi).2.2.2 h0)))), (h.ok i hi).2.2.2⟩⟩
theorem Lq.step (h : Lq B vv m P u) (hb : Below u.heap.size u u') : Lq B vv m P u' := h.chg (L := []) (Chg.of hb) (fun _ hx => by cases hx)
theorem Lq.put (h : Lq B vv m P u) {j : Nat} (hj : j < B) (off : Nat) (vs : List Value) : Lq B vv m P (u.setCells j off vs) := h.chg (L := [j]) ((Chg.refl _ _).put (.inl (List.mem_cons_self ..))) (fun x hx => by rw [List.mem_singleton.1 hx]; exact hj)
end
end Wi
end Rg
end Go.Proofs.Ytidicdlfjdlpnaa
end
section
namespace Go.Proofs.Ytidicdlfjdlpnaa
open Go.RowKit
namespace Rg
namespace Wi
set_option maxRecDepth 100000
/-- A part's bytes. -/
def q8 (f : Nat → Nat) (n : Nat) : List Int := (List.range n).map fun i => ((f i : Nat) : Int)
theorem q8_cg {f g : Nat → Nat} {n : Nat} (h : ∀ i, i < n → f i = g i) : q8 f n = q8 g n := by
  unfold q8
  exact List.map_congr_left fun i hi => by rw [h i (by simpa using hi)]
theorem bsl_q {q : Pt8} {u : World} (h : Pok q) (hr : q.rs u) : BSl u (q8 q.f q.n) q.cp (.slice q.p q.n q.cp) := by
  rcases Nat.eq_zero_or_pos q.n with e | e
  · rw [e]
    exact BSl.void q.p rfl
  · rw [h.at e]
    exact Rd.bsl ⟨hr.lt e, fun i hi => hr.at_ i hi⟩ h.le
theorem same_q {q r : Pt8} {u : World} (hq : Pok q ∧ q.rs u) (hr : Pok r ∧ r.rs u) (hn : q.n = r.n) (hf : ∀ i, i < r.n → q.f i = r.f i) : Calls Try.prog 29 #[.slice q.p q.n q.cp, .slice r.p r.n r.cp] u fun e u' => e = .returned (.bool true) ∧ Below u.heap.size u u' := by
  have h1 := bsl_q hq.1 hq.2
  rw [show q8 q.f q.n = q8 r.f r.n by rw [hn]; exact q8_cg hf] at h1
  exact same_bb h1 (bsl_q hr.1 hr.2)
/-- A list of parts, as it is read. -/
structure Lv (pl : Option Addr) (g o m : Nat) (P : Nat → Pt8) (u : World) : Prop where
  p : 0 < m → pl = some ⟨g, o, none⟩
  lt : 0 < m → g < u.heap.size
  at_ : ∀ i, i < m → u.cell? ⟨g, o + i, none⟩ = some (.slice (P i).p (P i).n (P i).cp)
  ok : ∀ i, i < m → Pok (P i) ∧ ((P i).p = none → (P i).cp = 0) ∧ (P i).rs u
theorem Lv.below {pl : Option Addr} {g o m : Nat} {P : Nat → Pt8} {u u' : World} (h : Lv pl g o m P u) (hb : Below u.heap.size u u') : Lv pl g o m P u' :=
  ⟨h.p, fun h0 => Nat.lt_of_lt_of_le (h.lt h0) hb.size, fun i hi => by rw [hb.cell (p := ⟨g, o + i, none⟩) (h.lt (by omega))]; exact h.at_ i hi, fun i hi => ⟨(h.ok i hi).1, (h.ok i hi).2.1, (h.ok i hi).2.2.below hb⟩⟩
section
variable {ρ : Operand → Value} {o : Oper} {x y : Operand} {g off j m c : Nat} {v : Value} {w : World}
end
theorem Lq.base {B B' m : Nat} {v : Value} {P : Nat → Pt8} {u : World} (h : Lq B v m P u) (hb : B' ≤ B) : Lq B' v m P u := ⟨own_base h.own hb, fun i hi => ⟨(h.ok i hi).1, (h.ok i hi).2.1, (h.ok i hi).2.2.1, fun h0 => Nat.le_trans hb ((h.ok i hi).2.2.2 h0)⟩⟩
end Wi
end Rg
end Go.Proofs.Ytidicdlfjdlpnaa
end
section
namespace Go.Proofs.Ytidicdlfjdlpnaa
open Go.RowKit
namespace Rg
namespace Wi
set_option maxRecDepth 100000
/-- A disk, and beside it parts and cells that it does not touch. -/
structure De (w0 : World) (d : Nat) (A : Ad) (ps : List Pt8) (cs : List (Nat × Nat × Value)) (u : World) : Prop where
  da : Da w0 d A (ps.flatMap gbl ++ cs.map Prod.fst) u
  pq : ∀ q ∈ ps, Pq q u
  cl : ∀ c ∈ cs, u.cell? ⟨c.1, c.2.1, none⟩ = some c.2.2
section
variable {w0 u u' : World} {d : Nat} {A A' : Ad} {ps : List Pt8} {cs : List (Nat × Nat × Value)}
theorem De.kx (h : De w0 d A ps cs u) (ha : Da w0 d A' (ps.flatMap gbl ++ cs.map Prod.fst) u') (hk : Kx (ps.flatMap gbl ++ cs.map Prod.fst) u u') : De w0 d A' ps cs u' :=
  ⟨ha, fun q hq => (h.pq q hq).kx hk fun x hx => List.mem_append_left _ (List.mem_flatMap.2 ⟨q, hq, hx⟩), fun c hc => by
    rw [World.cell?_of_block (a := ⟨c.1, c.2.1, none⟩) (hk.2 _ (List.mem_append_right _ (List.mem_map.2 ⟨c, hc, rfl⟩)))]
    exact h.cl c hc⟩
theorem De.step (h : De w0 d A ps cs u) (hb : Below u.heap.size u u') : De w0 d A ps cs u' := h.kx (h.da.step hb) (h.da.kx hb)
theorem De.b (h : De w0 d A ps cs u) : Below w0.heap.size w0 u := h.da.b
theorem De.part {q : Pt8} (h : De w0 d A ps cs u) (hq : Pq q u') (hb : Below u.heap.size u u') (hd : Da w0 d A (gbl q ++ (ps.flatMap gbl ++ cs.map Prod.fst)) u') : De w0 d A (q :: ps) cs u' :=
  ⟨by rw [List.flatMap_cons, List.append_assoc]; exact hd, fun x hx => by
    rcases List.mem_cons.1 hx with e | e
    · subst e; exact hq
    · exact ((h.step hb).pq x e), (h.step hb).cl⟩
theorem De.cell {g o : Nat} {v : Value} (h : De w0 d A ps cs u) (hb : Below u.heap.size u u') (h1 : u.heap.size ≤ g) (h2 : g < u'.heap.size) (h3 : u'.cell? ⟨g, o, none⟩ = some v) : De w0 d A ps ((g, o, v) :: cs) u' := by
  have e := h.da.add (M := [g]) hb fun x hx => by obtain rfl := List.mem_singleton.1 hx; exact ⟨h1, h2⟩
  refine ⟨e.sub fun x hx => ?_, (h.step hb).pq, fun c hc => ?_⟩
  · simp only [List.map_cons, List.mem_append, List.mem_cons] at hx ⊢
    rcases hx with e | e | e
    · exact .inr (.inl e)
    · exact .inl (.inl e)
    · exact .inr (.inr e)
  · rcases List.mem_cons.1 hc with e | e
    · subst e; exact h3
    · exact (h.step hb).cl c e
/-- A row that was just laid. -/
def lit (l : List Nat) : Obj := .cells (l.map fun x => Value.int .u8 ((x : Nat) : Int)).toArray 5
def ltp (g : Nat) (l : List Nat) : Pt8 := ⟨g, 0, l.length, l.length, some ⟨g, 0, none⟩, fun i => l.getD i 0⟩
theorem ltp_bs (g : Nat) (l : List Nat) : bs (ltp g l).n (ltp g l).f = l := by
  apply List.ext_getElem?
  intro i
  by_cases h : i < l.length
  · rw [bs_get _ (show i < (ltp g l).n from h)]
    show some (l.getD i 0) = _
    rw [List.getD_eq_getElem?_getD, List.getElem?_eq_getElem h]
    rfl
  · rw [List.getElem?_eq_none (by rw [bs_len]; show l.length ≤ i; omega), List.getElem?_eq_none (by omega)]
theorem ltp_pq (u : World) (l : List Nat) : Pq (ltp u.heap.size l) (u.alloc (lit l)) := by
  refine ⟨⟨Bv.start _ _ _ _, Nat.le_refl _⟩, (fun e => by cases e), fun _ => ?_, fun i hi => ?_⟩
  · show u.heap.size < (u.alloc _).heap.size
    simp
  · have hi : i < l.length := hi
    have h := World.alloc_heap_new u (lit l)
    show (u.alloc (lit l)).cell? ⟨u.heap.size, 0 + i, none⟩ = some (.int .u8 ((l.getD i 0 : Nat) : Int))
    unfold World.cell?
    dsimp only
    rw [h, Nat.zero_add]
    unfold lit
    simp [List.getD_eq_getElem?_getD, hi]
theorem De.lit (h : De w0 d A ps cs u) (l : List Nat) : De w0 d A (ltp u.heap.size l :: ps) cs (u.alloc (lit l)) := by
  have hb : Below u.heap.size u (u.alloc (Wi.lit l)) := (Below.refl _ u).alloc (Nat.le_refl _) _
  refine h.part (ltp_pq u l) hb (h.da.add hb fun x hx => ?_)
  unfold gbl at hx
  split at hx
  · cases hx
  · obtain rfl := List.mem_singleton.1 hx
    exact ⟨Nat.le_refl _, by show u.heap.size < (u.alloc _).heap.size; simp⟩
theorem De.drop {q : Pt8} (h : De w0 d A (q :: ps) cs u) : De w0 d A ps cs u :=
  ⟨h.da.sub fun x hx => by
    rw [List.flatMap_cons]
    simp only [List.mem_append] at hx ⊢
    exact hx.elim (fun e => .inl (.inr e)) .inr, fun x hx => h.pq x (List.mem_cons_of_mem _ hx), h.cl⟩
theorem app_e (h : De w0 d A ps cs u) (hk : A.k < 1000000000) (ho : ∀ f ∈ A.fs, f.ops.length < 1000000) (s : ByteArray) (hs : s.size ≤ 281474976710656) (q : Pt8) (hq : Pq q u) (hL : q ∈ ps ∨ ∀ x ∈ gbl q, x < w0.heap.size) (hn : q.n ≤ 281474976710656) (l : List Nat) (hl : bs q.n q.f = l) (r : Int) (A' : Ad) (hr : A.app s l = (r, A')) :
    Calls Try.prog 19 #[PT d 0, .string s, .slice q.p q.n q.cp] u fun e u' => e = .returned (.int .i64 r) ∧ De w0 d A' ps cs u' := by
  subst hl
  refine (app_a h.da hk ho s hs q hq (fun x hx => hL.elim (fun e => .inl (List.mem_append_left _ (List.mem_flatMap.2 ⟨q, e, hx⟩))) fun e => .inr (e x hx)) hn).mono fun e u' hh => ?_
  rw [hr] at hh
  exact ⟨hh.1, h.kx hh.2.1 hh.2.2⟩
theorem app_l (h : De w0 d A ps cs u) (hk : A.k < 1000000000) (ho : ∀ f ∈ A.fs, f.ops.length < 1000000) (s : ByteArray) (hs : s.size ≤ 281474976710656) (l : List Nat) (hn : l.length ≤ 281474976710656) (r : Int) (A' : Ad) (hr : A.app s l = (r, A')) :
    Calls Try.prog 19 #[PT d 0, .string s, .slice (some ⟨u.heap.size, 0, none⟩) l.length l.length] (u.alloc (Wi.lit l)) fun e u' => e = .returned (.int .i64 r) ∧ De w0 d A' ps cs u' :=
  (app_e (h.lit l) hk ho s hs (ltp u.heap.size l) (ltp_pq u l) (.inl (List.mem_cons_self ..)) hn l (ltp_bs _ _) r A' hr).mono fun _ _ hh => ⟨hh.1, hh.2.drop⟩
theorem syn_e (h : De w0 d A ps cs u) (hk : A.k < 1000000000) (s : ByteArray) (hs : s.size ≤ 281474976710656) (r : Int) (A' : Ad) (hr : A.syn s = (r, A')) :
    Calls Try.prog 21 #[PT d 0, .string s] u fun e u' => e = .returned (.int .i64 r) ∧ De w0 d A' ps cs u' := by
  refine (syn_a h.da hk s hs).mono fun e u' hh => ?_
  rw [hr] at hh
  exact ⟨hh.1, h.kx hh.2.1 hh.2.2⟩
theorem cut_e (h : De w0 d A ps cs u) (hk : A.k < 1000000000) (ho : ∀ f ∈ A.fs, f.ops.length < 1000000) (s : ByteArray) (hs : s.size ≤ 281474976710656) (c : Int) (r : Int) (A' : Ad) (hr : A.cut s c = (r, A')) :
    Calls Try.prog 20 #[PT d 0, .string s, .int .i64 c] u fun e u' => e = .returned (.int .i64 r) ∧ De w0 d A' ps cs u' := by
  refine (cut_a h.da hk ho s hs c).mono fun e u' hh => ?_
  rw [hr] at hh
  exact ⟨hh.1, h.kx hh.2.1 hh.2.2⟩
theorem crash_e (h : De w0 d A ps cs u) (a : Option Addr) (len cap : Nat) (zs : Nat → Kv) (hlen : len ≤ 1152921504606846976) (hK : Kps u.heap.size u (.slice a len cap) len zs) (A' : Ad) (hr : A.cra (kof (kup (kbk len zs) len)) = A') :
    Calls Try.prog 24 #[PT d 0, .slice a len cap] u fun e u' => e = .returned (.int .i64 0) ∧ De w0 d A' ps cs u' := by
  refine (crash_a h.da a len cap zs hlen hK).mono fun e u' hh => ?_
  rw [hr] at hh
  exact ⟨hh.1, h.kx hh.2.1 hh.2.2⟩
theorem read_e (h : De w0 d A ps cs u) (s : ByteArray) (hs : s.size ≤ 281474976710656) (f : Af) (hl : A.lk s = some f) :
    Calls Try.prog 18 #[PT d 0, .string s] u fun e u' => ∃ q : Pt8, e = .returned (.tuple #[.slice q.p q.n q.cp, .int .i64 0]) ∧ bs q.n q.f = f.cn ∧ De w0 d A (q :: ps) cs u' := by
  refine (read_a h.da s hs).mono fun e u' hh => ?_
  rw [hl] at hh
  obtain ⟨hb, q, e1, e2, e3, e4⟩ := hh
  exact ⟨q, e1, e3, h.part e2 hb e4⟩
theorem readn_e (h : De w0 d A ps cs u) (s : ByteArray) (hs : s.size ≤ 281474976710656) (hl : A.lk s = none) :
    Calls Try.prog 18 #[PT d 0, .string s] u fun e u' => e = .returned (.tuple #[.slice none 0 0, .int .i64 6]) ∧ De w0 d A ps cs u' := by
  refine (read_a h.da s hs).mono fun e u' hh => ?_
  rw [hl] at hh
  exact ⟨hh.2.1, h.step hh.1⟩
theorem pend_e (h : De w0 d A ps cs u) (s : ByteArray) (hs : s.size ≤ 281474976710656) (f : Af) (hl : A.lk s = some f) :
    Calls Try.prog 27 #[PT d 0, .string s] u fun e u' => e = .returned (.int .i64 (f.ops.length : Int)) ∧ De w0 d A ps cs u' := by
  refine (pend_a h.da s hs).mono fun e u' hh => ?_
  rw [hl] at hh
  exact ⟨hh.1, h.step hh.2⟩
theorem renb_e (h : De w0 d A ps cs u) (hk : A.k < 1000000000) (s t : ByteArray) (hs : s.size ≤ 281474976710656) (hn : nmd t = true) (hno : A.no = false) (f : Af) (hl : A.lk s = some f) (ho : f.ops ≠ []) :
    Calls Try.prog 22 #[PT d 0, .string s, .string t] u fun e u' => e = .returned (.int .i64 10) ∧ De w0 d A.tick ps cs u' :=
  (ren_busy_a h.da hk s t hs hn hno f hl ho).mono fun _ _ hh => ⟨hh.1, h.kx hh.2.1 hh.2.2⟩
theorem reno_e (h : De w0 d A ps cs u) (hk : A.k < 1000000000) (s t : ByteArray) (hs : s.size ≤ 281474976710656) (ht : t.size ≤ 281474976710656) (hn : nmd t = true) (hno : A.no = false) (f : Af) (hl : A.lk s = some f) (ho : f.ops = []) (A' : Ad) (hr : A.ren f s t = A') :
    Calls Try.prog 22 #[PT d 0, .string s, .string t] u fun e u' => e = .returned (.int .i64 0) ∧ De w0 d A' ps cs u' := by
  subst hr
  exact (ren_ok_a h.da hk s t hs ht hn hno f hl ho).mono fun e u' hh => ⟨hh.1, h.kx hh.2.1 hh.2.2⟩
theorem names_e (h : De w0 d A ps cs u) (s : ByteArray) (hA : A.fs.map Af.nm = [s]) :
    Calls Try.prog 26 #[PT d 0] u fun e u' => ∃ g o c, e = .returned (.slice (some ⟨g, o, none⟩) 1 c) ∧ De w0 d A ps ((g, o, .string s) :: cs) u' := by
  refine (names1_a h.da s hA).mono fun e u' hh => ?_
  obtain ⟨g, o, c, e1, hb, e2, e3, e4⟩ := hh
  exact ⟨g, o, c, e1, h.cell hb e2 e3 e4⟩
theorem same_lit {q : Pt8} (hq : Pq q u) (l : List Nat) (hl : bs q.n q.f = l) :
    Calls Try.prog 29 #[.slice q.p q.n q.cp, .slice (some ⟨u.heap.size, 0, none⟩) l.length l.length] (u.alloc (Wi.lit l)) fun e u' => e = .returned (.bool true) ∧ Below u.heap.size u u' := by
  have hb : Below u.heap.size u (u.alloc (Wi.lit l)) := (Below.refl _ u).alloc (Nat.le_refl _) _
  have hp := ltp_pq u l
  obtain ⟨e1, e2⟩ := bs_eq (hl.trans (ltp_bs u.heap.size l).symm)
  exact (same_q (q := q) (r := ltp u.heap.size l) ⟨hq.1, (hq.below hb).2.2⟩ ⟨hp.1, hp.2.2⟩ e1 (fun i hi => e2 i (by rw [e1]; exact hi))).mono fun _ _ hh => ⟨hh.1, hb.trans (hh.2.mono hb.size)⟩
end
end Wi
end Rg
end Go.Proofs.Ytidicdlfjdlpnaa
end
section
namespace Go.Proofs.Ytidicdlfjdlpnaa
open Go.RowKit
namespace Rg
namespace Wi
set_option maxRecDepth 100000
abbrev ka : ByteArray := ⟨#[97]⟩
abbrev kb : ByteArray := ⟨#[98]⟩
abbrev kc : ByteArray := ⟨#[99]⟩
abbrev kA : ByteArray := ⟨#[65]⟩
theorem ka_ok : nmd ka = true := by decide +kernel
theorem kb_ok : nmd kb = true := by decide +kernel
theorem kc_ok : nmd kc = true := by decide +kernel
theorem kA_no : nmd kA = false := by decide +kernel
theorem ka_sz : ka.size ≤ 281474976710656 := by decide
theorem kb_sz : kb.size ≤ 281474976710656 := by decide
theorem kc_sz : kc.size ≤ 281474976710656 := by decide
theorem kA_sz : kA.size ≤ 281474976710656 := by decide
def rf0 : Nat → Bool := fun _ => false
def rf2 : Nat → Bool := rff (fun _ => 2) 1
def a0 : Ad := ⟨0, [], rf0⟩
def a1 : Ad := ⟨1, [⟨ka, [], [(0, [1, 2])], true⟩], rf0⟩
def a2 : Ad := ⟨2, [⟨ka, [1, 2], [], false⟩], rf0⟩
def a3 : Ad := ⟨3, [⟨ka, [1, 2], [(2, [3])], false⟩], rf0⟩
def f4 : Af := ⟨ka, [1, 2], [(2, [3]), (3, [4, 5])], false⟩
def a4 : Ad := ⟨4, [f4], rf0⟩
def f5 : Af := ⟨ka, [1, 2, 3, 4], [], false⟩
def a5 : Ad := ⟨4, [f5], rf0⟩
def a6 : Ad := ⟨5, [f5, ⟨kb, [], [(0, [7])], true⟩], rf0⟩
def a7 : Ad := ⟨5, [f5], rf0⟩
def a8 : Ad := ⟨6, [f5], rf0⟩
def f9 : Af := ⟨ka, [1, 2, 3, 4], [(1, [])], false⟩
def a9 : Ad := ⟨7, [f9], rf0⟩
def aa : Ad := ⟨8, [f9], rf0⟩
def fb : Af := ⟨ka, [1], [], false⟩
def ab : Ad := ⟨9, [fb], rf0⟩
def fc : Af := ⟨kc, [1], [], false⟩
def ac : Ad := ⟨10, [fc], rf0⟩
def r0 : Ad := ⟨0, [], rf2⟩
def r1 : Ad := ⟨1, [⟨ka, [], [(0, [1])], true⟩], rf2⟩
def r2 : Ad := ⟨2, [⟨ka, [], [(0, [1])], true⟩], rf2⟩
def g3 : Af := ⟨ka, [], [(0, [1]), (1, [3])], true⟩
def r3 : Ad := ⟨3, [g3], rf2⟩
def r4 : Ad := ⟨4, [g3], rf2⟩
def r5 : Ad := ⟨5, [g3], rf2⟩
theorem t01 : a0.app ka [1, 2] = (0, a1) := by simp [Ad.app, Ad.no, a0, a1, rf0, ka_ok, Ad.lk]
theorem t12 : a1.syn ka = (0, a2) := by simp [Ad.syn, Ad.no, a1, a2, rf0, Ad.lk, Ad.swap, Ad.tick, Af.cn, ctn]
theorem t23 : a2.app ka [3] = (0, a3) := by simp [Ad.app, Ad.no, a2, a3, rf0, ka_ok, Ad.lk, Ad.swap, Ad.tick, Af.cn, ctn, Af.more]
theorem t34 : a3.app ka [4, 5] = (0, a4) := by simp [Ad.app, Ad.no, a3, a4, f4, rf0, ka_ok, Ad.lk, Ad.swap, Ad.tick, Af.cn, ctn, Af.more]
theorem l4 : a4.lk ka = some f4 := by simp [Ad.lk, a4, f4]
theorem c4 : f4.cn = [1, 2, 3, 4, 5] := rfl
def kv1 : Kv := ⟨(ka, 1, 1), by decide, by decide, by decide⟩
theorem t45 : a4.cra (kof (kup (kbk 1 fun _ => kv1) 1)) = a5 := by simp [Ad.cra, a4, a5, f4, f5, kof, kup, kbk, kv1, Af.there, Af.dn, Af.tl, Af.set, ctn]
theorem l5 : a5.lk ka = some f5 := by simp [Ad.lk, a5, f5]
theorem c5 : f5.cn = [1, 2, 3, 4] := rfl
theorem t56 : a5.app kb [7] = (0, a6) := by simp [Ad.app, Ad.no, a5, a6, f5, rf0, kb_ok, Ad.lk]
theorem t67 : a6.cra (kof (kup (kbk 0 fun _ => kv1) 0)) = a7 := by simp [Ad.cra, a6, a7, f5, kof, kup, kv0, Af.there, Af.dn, Af.tl, Af.set, ctn]
theorem n7 : a7.fs.map Af.nm = [ka] := rfl
theorem t78 : a7.cut ka 9 = (2, a8) := by simp [Ad.cut, Ad.no, a7, a8, f5, rf0, Ad.lk, Ad.tick, Af.cn, ctn]
theorem t89 : a8.cut ka 1 = (0, a9) := by simp [Ad.cut, Ad.no, a8, a9, f5, f9, rf0, Ad.lk, Ad.tick, Af.cn, ctn, Ad.swap, Af.more]
theorem l9 : a9.lk ka = some f9 := by simp [Ad.lk, a9, f9]
theorem tab : aa.syn ka = (0, ab) := by simp [Ad.syn, Ad.no, aa, ab, f9, fb, rf0, Ad.lk, Ad.swap, Ad.tick, Af.cn, ctn]
theorem lb : ab.lk ka = some fb := by simp [Ad.lk, ab, fb]
theorem tbc : ab.ren fb ka kc = ac := by simp [Ad.ren, ab, ac, fb, fc]
theorem lc : ac.lk kc = some fc := by simp [Ad.lk, ac, fc]
theorem cc3 : fc.cn = [1] := rfl
theorem lca : ac.lk ka = none := by simp [Ad.lk, ac, fc]
theorem s01 : r0.app ka [1] = (0, r1) := by simp [Ad.app, Ad.no, r0, r1, rf2, rff, ka_ok, Ad.lk]
theorem s12 : r1.app ka [2] = (13, r2) := by simp [Ad.app, Ad.no, r1, r2, rf2, rff, Ad.tick]
theorem s23 : r2.app ka [3] = (0, r3) := by simp [Ad.app, Ad.no, r2, r3, g3, rf2, rff, ka_ok, Ad.lk, Ad.swap, Ad.tick, Af.cn, ctn, Af.more]
theorem m3 : r3.lk ka = some g3 := by simp [Ad.lk, r3, g3]
theorem d3 : g3.cn = [1, 3] := rfl
theorem s34 : r3.app kA [] = (2, r4) := by simp [Ad.app, Ad.no, r3, r4, rf2, rff, kA_no, Ad.tick]
def zq (N g : Nat) : Pt8 := ⟨g, 0, N, N, some ⟨g, 0, none⟩, fun _ => 0⟩
theorem s45 (l : List Nat) (h : 1048576 < l.length) : r4.app kb l = (3, r5) := by
  simp [Ad.app, Ad.no, r4, r5, g3, rf2, rff, kb_ok, Ad.lk, Ad.tick, h]
theorem kps_lit (w : World) (x : Kv) (s : ByteArray) (a c : Int) (hx : x.1 = (s, a, c)) : Kps (w.alloc (.cells #[.string s, .int .i64 a, .int .i64 c] 57)).heap.size (w.alloc (.cells #[.string s, .int .i64 a, .int .i64 c] 57)) (.slice (some ⟨w.heap.size, 0, none⟩) 1 1) 1 (fun _ => x) := by
  refine .inr ⟨w.heap.size, 0, 1, rfl, by simp, fun j hj => ?_⟩
  obtain rfl : j = 0 := by omega
  rw [hx]
  have h := World.alloc_heap_new w (.cells #[.string s, .int .i64 a, .int .i64 c] 57)
  refine ⟨?_, ?_, ?_⟩ <;> (unfold World.cell?; dsimp only; rw [h]; rfl)
theorem texts_e {w0 u : World} {d : Nat} {A : Ad} {ps : List Pt8} {cs : List (Nat × Nat × Value)} {g o c : Nat} {s : ByteArray} (h : De w0 d A ps cs u) (hc : (g, o, Value.string s) ∈ cs) :
    Calls Try.prog 30 #[.slice (some ⟨g, o, none⟩) 1 c, .slice (some ⟨u.heap.size, 0, none⟩) 1 1] (u.alloc (.cells #[.string s] 9)) fun e u' => e = .returned (.bool true) ∧ De w0 d A ps cs u' := by
  have hb : Below u.heap.size u (u.alloc (.cells #[.string s] 9)) := (Below.refl _ u).alloc (Nat.le_refl _) _
  have h2 := h.step hb
  have hg : g < (u.alloc (.cells #[.string s] 9)).heap.size := by
    obtain ⟨D, _, _, _, h4⟩ := h2.da
    exact (h4 g (List.mem_append_right _ (List.mem_map.2 ⟨_, hc, rfl⟩))).1
  refine (same_texts1 g o c u.heap.size 0 1 s _ (h2.cl _ hc) hg (by simp) ?_).mono fun e u' hh => ⟨hh.1, h2.step hh.2⟩
  have h := World.alloc_heap_new u (.cells #[.string s] 9)
  unfold World.cell?
  dsimp only
  rw [h]
  rfl
theorem new_e {w u : World} {d mb rb m : Nat} {rf : Nat → Bool} (h : Nw w d mb rb rf m u) : De w d ⟨0, [], rf⟩ [] [] u := ⟨new_a h, (fun _ hx => by cases hx), (fun _ hx => by cases hx)⟩
theorem new2_e (u : World) : Calls Try.prog 14 #[.slice (some ⟨u.heap.size, 0, none⟩) 1 1] (u.alloc (.cells #[.int .i64 2] 3)) fun e u' => ∃ d, e = .returned (.tuple #[PT d 0, .int .i64 0]) ∧ De (u.alloc (.cells #[.int .i64 2] 3)) d r0 [] [] u' := by
  refine (New_any _ 1 1 u.heap.size 0 (fun _ => 2) (by decide) _ (fun _ => rfl) fun i hi => ⟨by simp, ?_, by decide⟩).mono fun e u' hh => ?_
  · obtain rfl : i = 0 := by omega
    have h := World.alloc_heap_new u (.cells #[.int .i64 2] 3)
    unfold World.cell?
    dsimp only
    rw [h]
    rfl
  · obtain ⟨d, mb, rb, e1, e2⟩ := hh
    exact ⟨d, e1, new_e e2⟩
theorem mk_big (u : World) : (Instr.makeSlice 34 (.int .i64 1048577) (.int .i64 1048577)).run Try.prog u = .ok (.slice (some ⟨u.heap.size, 0, none⟩) 1048577 1048577) (u.alloc (.cells (madeCells #[.int .u8 0] 1048577) 5)) :=
  run_make_row' (P := Try.prog) 34 5 (.int .u8 0) 1 Try.underlying34 (by kernel_rfl) rfl .i64 .i64 1048577 (by decide) (by decide) u
theorem app_z (N : Nat) (hN : 1048576 < N) (hN2 : N ≤ 281474976710656) {w0 u : World} {d : Nat} (h : De w0 d r4 [] [] u) : Calls Try.prog 19 #[PT d 0, .string kb, .slice (some ⟨u.heap.size, 0, none⟩) N N] (u.alloc (.cells (madeCells #[.int .u8 0] N) 5)) fun e u' => e = .returned (.int .i64 3) ∧ De w0 d r5 [] [] u' := by
  have hb : Below u.heap.size u (u.alloc (.cells (madeCells #[.int .u8 0] N) 5)) := (Below.refl _ u).alloc (Nat.le_refl _) _
  have hp : Pq (zq N u.heap.size) (u.alloc (.cells (madeCells #[.int .u8 0] N) 5)) := by
    refine ⟨⟨Bv.start _ _ _ _, Nat.le_refl _⟩, (fun e => by cases e), fun _ => by show u.heap.size < _; simp, fun i hi => ?_⟩
    have hi : i < N := hi
    have h := World.alloc_heap_new u (.cells (madeCells #[.int .u8 0] N) 5)
    show (u.alloc _).cell? ⟨u.heap.size, 0 + i, none⟩ = some (.int .u8 0)
    unfold World.cell?
    dsimp only
    rw [h, Nat.zero_add]
    show (madeCells #[Value.int .u8 0] N)[i]? = some _
    rw [← Array.getElem?_toList, toList_madeCells_one, List.getElem?_replicate, if_pos hi]
  have h2 : De w0 d r4 [zq N u.heap.size] [] (u.alloc (.cells (madeCells #[.int .u8 0] N) 5)) := h.part hp hb (h.da.add hb fun x hx => by
    unfold gbl at hx
    rw [if_neg (show ¬(zq N u.heap.size).n = 0 from by show ¬N = 0; omega)] at hx
    obtain rfl := List.mem_singleton.1 hx
    exact ⟨Nat.le_refl _, by show u.heap.size < _; simp⟩)
  exact (app_e h2 (by decide) (by decide) kb kb_sz (zq N u.heap.size) hp (.inl (List.mem_cons_self ..)) hN2 _ rfl 3 r5 (s45 _ (by rw [bs_len]; exact hN))).mono fun _ _ hh => ⟨hh.1, hh.2.drop⟩
theorem app_n {w0 u : World} {d : Nat} (h : De w0 d r3 [] [] u) : Calls Try.prog 19 #[PT d 0, .string kA, .slice none 0 0] u fun e u' => e = .returned (.int .i64 2) ∧ De w0 d r4 [] [] u' :=
  app_e h (by decide) (by decide) kA kA_sz ⟨0, 0, 0, 0, none, fun _ => 0⟩ ⟨⟨Bv.void _ _ _ _ _, Nat.le_refl _⟩, fun _ => rfl, Rs.void _ _ _ _⟩ (.inr fun x hx => by cases hx) (by decide) [] rfl 2 r4 s34
set_option maxHeartbeats 2000000 in
theorem known13 (w : World) : Calls Try.prog 5 #[] w fun e w' => e = .returned (.bool true) ∧ Below w.heap.size w w' := by
  go_enter Try.func5, Try.ntmps5
  go_wp2_with (first
    | (go_at_call 14; refine (new2_e w23).mono ?_; rintro e w24 ⟨r, rfl, k0⟩; have k0 : Hid _ := k0; have hbb : Hid (Below w.heap.size w (w23.alloc (.cells #[.int .i64 2] 3))) := (h22.out.step ((Below.refl _ w23).alloc (Nat.le_refl _) _)).b; clear h22)
    | (go_at_call 14; refine (New_nil w).mono ?_; rintro e w1 ⟨d, mb, rb, rfl, hN⟩; have h0 : Hid (De w d a0 [] [] w1) := new_e hN; clear hN)
    | (go_at_call 19; refine (app_l h0.out (by decide) (by decide) ka ka_sz [1, 2] (by decide) 0 a1 t01).mono ?_; rintro e w2 ⟨rfl, h1⟩; have h1 : Hid _ := h1; clear h0)
    | (go_at_call 21; refine (syn_e h1.out (by decide) ka ka_sz 0 a2 t12).mono ?_; rintro e w3 ⟨rfl, h2⟩; have h2 : Hid _ := h2; clear h1)
    | (go_at_call 19; refine (app_l h2.out (by decide) (by decide) ka ka_sz [3] (by decide) 0 a3 t23).mono ?_; rintro e w4 ⟨rfl, h3⟩; have h3 : Hid _ := h3; clear h2)
    | (go_at_call 19; refine (app_l h3.out (by decide) (by decide) ka ka_sz [4, 5] (by decide) 0 a4 t34).mono ?_; rintro e w5 ⟨rfl, h4⟩; have h4 : Hid _ := h4; clear h3)
    | (go_at_call 27; refine (pend_e h4.out ka ka_sz f4 l4).mono ?_; rintro e w6 ⟨rfl, h5⟩; have h5 : Hid _ := h5; clear h4)
    | (go_at_call 18; refine (read_e h5.out ka ka_sz f4 l4).mono ?_; rintro e w7 ⟨q1, rfl, hq1, h6⟩; have h6 : Hid _ := h6; have hq1 : Hid _ := hq1; clear h5)
    | (go_at_call 24; refine (crash_e (h6.out.step ((Below.refl _ w7).alloc (Nat.le_refl _) _)) _ 1 1 (fun _ => kv1) (by decide) (kps_lit w7 kv1 ka 1 1 rfl) a5 t45).mono ?_; rintro e w8 ⟨rfl, h7⟩; have h7 : Hid _ := h7; clear h6)
    | (go_at_call 18; refine (read_e h7.out ka ka_sz f5 l5).mono ?_; rintro e w9 ⟨q2, rfl, hq2, h8⟩; have h8 : Hid _ := h8; have hq2 : Hid _ := hq2; clear h7)
    | (go_at_call 19; refine (app_l h8.out (by decide) (by decide) kb kb_sz [7] (by decide) 0 a6 t56).mono ?_; rintro e w10 ⟨rfl, h9⟩; have h9 : Hid _ := h9; clear h8)
    | (go_at_call 24; refine (crash_e h9.out none 0 0 (fun _ => kv1) (by decide) (.inl ⟨rfl, rfl⟩) a7 t67).mono ?_; rintro e w11 ⟨rfl, h10⟩; have h10 : Hid _ := h10; clear h9)
    | (go_at_call 26; refine (names_e h10.out ka n7).mono ?_; rintro e w12 ⟨gn, on, cn, rfl, h11⟩; have h11 : Hid _ := h11; clear h10)
    | (go_at_call 20; refine (cut_e h11.out (by decide) (by decide) ka ka_sz 9 2 a8 t78).mono ?_; rintro e w13 ⟨rfl, h12⟩; have h12 : Hid _ := h12; clear h11)
    | (go_at_call 20; refine (cut_e h12.out (by decide) (by decide) ka ka_sz 1 0 a9 t89).mono ?_; rintro e w14 ⟨rfl, h13⟩; have h13 : Hid _ := h13; clear h12)
    | (go_at_call 22; refine (renb_e h13.out (by decide) ka kc ka_sz kc_ok rfl f9 l9 (by decide)).mono ?_; rintro e w15 ⟨rfl, h14⟩; have h14 : Hid (De w d aa [q2, q1] [(gn, on, .string ka)] w15) := h14; clear h13)
    | (go_at_call 21; refine (syn_e h14.out (by decide) ka ka_sz 0 ab tab).mono ?_; rintro e w16 ⟨rfl, h15⟩; have h15 : Hid _ := h15; clear h14)
    | (go_at_call 22; refine (reno_e h15.out (by decide) ka kc ka_sz kc_sz kc_ok rfl fb lb rfl ac tbc).mono ?_; rintro e w17 ⟨rfl, h16⟩; have h16 : Hid _ := h16; clear h15)
    | (go_at_call 18; refine (read_e h16.out kc kc_sz fc lc).mono ?_; rintro e w18 ⟨q3, rfl, hq3, h17⟩; have h17 : Hid _ := h17; have hq3 : Hid _ := hq3; clear h16)
    | (go_at_call 18; refine (readn_e h17.out ka ka_sz lca).mono ?_; rintro e w19 ⟨rfl, h18⟩; have h18 : Hid _ := h18; clear h17)
    | (go_at_call 29; refine (same_lit (h18.out.pq q1 (by simp)) [1, 2, 3, 4, 5] (hq1.out.trans c4)).mono ?_; rintro e w20 ⟨rfl, hb⟩; have h19 : Hid _ := h18.out.step hb; clear h18 hb)
    | (go_at_call 29; refine (same_lit (h19.out.pq q2 (by simp)) [1, 2, 3, 4] (hq2.out.trans c5)).mono ?_; rintro e w21 ⟨rfl, hb⟩; have h20 : Hid _ := h19.out.step hb; clear h19 hb)
    | (go_at_call 30; refine (texts_e (u := w21) (g := gn) (o := on) (c := cn) (s := ka) h20.out (show (gn, on, Value.string ka) ∈ [(gn, on, Value.string ka)] from List.mem_cons_self ..)).mono ?_; rintro e w22 ⟨rfl, h21⟩; have h21 : Hid _ := h21; clear h20)
    | (go_at_call 29; refine (same_lit (h21.out.pq q3 (by simp)) [1] (hq3.out.trans cc3)).mono ?_; rintro e w23 ⟨rfl, hb⟩; have h22 : Hid _ := h21.out.step hb; clear h21 hb)
    | (go_at_call 19; refine (app_l k0.out (by decide) (by decide) ka ka_sz [1] (by decide) 0 r1 s01).mono ?_; rintro e w25 ⟨rfl, k1⟩; have k1 : Hid _ := k1; clear k0)
    | (go_at_call 19; refine (app_l k1.out (by decide) (by decide) ka ka_sz [2] (by decide) 13 r2 s12).mono ?_; rintro e w26 ⟨rfl, k2⟩; have k2 : Hid _ := k2; clear k1)
    | (go_at_call 19; refine (app_l k2.out (by decide) (by decide) ka ka_sz [3] (by decide) 0 r3 s23).mono ?_; rintro e w27 ⟨rfl, k3⟩; have k3 : Hid _ := k3; clear k2)
    | (go_at_call 18; refine (read_e k3.out ka ka_sz g3 m3).mono ?_; rintro e w28 ⟨q4, rfl, hq4, k4⟩; have k4 : Hid _ := k4; have hq4 : Hid _ := hq4; clear k3)
    | (go_at_call 29; refine (same_lit (k4.out.pq q4 (by simp)) [1, 3] (hq4.out.trans d3)).mono ?_; rintro e w29 ⟨rfl, hb⟩; have k5 : Hid _ := (k4.out.step hb).drop; clear k4 hb)
    | (go_at_call 19; refine (app_n k5.out).mono ?_; rintro e w30 ⟨rfl, k6⟩; have k6 : Hid _ := k6; clear k5)
    | fail)
  rw [mk_big, Result.andThen_ok]
  go_wp2_with (first
    | (go_at_call 19; refine (app_z 1048577 (by decide) (by decide) k6.out).mono ?_; rintro e w31 ⟨rfl, k7⟩; have k7 : Hid _ := k7; clear k6)
    | fail)
  go_ret
  exact ⟨rfl, below_on _ _ hbb.out k7.out.b⟩
end Wi
end Rg
end Go.Proofs.Ytidicdlfjdlpnaa
end
section
namespace Go.Proofs.Ytidicdlfjdlpnaa
open Go.RowKit
namespace Rg
namespace Wi
set_option maxRecDepth 100000
abbrev kl : ByteArray := ⟨#[108, 111, 103]⟩
theorem kl_ok : nmd kl = true := by decide +kernel
theorem kl_sz : kl.size ≤ 281474976710656 := by decide
def pb (P : Nat → Pt8) (j : Nat) : List Nat := bs (P j).n (P j).f
/-- The first i pieces, one behind the other. -/
def cc (P : Nat → Pt8) : Nat → List Nat
  | 0 => []
  | i + 1 => cc P i ++ pb P i
/-- The operations that append n pieces from s on. -/
def opr (P : Nat → Pt8) (s : Nat) : Nat → List (Nat × List Nat)
  | 0 => []
  | n + 1 => opr P s n ++ [((cc P (s + n)).length, pb P (s + n))]
section
variable (P : Nat → Pt8)
theorem opr_len (s : Nat) : ∀ n, (opr P s n).length = n
  | 0 => rfl
  | n + 1 => by simp [opr, opr_len s n]
theorem ctn_one (c : List Nat) (l : List (Nat × List Nat)) (o : Nat × List Nat) : ctn c (l ++ [o]) = (ctn c l).take o.1 ++ o.2 := by simp [ctn]
theorem ctn_opr (s : Nat) : ∀ n, ctn (cc P s) (opr P s n) = cc P (s + n)
  | 0 => rfl
  | n + 1 => by
    show ctn _ (opr P s n ++ [_]) = cc P (s + n) ++ pb P (s + n)
    rw [ctn_one, ctn_opr s n]
    simp
theorem opr_take (s : Nat) : ∀ n k, k ≤ n → (opr P s n).take k = opr P s k
  | 0, k, h => by obtain rfl : k = 0 := by omega
                  rfl
  | n + 1, k, h => by
    by_cases e : k = n + 1
    · subst e
      rw [List.take_of_length_le (by rw [opr_len]; exact Nat.le_refl _)]
    · show (opr P s n ++ [_]).take k = _
      rw [List.take_append_of_le_length (by rw [opr_len]; omega)]
      exact opr_take s n k (by omega)
theorem opr_at (s : Nat) : ∀ n k, k < n → (opr P s n)[k]? = some ((cc P (s + k)).length, pb P (s + k))
  | 0, k, h => by omega
  | n + 1, k, h => by
    show (opr P s n ++ [_])[k]? = _
    by_cases e : k = n
    · subst e
      rw [List.getElem?_append_right (by rw [opr_len]; exact Nat.le_refl _), opr_len]
      simp
    · rw [List.getElem?_append_left (by rw [opr_len]; omega)]
      exact opr_at s n k (by omega)
theorem cc_pre {i j : Nat} (h : i ≤ j) : cc P i <+: cc P j := by
  induction j with
  | zero => obtain rfl : i = 0 := by omega
            exact List.prefix_rfl
  | succ j ih =>
    by_cases e : i = j + 1
    · subst e; exact List.prefix_rfl
    · exact (ih (by omega)).trans (List.prefix_append _ _)
theorem cc_len {c m : Nat} (h : ∀ j, j < m → (P j).n ≤ c) : (cc P m).length ≤ m * c := by
  induction m with
  | zero => exact Nat.zero_le _
  | succ m ih =>
    have e1 := ih fun j hj => h j (by omega)
    have e2 := h m (by omega)
    show (cc P m ++ pb P m).length ≤ _
    rw [List.length_append, show (pb P m).length = (P m).n from bs_len _ _, Nat.succ_mul]
    omega
def kf (s n : Nat) : Af := ⟨kl, cc P s, opr P s n, decide (s = 0)⟩
def rfn : Nat → Bool := fun _ => false
/-- The disk once i pieces are appended, of which s are synced. -/
def Ak (k s i : Nat) : Ad := ⟨k, if i = 0 then [] else [kf P s (i - s)], rfn⟩
theorem Ak_ops (k s i : Nat) (h : i ≤ 100) : ∀ f ∈ (Ak P k s i).fs, f.ops.length < 1000000 := fun f hf => by
  unfold Ak at hf
  dsimp only at hf
  split at hf
  · cases hf
  · obtain rfl := List.mem_singleton.1 hf
    show (opr P s (i - s)).length < _
    rw [opr_len]
    omega
theorem Ak_app {k s i : Nat} (hs : s ≤ i) (h0 : i = 0 → s = 0) (hl : (cc P i).length + (P i).n ≤ 1048576) : (Ak P k s i).app kl (pb P i) = (0, Ak P (k + 1) s (i + 1)) := by
  have hb : (pb P i).length = (P i).n := bs_len _ _
  by_cases e : i = 0
  · subst e
    obtain rfl := h0 rfl
    have hl2 : ¬1048576 < (pb P 0).length := by omega
    simp [Ak, Ad.app, Ad.no, rfn, kl_ok, Ad.lk, hl2, kf, opr, cc]
  · have e1 : (kf P s (i - s)).cn = cc P i := by
      show ctn _ _ = _
      rw [kf, ctn_opr]
      congr 1
      omega
    have e2 : Ak P k s i = ⟨k, [kf P s (i - s)], rfn⟩ := by unfold Ak; rw [if_neg e]
    have e3 : (kf P s (i - s)).more (cc P i).length (pb P i) = kf P s (i + 1 - s) := by
      rw [show i + 1 - s = (i - s) + 1 by omega]
      unfold kf Af.more
      show Af.mk _ _ _ _ = Af.mk kl _ (opr P s (i - s) ++ [((cc P (s + (i - s))).length, pb P (s + (i - s)))]) _
      rw [show s + (i - s) = i by omega]
    have hl2 : ¬1048576 < (cc P i).length + (pb P i).length := by omega
    rw [e2]
    have e4 : Ad.lk ⟨k, [kf P s (i - s)], rfn⟩ kl = some (kf P s (i - s)) := by simp [Ad.lk, kf]
    unfold Ad.app
    rw [e4]
    simp only [Ad.no, rfn, kl_ok, e1, hl2, e3]
    simp [Ak, Ad.swap, Ad.tick, kf]
theorem Ak_syn {k y : Nat} (hy : 0 < y) : (Ak P k 0 y).syn kl = (0, Ak P (k + 1) y y) := by
  have e1 : (kf P 0 y).cn = cc P y := by
    show ctn (cc P 0) (opr P 0 y) = _
    rw [ctn_opr]
    congr 1
    omega
  have e2 : Ak P k 0 y = ⟨k, [kf P 0 y], rfn⟩ := by unfold Ak; rw [if_neg (by omega)]; rfl
  have e4 : Ad.lk ⟨k, [kf P 0 y], rfn⟩ kl = some (kf P 0 y) := by simp [Ad.lk, kf]
  rw [e2]
  unfold Ad.syn
  rw [e4]
  simp only [Ad.no, rfn, e1]
  have : ¬y = 0 := by omega
  simp [Ak, Ad.swap, Ad.tick, kf, opr, this]
/-- What a crash leaves of it. -/
theorem Ak_cra {k s m : Nat} (hs : s ≤ m) (h0 : m = 0 → s = 0) (K : ByteArray → Kv) : ((Ak P k s m).cra K = ⟨k, [], rfn⟩ ∧ s = 0) ∨ ∃ c, (Ak P k s m).cra K = ⟨k, [⟨kl, c, [], false⟩], rfn⟩ ∧ cc P s <+: c ∧ c <+: cc P m := by
  by_cases e : m = 0
  · subst e
    exact .inl ⟨by simp [Ak, Ad.cra], h0 rfl⟩
  · have e2 : Ak P k s m = ⟨k, [kf P s (m - s)], rfn⟩ := by unfold Ak; rw [if_neg e]
    rw [e2]
    generalize ha : (K kl).1.2.1 = a
    generalize hb : (K kl).1.2.2 = b
    have hn : (kf P s (m - s)).nm = kl := rfl
    unfold Ad.cra
    simp only [List.filter_cons, List.filter_nil, hn, ha, hb]
    cases ht : (kf P s (m - s)).there a b with
    | false =>
      refine .inl ⟨rfl, ?_⟩
      unfold Af.there at ht
      have : (kf P s (m - s)).fr = true := by
        cases hf : (kf P s (m - s)).fr with
        | true => rfl
        | false => rw [hf] at ht; simp at ht
      exact of_decide_eq_true this
    | true =>
      refine .inr ⟨((kf P s (m - s)).set a b).sf, by rw [← ha, ← hb]; rfl, ?_⟩
      have hd : (kf P s (m - s)).dn a ≤ m - s := by
        unfold Af.dn
        rw [show (kf P s (m - s)).ops.length = m - s from opr_len P s _]
        exact Nat.min_le_right _ _
      show cc P s <+: ctn (cc P s) ((opr P s (m - s)).take ((kf P s (m - s)).dn a)) ++ (kf P s (m - s)).tl a b ∧ ctn (cc P s) ((opr P s (m - s)).take ((kf P s (m - s)).dn a)) ++ (kf P s (m - s)).tl a b <+: _
      generalize hdd : (kf P s (m - s)).dn a = dd at hd
      rw [opr_take P s _ _ hd, ctn_opr]
      refine ⟨(cc_pre P (by omega)).trans (List.prefix_append _ _), ?_⟩
      unfold Af.tl
      rw [hdd]
      by_cases hlt : dd < m - s
      · rw [show (kf P s (m - s)).ops[dd]? = _ from opr_at P s _ _ hlt]
        refine List.IsPrefix.trans ?_ (cc_pre P (show s + dd + 1 ≤ m by omega))
        show cc P (s + dd) ++ (pb P (s + dd)).take _ <+: cc P (s + dd) ++ pb P (s + dd)
        exact (List.prefix_append_right_inj _).2 (List.take_prefix _ _)
      · rw [List.getElem?_eq_none (by show (opr P s (m - s)).length ≤ _; rw [opr_len]; omega)]
        show cc P (s + dd) ++ [] <+: _
        rw [List.append_nil]
        exact cc_pre P (by omega)
theorem fin_cra (k : Nat) (c : List Nat) (K : ByteArray → Kv) : (Ad.cra ⟨k, [⟨kl, c, [], false⟩], rfn⟩ K) = ⟨k, [⟨kl, c, [], false⟩], rfn⟩ := by
  simp [Ad.cra, Af.there, Af.set, Af.dn, Af.tl, ctn]
theorem fin_lk (k : Nat) (c : List Nat) : Ad.lk ⟨k, [⟨kl, c, [], false⟩], rfn⟩ kl = some ⟨kl, c, [], false⟩ := by simp [Ad.lk]
end
/-- A disk, and two rows of one's own beside it. -/
structure Kt (w0 : World) (d : Nat) (A : Ad) (va vs : Value) (la ls : List Nat) (u : World) : Prop where
  da : Da w0 d A (vbl va ++ vbl vs) u
  oa : ∃ n F, bs n F = la ∧ u.ownsRow w0.heap.size 5 1 va n (ints .u8 F n)
  os : ∃ n F, bs n F = ls ∧ u.ownsRow w0.heap.size 5 1 vs n (ints .u8 F n)
  ap : ∀ x ∈ vbl va, x ∉ vbl vs
section
variable {w0 u u' : World} {d : Nat} {A A' : Ad} {va vs : Value} {la ls : List Nat}
theorem Kt.kx (h : Kt w0 d A va vs la ls u) (ha : Da w0 d A' (vbl va ++ vbl vs) u') (hk : Kx (vbl va ++ vbl vs) u u') : Kt w0 d A' va vs la ls u' := by
  obtain ⟨n, F, e1, e2⟩ := h.oa
  obtain ⟨m, G, e3, e4⟩ := h.os
  exact ⟨ha, ⟨n, F, e1, own_keep e2 fun x hx => hk.2 x (List.mem_append_left _ hx)⟩, ⟨m, G, e3, own_keep e4 fun x hx => hk.2 x (List.mem_append_right _ hx)⟩, h.ap⟩
theorem Kt.step (h : Kt w0 d A va vs la ls u) (hb : Below u.heap.size u u') : Kt w0 d A va vs la ls u' := h.kx (h.da.step hb) (h.da.kx hb)
theorem Da.chg {L M : List Nat} (h : Da w0 d A L u) (hc : Chg M u u') (hM : ∀ x ∈ M, x ∈ L) (hlo : ∀ x ∈ M, w0.heap.size ≤ x) : Da w0 d A L u' := by
  obtain ⟨D, h1, h2, h3, h4⟩ := h
  exact ⟨D, ⟨h1.b.trans (hc.toBelow hlo h1.b.size), h1.dk.chg hc fun x hx => (h4 x (hM x hx)).2, h1.lo⟩, h2, h3, fun x hx => ⟨Nat.lt_of_lt_of_le (h4 x hx).1 hc.size, (h4 x hx).2⟩⟩
/-- A block that is new is none of the disk's. -/
theorem Da.fresh {L : List Nat} (h : Da w0 d A L u) (hc : Chg L u u') (hlo : ∀ x ∈ L, w0.heap.size ≤ x) (M : List Nat) (hM : ∀ x ∈ M, x ∈ L ∨ (u.heap.size ≤ x ∧ x < u'.heap.size)) : Da w0 d A M u' := by
  have h' := h.chg hc (fun _ hx => hx) hlo
  obtain ⟨D, h1, h2, h3, h4⟩ := h
  refine ⟨D, ⟨h1.b.trans (hc.toBelow hlo h1.b.size), h1.dk.chg hc fun x hx => (h4 x hx).2, h1.lo⟩, h2, h3, fun x hx => ?_⟩
  rcases hM x hx with e | ⟨e1, e2⟩
  · exact ⟨Nat.lt_of_lt_of_le (h4 x e).1 hc.size, (h4 x e).2⟩
  · exact ⟨e2, fun hm => absurd (h1.dk.blt x hm) (Nat.not_lt.2 e1)⟩
theorem own_lo {w : World} {B e size n : Nat} {v : Value} {xs : List Value} (h : w.ownsRow B e size v n xs) : ∀ x ∈ vbl v, B ≤ x := fun x hx => by
  unfold vbl at hx
  cases hv : v.ownBlock with
  | none => rw [hv] at hx; cases hx
  | some k =>
    rw [hv] at hx
    obtain rfl := List.mem_singleton.1 hx
    exact (World.ownsRow.lt h _ hv).1
theorem bs_join {n m : Nat} {F G : Nat → Nat} : bs (n + m) (ct F n G) = bs n F ++ bs m G := by
  rw [bs_ct (Nat.le_refl n), List.take_of_length_le (by rw [bs_len]; exact Nat.le_refl _)]
theorem Kt.more (h : Kt w0 d A va vs la ls u) {q : Pt8} (hq : Pq q u) (hb : la.length + q.n ≤ 2097152) (ty : TypeId) : ∃ v' u', (Builtin.append_ #[34, 34] ty #[va, .slice q.p q.n q.cp]).run Try.prog u = .ok v' u' ∧ Kt w0 d A v' vs (la ++ bs q.n q.f) ls u' := by
  obtain ⟨n, F, e1, e2⟩ := h.oa
  obtain ⟨m, G, e3, e4⟩ := h.os
  have hn : n = la.length := by rw [← e1, bs_len]
  obtain ⟨v', u', hr, hO, hG, h5⟩ := own_appQ e2 h.da.b.size hq.1 hq.2.1 hq.2.2 (by omega) ty
  have hc : Chg (vbl va) u u' := Chg.grown hG
  have hlo := own_lo e2
  have h5' : ∀ x ∈ vbl v', x ∈ vbl va ∨ (u.heap.size ≤ x ∧ x < u'.heap.size) := fun x hx => by
    have hlt := own_lt hO x hx
    unfold vbl at hx ⊢
    rcases h5 with e | e
    · rw [e] at hx; exact .inl hx
    · rw [e] at hx
      obtain rfl := List.mem_singleton.1 hx
      exact .inr ⟨Nat.le_refl _, hlt⟩
  refine ⟨v', u', hr, ?_, ⟨n + q.n, _, ?_, hO⟩, ⟨m, G, e3, own_keep e4 fun x hx => hc.block x (own_lt e4 x hx) fun hm => h.ap x hm hx⟩, fun x hx hm => ?_⟩
  · refine h.da.fresh (hc.mono fun x hx => .inl (List.mem_append_left _ hx)) (fun x hx => (List.mem_append.1 hx).elim (hlo x) (own_lo e4 x)) _ fun x hx => ?_
    rcases List.mem_append.1 hx with e | e
    · exact (h5' x e).elim (fun hy => .inl (List.mem_append_left _ hy)) .inr
    · exact .inl (List.mem_append_right _ e)
  · rw [bs_join, e1]
  · rcases h5' x hx with e | ⟨e, _⟩
    · exact h.ap x e hm
    · exact absurd (own_lt e4 x hm) (Nat.not_lt.2 e)
/-- The one row is copied into a new one. -/
theorem Kt.copy (h : Kt w0 d A va vs la ls u) (hb : la.length ≤ 2097152) (ty : TypeId) : ∃ v' u', (Builtin.append_ #[34, 34] ty #[.slice (some ⟨u.heap.size, 0, none⟩) 0 0, va]).run Try.prog (u.alloc (.cells #[] 5)) = .ok v' u' ∧ Kt w0 d A va v' la la u' := by
  have hbb : Below u.heap.size u (u.alloc (.cells #[] 5)) := (Below.refl _ u).alloc (Nat.le_refl _) _
  have h1 := h.step hbb
  obtain ⟨n, F, e1, e2⟩ := h1.oa
  have hn : n = la.length := by rw [← e1, bs_len]
  obtain ⟨q, rfl, q1, q2, q3, q4, q5, q6⟩ := own_part e2
  have e0 : (u.alloc (.cells #[] 5)).ownsRow w0.heap.size 5 1 (.slice (some ⟨u.heap.size, 0, none⟩) 0 0) 0 (ints .u8 (fun _ => 0) 0) :=
    ⟨rfl, .inr ⟨u.heap.size, 0, #[], rfl, h.da.b.size, World.alloc_heap_new u _, Nat.le_refl _, by decide, rfl, rfl⟩⟩
  obtain ⟨v', u', hr, hO, hG, h5⟩ := own_appQ e0 h1.da.b.size q1 q2 q5 (by omega) ty
  have hc : Chg [u.heap.size] (u.alloc (.cells #[] 5)) u' := Chg.grown hG
  have hnew : ∀ x ∈ vbl v', u.heap.size ≤ x ∧ x < u'.heap.size := fun x hx => by
    have hlt := own_lt hO x hx
    unfold vbl at hx
    rcases h5 with e | e
    · rw [e] at hx
      obtain rfl := List.mem_singleton.1 hx
      exact ⟨Nat.le_refl _, hlt⟩
    · rw [e] at hx
      obtain rfl := List.mem_singleton.1 hx
      exact ⟨by simp, hlt⟩
  obtain ⟨na, Fa, ea1, ea2⟩ := h.oa
  have hlt := own_lt ea2
  have hcu : Below u.heap.size u u' := hbb.trans (hc.toBelow (fun x hx => by obtain rfl := List.mem_singleton.1 hx; exact Nat.le_refl _) hbb.size)
  have h2 := h.step hcu
  obtain ⟨nb, Fb, eb1, eb2⟩ := h2.oa
  refine ⟨v', u', hr, ?_, ⟨nb, Fb, eb1, eb2⟩, ⟨_, _, ?_, hO⟩, fun x hx hm => ?_⟩
  · have := (h.da.sub (M := vbl (.slice q.p q.n q.cp)) fun x hx => List.mem_append_left _ hx).add hcu hnew
    refine this.sub fun x hx => ?_
    rcases List.mem_append.1 hx with e | e
    · exact List.mem_append_right _ e
    · exact List.mem_append_left _ e
  · rw [bs_join, q3, q4, e1]
    rfl
  · exact absurd (hlt x hx) (Nat.not_lt.2 (hnew x hm).1)
theorem Kt.de (h : Kt w0 d A va vs la ls u) : ∃ qa qs : Pt8, va = .slice qa.p qa.n qa.cp ∧ vs = .slice qs.p qs.n qs.cp ∧ bs qa.n qa.f = la ∧ bs qs.n qs.f = ls ∧ De w0 d A [qa, qs] [] u := by
  obtain ⟨n, F, e1, e2⟩ := h.oa
  obtain ⟨m, G, e3, e4⟩ := h.os
  obtain ⟨qa, a0, a1, a2, a3, a4, a5, a6⟩ := own_part e2
  obtain ⟨qs, s0, s1, s2, s3, s4, s5, s6⟩ := own_part e4
  have hg : ∀ {q : Pt8} {v : Value}, (0 < q.n → v.ownBlock = some q.gb) → ∀ x ∈ gbl q, x ∈ vbl v := fun hq x hx => by
    unfold gbl at hx
    split at hx
    · cases hx
    · obtain rfl := List.mem_singleton.1 hx
      unfold vbl
      rw [hq (by omega)]
      exact List.mem_singleton.2 rfl
  refine ⟨qa, qs, a0, s0, by rw [a3, a4, e1], by rw [s3, s4, e3], h.da.sub fun x hx => ?_, fun q hq => ?_, fun _ hc => by cases hc⟩
  · simp only [List.flatMap_cons, List.flatMap_nil, List.append_nil, List.map_nil, List.mem_append] at hx
    rcases hx with e | e
    · exact List.mem_append_left _ (hg a6 x e)
    · exact List.mem_append_right _ (hg s6 x e)
  · rcases List.mem_cons.1 hq with e | e
    · subst e; exact ⟨a1, a2, a5⟩
    · obtain rfl := List.mem_singleton.1 e
      exact ⟨s1, s2, s5⟩
theorem Kt.start (h : Da w0 d A [] u) : Kt w0 d A (.slice none 0 0) (.slice none 0 0) [] [] u :=
  ⟨h, ⟨0, fun _ => 0, rfl, World.ownsRow_nil _ _ _ _⟩, ⟨0, fun _ => 0, rfl, World.ownsRow_nil _ _ _ _⟩, fun _ hx => by cases hx⟩
theorem kt_app (h : Kt w0 d A va vs la ls u) (hk : A.k < 1000000000) (ho : ∀ f ∈ A.fs, f.ops.length < 1000000) (s : ByteArray) (hs : s.size ≤ 281474976710656) (q : Pt8) (hq : Pq q u) (hL : ∀ x ∈ gbl q, x < w0.heap.size) (hn : q.n ≤ 281474976710656) (r : Int) (hr : A.app s (bs q.n q.f) = (r, A')) :
    Calls Try.prog 19 #[PT d 0, .string s, .slice q.p q.n q.cp] u fun e u' => e = .returned (.int .i64 r) ∧ Kt w0 d A' va vs la ls u' := by
  refine (app_a h.da hk ho s hs q hq (fun x hx => .inr (hL x hx)) hn).mono fun e u' hh => ?_
  rw [hr] at hh
  exact ⟨hh.1, h.kx hh.2.1 hh.2.2⟩
theorem kt_syn (h : Kt w0 d A va vs la ls u) (hk : A.k < 1000000000) (s : ByteArray) (hs : s.size ≤ 281474976710656) (r : Int) (hr : A.syn s = (r, A')) :
    Calls Try.prog 21 #[PT d 0, .string s] u fun e u' => e = .returned (.int .i64 r) ∧ Kt w0 d A' va vs la ls u' := by
  refine (syn_a h.da hk s hs).mono fun e u' hh => ?_
  rw [hr] at hh
  exact ⟨hh.1, h.kx hh.2.1 hh.2.2⟩
end
end Wi
end Rg
end Go.Proofs.Ytidicdlfjdlpnaa
end
section
namespace Go.Proofs.Ytidicdlfjdlpnaa
open Go.RowKit
namespace Rg
namespace Wi
set_option maxRecDepth 100000
/-- How many pieces are synced once i are appended. -/
def syk (y i : Nat) : Nat := if y ≤ i then y else 0
theorem syk_le (y i : Nat) : syk y i ≤ i := by unfold syk; split <;> omega
theorem syk_no {y i : Nat} (h : ¬i + 1 = y) : syk y (i + 1) = syk y i := by unfold syk; split <;> split <;> omega
theorem pick_k (a : Int) (n : Nat) (hn : 0 < n) (hn2 : n < 4611686018427387904) (w : World) : Calls Try.prog 31 #[.int .i64 a, .int .i64 (n : Int)] w fun e w' => ∃ y : Nat, e = .returned (.int .i64 (y : Int)) ∧ y < n ∧ Below w.heap.size w w' := by
  have h1 := Int.tmod_lt_of_pos a (show (0 : Int) < n by omega)
  have h2 := Int.lt_tmod_of_pos a (show (0 : Int) < n by omega)
  have h3 : ¬(n : Int) < 1 := by omega
  have h4 : ¬(n : Int) = 0 := by omega
  go_enter Try.func31, Try.ntmps31
  by_cases h : a.tmod n < 0
  · go_wp2
    go_ret
    exact ⟨(a.tmod n + n).toNat, by rw [Int.toNat_of_nonneg (by omega)]; rfl, by omega, Below.refl _ _⟩
  · go_wp2
    go_ret
    exact ⟨(a.tmod n).toNat, by rw [Int.toNat_of_nonneg (by omega)]; rfl, by omega, Below.refl _ _⟩
theorem wpl_app {P : Program} {w u : World} {ops : Array Oper} {rest : List Oper} {o : Oper} {a : Act} {Q : Exit → Act → World → Prop} (hgd : o.guard = none) (s x : Operand) (t : TypeId)
    (ho : o.op = .call { callee := .builtin .append, args := #[s, x], argTypes := #[t, t] }) (v y v' : Value) (hs : a.eval s = v) (hx : a.eval x = y)
    (hr : (Builtin.append_ #[t, t] o.type #[v, y]).run P w = .ok v' u) (h : wpList P ops Q rest (a.put o.dst v') u) : wpList P ops Q (o :: rest) a w :=
  wpList_plain hgd fun _ hK => by
    unfold Oper.wp execOp
    simp only [ho, resolve, invoke, builtin, Sem.run_bind, Sem.run_pure, Result.andThen_ok, List.map_toArray, List.map_cons, List.map_nil, hs, hx, hr]
    exact hK _ _ h
theorem keep_bounds {q qa qs : Pt8} {c a s : List Nat} (h1 : qa.n = a.length) (h2 : qs.n = s.length) (h3 : bs q.n q.f = c) (h4 : s.length ≤ c.length) (h5 : c.length ≤ a.length) (h6 : q.n ≤ q.cp) (h7 : qa.n ≤ qa.cp) : ¬(q.n : Int) < qs.n ∧ ¬(qa.n : Int) < q.n ∧ qs.n ≤ q.cp ∧ q.n ≤ qa.cp ∧ qs.n ≤ q.n ∧ q.n ≤ qa.n := by
  have h8 : q.n = c.length := by rw [← h3, bs_len]
  omega
theorem pre_at {n m : Nat} {f g : Nat → Nat} (h : bs n f <+: bs m g) : ∀ i, i < n → f i = g i := fun i hi => by
  have h1 := h.length_le
  rw [bs_len, bs_len] at h1
  obtain ⟨t, ht⟩ := h
  have := congrArg (fun l => l[i]?) ht
  simp only [List.getElem?_append_left (show i < (bs n f).length by rw [bs_len]; exact hi), bs_get f hi, bs_get g (show i < m by omega)] at this
  exact Option.some.inj this
theorem keep_same {q qa qs : Pt8} {c a s : List Nat} (h1 : bs q.n q.f = c) (h2 : bs qa.n qa.f = a) (h3 : bs qs.n qs.f = s) (h4 : s <+: c) (h5 : c <+: a) : (∀ z, z < qs.n → q.f z = qs.f z) ∧ ∀ z, z < q.n → q.f z = qa.f z := by
  subst h1 h2 h3
  exact ⟨fun z hz => (pre_at h4 z hz).symm, pre_at h5⟩
set_option maxHeartbeats 2000000 in
theorem keeps_main (m : Nat) (pl1 : Option Addr) (c1 g1 o1 : Nat) (P1 : Nat → Pt8) (hm40 : m ≤ 40) (sy : Int) (x : Kv) (hx : x.1.1 = kl) (w : World) (hl : Lv pl1 g1 o1 m P1 w) :
    Calls Try.prog 6 #[.slice pl1 m c1, .int .i64 sy, .int .i64 x.1.2.1, .int .i64 x.1.2.2] w fun e w' => e = .returned (.bool true) ∧ Below w.heap.size w w' := by
  have HL : Hid _ := hl
  clear hl
  go_enter Try.func6, Try.ntmps6
  go_wp2_with (first
    | (go_at_call 5; refine (known13 w).mono ?_; rintro e w1 ⟨rfl, hb1⟩)
    | (go_at_call 14; refine (New_nil w1).mono ?_; rintro e w2 ⟨d, mb, rb, rfl, hN⟩; have hK : Hid (Kt w1 d (Ak P1 0 0 0) (.slice none 0 0) (.slice none 0 0) [] [] w2) := Kt.start (new_a hN); clear hN)
    | (go_at_call 31; refine (pick_k sy (m + 1) (by omega) (by omega) w2).mono ?_; rintro e w3 ⟨y, rfl, hym1, hb3⟩; have hK3 : Hid _ := hK.out.step hb3; clear hK hb3)
    | fail)
  have hym : y ≤ m := by omega
  go_loopw [12, 13, 14] (fun vs va v wr => ∃ i k : Nat, v = .int .i64 (i : Int) ∧ i ≤ m ∧ k ≤ 2 * i ∧ (∀ j, j < i → (P1 j).n ≤ 500) ∧ Hid (Kt w1 d (Ak P1 k (syk y i) i) va vs (cc P1 i) (cc P1 (syk y i)) wr))
    (fun _ _ v _ => m - (RowKit.intOf v).toNat)
  case atStart => exact ⟨0, 0, rfl, Nat.zero_le _, Nat.zero_le _, fun j hj => absurd hj (Nat.not_lt_zero _), by rw [show syk y 0 = 0 by unfold syk; split <;> omega]; exact hK3⟩
  case round =>
    obtain ⟨i, k, rfl, him, hk2, h500, hKi⟩ := hrel
    have hbw : Below w.heap.size w wr := below_on _ _ hb1 hKi.out.da.b
    have hLi := HL.out.below hbw
    by_cases hlt : i < m
    · have hpl := hLi.p (by omega)
      have hat := hLi.at_ i hlt
      have hok := hLi.ok i hlt
      have hgw : ∀ z ∈ gbl (P1 i), z < w1.heap.size := fun z hz => by
        unfold gbl at hz
        split at hz
        · cases hz
        · obtain rfl := List.mem_singleton.1 hz
          exact Nat.lt_of_lt_of_le ((HL.out.ok i hlt).2.2.lt (by omega)) hb1.size
      have hcc : (cc P1 i).length ≤ i * 500 := cc_len P1 h500
      have HG : Hid _ := hgw
      have HP : Hid (Pq (P1 i) wr) := hok
      have H5 : Hid _ := h500
      have hsy := syk_le y i
      have hAo := Ak_ops P1 k (syk y i) i (by omega)
      have HA : Hid _ := hAo
      clear hok hLi hgw h500 hAo
      subst hpl
      by_cases h5 : (P1 i).n ≤ 500
      · have h5I : ¬(500 : Int) < (P1 i).n := by omega
        have hap : Hid ((Ak P1 k (syk y i) i).app kl (bs (P1 i).n (P1 i).f) = (0, Ak P1 (k + 1) (syk y i) (i + 1))) := Ak_app P1 hsy (fun e => by subst e; omega) (by omega)
        by_cases he : i + 1 = y
        · have heI : (i : Int) + 1 = (y : Int) := by omega
          have e0 : syk y i = 0 := by unfold syk; rw [if_neg (by omega)]
          rw [e0] at hap hKi
          have hsn : Hid ((Ak P1 (k + 1) 0 (i + 1)).syn kl = (0, Ak P1 (k + 2) (i + 1) (i + 1))) := Ak_syn P1 (by omega)
          have hll : (cc P1 (i + 1)).length ≤ 2097152 := by show (cc P1 i ++ pb P1 i).length ≤ _; rw [List.length_append, show (pb P1 i).length = (P1 i).n from bs_len _ _]; omega
          go_wp2_with (first
            | (go_at_call 19; refine (kt_app hKi.out (show k < _ by omega) (by rw [e0] at HA; exact HA.out) kl kl_sz (P1 i) HP.out HG.out (by omega) 0 hap.out).mono ?_; rintro e w6 ⟨rfl, h6⟩; have h6 : Hid _ := h6; have hat6 := (HL.out.below (below_on _ _ hb1 h6.out.da.b)).at_ i hlt; obtain ⟨va7, w7, hr7, h7⟩ := Kt.more h6.out (q := P1 i) ((HL.out.below (below_on _ _ hb1 h6.out.da.b)).ok i hlt) (by omega) 34; have hr7 : Hid _ := hr7; have h7 : Hid (Kt w1 d (Ak P1 (k + 1) 0 (i + 1)) va7 u12 (cc P1 (i + 1)) (cc P1 0) w7) := h7)
            | (at_builtin; refine wpl_app rfl _ _ 34 rfl u13 (.slice (P1 i).p (P1 i).n (P1 i).cp) va7 rfl rfl hr7.out ?_)
            | (go_at_call 21; refine (kt_syn h7.out (show k + 1 < _ by omega) kl kl_sz 0 hsn.out).mono ?_; rintro e w8 ⟨rfl, h8⟩; obtain ⟨vs9, w9, hr9, h9⟩ := Kt.copy h8 hll 34; have hr9 : Hid _ := hr9; have h9 : Hid _ := h9; clear h8)
            | (at_builtin; refine wpl_app rfl _ _ 34 rfl _ va7 vs9 rfl rfl hr9.out ?_)
            | fail)
          go_roundw
          case rel => exact ⟨i + 1, k + 2, by simp; omega, by omega, by omega, fun j hj => by (by_cases hji : j = i); (subst hji; exact h5); (exact H5.out j (by omega)), by rw [show syk y (i + 1) = i + 1 by unfold syk; rw [if_pos (by omega)]; omega]; exact h9⟩
          case measure => simp [RowKit.intOf]; omega
        · have heI : ¬(i : Int) + 1 = (y : Int) := by omega
          go_wp2_with (first
            | (go_at_call 19; refine (kt_app hKi.out (show k < _ by omega) HA.out kl kl_sz (P1 i) HP.out HG.out (by omega) 0 hap.out).mono ?_; rintro e w6 ⟨rfl, h6⟩; have h6 : Hid _ := h6; have hat6 := (HL.out.below (below_on _ _ hb1 h6.out.da.b)).at_ i hlt; obtain ⟨va7, w7, hr7, h7⟩ := Kt.more h6.out (q := P1 i) ((HL.out.below (below_on _ _ hb1 h6.out.da.b)).ok i hlt) (by omega) 34; have hr7 : Hid _ := hr7; have h7 : Hid (Kt w1 d (Ak P1 (k + 1) (syk y i) (i + 1)) va7 u12 (cc P1 (i + 1)) (cc P1 (syk y i)) w7) := h7)
            | (at_builtin; refine wpl_app rfl _ _ 34 rfl u13 (.slice (P1 i).p (P1 i).n (P1 i).cp) va7 rfl rfl hr7.out ?_)
            | fail)
          go_roundw
          case rel => exact ⟨i + 1, k + 1, by simp, by omega, by omega, fun j hj => by (by_cases hji : j = i); (subst hji; exact h5); (exact H5.out j (by omega)), by rw [syk_no he]; exact h7⟩
          case measure => simp [RowKit.intOf]; omega
      · have h5I : (500 : Int) < (P1 i).n := by omega
        go_wp2
        go_ret
        exact ⟨rfl, hbw⟩
    · obtain rfl : i = m := by omega
      have ey : syk y i = y := by unfold syk; rw [if_pos hym]
      rw [ey] at hKi
      obtain ⟨qa, qs, rfl, rfl, hqa, hqs, hD⟩ := Kt.de hKi.out
      have HQ : Hid (bs qa.n qa.f = cc P1 i ∧ bs qs.n qs.f = cc P1 y) := ⟨hqa, hqs⟩
      have HD : Hid _ := hD
      have HKs : Hid _ := kps_lit wr x kl x.1.2.1 x.1.2.2 (by rw [← hx])
      clear hqa hqs hD hLi
      obtain ⟨A2, hA2⟩ : ∃ A2, (Ak P1 k y i).cra (kof (kup (kbk 1 fun _ => x) 1)) = A2 := ⟨_, rfl⟩
      have HA2 : Hid _ := hA2
      rcases Ak_cra P1 (k := k) hym (fun e => by omega) (kof (kup (kbk 1 fun _ => x) 1)) with ⟨h1, h2⟩ | ⟨c, h1, h2, h3⟩
      · rw [hA2] at h1
        subst h1
        have hl0 : Hid (Ad.lk ⟨k, [], rfn⟩ kl = none) := rfl
        have hqs0 : qs.n = 0 := by
          have := HQ.out.2
          rw [h2] at this
          have := congrArg List.length this
          rwa [bs_len] at this
        have hy0 : (y : Int) = 0 := by omega
        clear hA2
        go_wp2_with (first
          | (go_at_call 24; refine (crash_e (HD.out.step ((Below.refl _ wr).alloc (Nat.le_refl _) _)) _ 1 1 (fun _ => x) (by decide) HKs.out _ HA2.out).mono ?_; rintro e w8 ⟨rfl, h7⟩; have h7 : Hid _ := h7)
          | (go_at_call 18; refine (readn_e h7.out kl kl_sz hl0.out).mono ?_; rintro e w9 ⟨rfl, h8⟩; have h8 : Hid _ := h8)
          | fail)
        go_ret
        exact ⟨rfl, below_on _ _ hb1 h8.out.b⟩
      · rw [hA2] at h1
        subst h1
        have hl0 : Hid _ := fin_lk k c
        have hcr : Hid _ := fin_cra k c (kof (kup (kbk 0 fun _ => x) 0))
        have hcs := h2.length_le
        have hca := h3.length_le
        have HP2 : Hid (cc P1 y <+: c ∧ c <+: cc P1 i) := ⟨h2, h3⟩
        have hna : Hid (qa.n = (cc P1 i).length) := show _ = _ by rw [← HQ.out.1, bs_len]
        have hns : Hid (qs.n = (cc P1 y).length) := show _ = _ by rw [← HQ.out.2, bs_len]
        clear hA2 h2 h3
        go_wp2_with (first
          | (go_at_call 24; refine (crash_e (HD.out.step ((Below.refl _ wr).alloc (Nat.le_refl _) _)) _ 1 1 (fun _ => x) (by decide) HKs.out _ HA2.out).mono ?_; rintro e w8 ⟨rfl, h7⟩; have h7 : Hid _ := h7; clear HD)
          | (go_at_call 18; refine (read_e h7.out kl kl_sz _ hl0.out).mono ?_; rintro e w9 ⟨q, rfl, hq, h8⟩; have hq : Hid (bs q.n q.f = c) := hq; have h8 : Hid _ := h8; obtain ⟨k1, k2, k3, k4, k5, k6⟩ := keep_bounds hna.out hns.out hq.out hcs hca (h8.out.pq q (List.mem_cons_self ..)).1.le (h8.out.pq qa (List.mem_cons_of_mem _ (List.mem_cons_self ..))).1.le; have HF : Hid _ := keep_same hq.out HQ.out.1 HQ.out.2 HP2.out.1 HP2.out.2; clear h7)
          | (go_at_call 29; refine (same_q (q := q.tk qs.n) (r := qs) ⟨(h8.out.pq q (List.mem_cons_self ..)).1.tk k5, Pt8.rs_tk (h8.out.pq q (List.mem_cons_self ..)).2.2 k5⟩ ⟨(h8.out.pq qs (List.mem_cons_of_mem _ (List.mem_cons_of_mem _ (List.mem_cons_self ..)))).1, (h8.out.pq qs (List.mem_cons_of_mem _ (List.mem_cons_of_mem _ (List.mem_cons_self ..)))).2.2⟩ rfl HF.out.1).mono ?_; rintro e w10 ⟨rfl, hb⟩; have h9 : Hid _ := h8.out.step hb; clear h8 hb)
          | (go_at_call 29; refine (same_q (q := q) (r := qa.tk q.n) ⟨(h9.out.pq q (List.mem_cons_self ..)).1, (h9.out.pq q (List.mem_cons_self ..)).2.2⟩ ⟨(h9.out.pq qa (List.mem_cons_of_mem _ (List.mem_cons_self ..))).1.tk k6, Pt8.rs_tk (h9.out.pq qa (List.mem_cons_of_mem _ (List.mem_cons_self ..))).2.2 k6⟩ rfl HF.out.2).mono ?_; rintro e w11 ⟨rfl, hb⟩; have h10 : Hid _ := h9.out.step hb; clear h9 hb)
          | (go_at_call 27; refine (pend_e h10.out kl kl_sz _ hl0.out).mono ?_; rintro e w12 ⟨rfl, h11⟩; have h11 : Hid _ := h11; clear h10)
          | (go_at_call 24; refine (crash_e h11.out none 0 0 (fun _ => x) (by decide) (.inl ⟨rfl, rfl⟩) _ hcr.out).mono ?_; rintro e w13 ⟨rfl, h12⟩; have h12 : Hid _ := h12; clear h11)
          | (go_at_call 18; refine (read_e h12.out kl kl_sz _ hl0.out).mono ?_; rintro e w14 ⟨q2, rfl, hq2, h13⟩; have hq2 : Hid (bs q2.n q2.f = c) := hq2; have h13 : Hid _ := h13; clear h12)
          | (go_at_call 29; refine (same_q (q := q) (r := q2) ⟨(h13.out.pq q (List.mem_cons_of_mem _ (List.mem_cons_self ..))).1, (h13.out.pq q (List.mem_cons_of_mem _ (List.mem_cons_self ..))).2.2⟩ ⟨(h13.out.pq q2 (List.mem_cons_self ..)).1, (h13.out.pq q2 (List.mem_cons_self ..)).2.2⟩ (bs_eq (hq.out.trans hq2.out.symm)).1 (fun z hz => (bs_eq (hq.out.trans hq2.out.symm)).2 z (by rw [(bs_eq (hq.out.trans hq2.out.symm)).1]; exact hz))).mono ?_; rintro e w15 ⟨rfl, hb⟩; have h14 : Hid _ := h13.out.step hb; clear h13 hb)
          | fail)
        go_ret
        exact ⟨rfl, below_on _ _ hb1 h14.out.b⟩
set_option maxHeartbeats 2000000 in
theorem keeps_long (m : Nat) (pl1 : Option Addr) (c1 : Nat) (hm : 40 < m) (a b c : Int) (w : World) :
    Calls Try.prog 6 #[.slice pl1 m c1, .int .i64 a, .int .i64 b, .int .i64 c] w fun e w' => e = .returned (.bool true) ∧ Below w.heap.size w w' := by
  have hmI : (40 : Int) < m := by omega
  go_enter Try.func6, Try.ntmps6
  go_wp2_with (first
    | (go_at_call 5; refine (known13 w).mono ?_; rintro e w1 ⟨rfl, hb1⟩)
    | fail)
  go_ret
  exact ⟨rfl, hb1⟩
theorem wf_anyK {a : Int} (h : -9223372036854775808 ≤ a ∧ a ≤ 9223372036854775807) : (Lit.int .i64 a).wf = true := by
  unfold Lit.wf
  simp [IntKind.min, IntKind.max, IntKind.bits, IntKind.signed]
  omega
theorem keeps_any (m : Nat) (pl1 : Option Addr) (c1 g1 o1 : Nat) (P1 : Nat → Pt8) (_ : m ≤ 9223372036854775807) (_ : ∀ i, i < m → ∀ j, j < (P1 i).n → (P1 i).f j < 256) (a : Int) (_ : -9223372036854775808 ≤ a ∧ a ≤ 9223372036854775807) (b : Int) (hb : -9223372036854775808 ≤ b ∧ b ≤ 9223372036854775807) (c : Int) (hc : -9223372036854775808 ≤ c ∧ c ≤ 9223372036854775807) (w : World) (hl : Lv pl1 g1 o1 m P1 w) : Calls Try.prog 6 #[.slice pl1 m c1, .int .i64 a, .int .i64 b, .int .i64 c] w fun e w' => e = .returned (.bool true) ∧ Below w.heap.size w w' := by
  by_cases h : m ≤ 40
  · exact keeps_main m pl1 c1 g1 o1 P1 h a ⟨(kl, b, c), (show kl.size ≤ maxLen by decide), wf_anyK hb, wf_anyK hc⟩ rfl w hl
  · exact keeps_long m pl1 c1 (by omega) a b c w
end Wi
end Rg
end Go.Proofs.Ytidicdlfjdlpnaa
end
section
namespace Go.Proofs.Ytidicdlfjdlpnaa
open Go.ChangeMaps Go.ChangeShapes Go.WideShapes Go.ChangeAt Go.RowKit
open Rg.Wi
theorem Try.own : ownKnob Try.prog.godebug = none := by kernel_rfl
theorem Try.laidOut : laidOutB Try.prog = true := by kernel_rfl
theorem Try.cells5 : Try.prog.cellsOf 5 = 1 := by kernel_rfl
theorem Try.cells34 : Try.prog.cellsOf 34 = 1 := by kernel_rfl
section
variable {H : Type} {enc : TypeId × Value → H} {w : World} {base : Nat} {sp : Nat → Bool} {held : Bool}
set_option maxRecDepth 100000 in
theorem open_pt {fuel : Nat} {cs : List Value} {y : DataW H × List MemPlace} (hf : DataW.trod enc Try.prog w base sp held fuel 34 cs = some y) :
    ∃ q : Pt8, cs = [.slice q.p q.n q.cp] ∧ Pok q ∧ (q.p = none → q.cp = 0) ∧ q.rs w ∧ (∀ j, j < q.n → q.f j < 256) ∧ q.cp ≤ maxLen ∧ ∀ x ∈ y.2, x.block < w.heap.size := by
  rcases open_ints Try.underlying34 Try.underlying5 Try.cells5 hf with ⟨hcs, hx⟩ | ⟨a, len, cap, zs, hcs, _, hl, hm, hz, hx, hcell, hwz⟩
  · subst hcs hx
    exact ⟨⟨0, 0, 0, 0, none, fun _ => 0⟩, rfl, ⟨Bv.void _ _ _ _ _, Nat.le_refl _⟩, fun _ => rfl, Rs.void _ _ _ _, fun j hj => absurd hj (Nat.not_lt_zero _), Nat.zero_le _, by simp⟩
  · subst hcs hx
    have hlz : len ≤ zs.length := by rw [hz]; split <;> omega
    have hps : ∀ x ∈ MemPlace.row a zs.length, x.block < w.heap.size := fun x hx => by
      obtain ⟨i, hi, rfl⟩ := MemPlace.mem_row.1 hx
      have := World.block_lt_of_cell? w _ (hcell i hi)
      obtain ⟨b, off, rfl, _⟩ := ints_at hcell (by omega)
      exact World.block_lt_of_cell? w _ (hcell 0 (by omega))
    have hb : ∀ i, i < zs.length → 0 ≤ zs.getD i 0 ∧ zs.getD i 0 < 256 := fun i hi => by
      rw [List.getD_eq_getElem?_getD, List.getElem?_eq_getElem hi]
      have := bounds_u8 (hwz _ (List.getElem_mem hi))
      exact ⟨this.1, by show zs[i] < 256; omega⟩
    by_cases h0 : len = 0
    · subst h0
      exact ⟨⟨0, 0, 0, cap, some a, fun _ => 0⟩, rfl, ⟨Bv.void _ _ _ _ _, hl⟩, (fun e => by cases e), Rs.void _ _ _ _, fun j hj => absurd hj (Nat.not_lt_zero _), hm, hps⟩
    · obtain ⟨b, off, rfl, hc⟩ := ints_at hcell (by omega)
      refine ⟨⟨b, off, len, cap, some ⟨b, off, none⟩, fun i => (zs.getD i 0).toNat⟩, rfl, ⟨Bv.start _ _ _ _, hl⟩, (fun e => by cases e), ⟨fun _ => World.block_lt_of_cell? w _ (hc 0 (by omega)), fun i hi => ?_⟩, fun j hj => ?_, hm, hps⟩
      · have h1 : i < len := hi
        rw [hc i (by omega)]
        have := hb i (by omega)
        show some (Value.int .u8 (zs.getD i 0)) = some (Value.int .u8 (((zs.getD i 0).toNat : Nat) : Int))
        rw [show ((((zs.getD i 0).toNat : Nat)) : Int) = zs.getD i 0 from Int.toNat_of_nonneg this.1]
      · have h1 : j < len := hj
        have := hb j (by omega)
        show (zs.getD j 0).toNat < 256
        omega
variable {r : Reach} {b0 : Nat} {v : Value} {d : DataW H} {ps : List MemPlace}
set_option maxRecDepth 100000 in
theorem open_listQ (hval : Value.okWide Try.prog w r b0 61 v) (hd : DataW.Trod enc Try.prog w base sp held 61 v d ps) :
    ∃ pl c g o m P, v = .slice pl m c ∧ Lv pl g o m P w ∧ m ≤ 9223372036854775807 ∧ (∀ i, i < m → ∀ j, j < (P i).n → (P i).f j < 256) ∧ ∀ x ∈ ps, x.block < w.heap.size := by
  obtain ⟨a0, len0, cap0, rfl⟩ := okWide_slice Try.underlying61 hval
  obtain ⟨fuel, hf⟩ := hd
  rcases DataW.trod_slice Try.underlying61 hf with ⟨hcs, hx⟩ | ⟨a, len, cap, elems, rest, n, _, hcs, hx, hb, hl, hm, hlen, hel, hsp, hns⟩
  · simp [Value.cells] at hcs
    obtain ⟨rfl, rfl, rfl⟩ := hcs
    simp only [Prod.mk.injEq] at hx
    obtain ⟨_, rfl⟩ := hx
    exact ⟨none, 0, 0, 0, 0, fun _ => nilp (fun _ => 0), rfl, ⟨fun h => absurd h (by decide), fun h => absurd h (by decide), fun i hi => absurd hi (Nat.not_lt_zero _), fun i hi => absurd hi (Nat.not_lt_zero _)⟩, by decide, fun i hi => absurd hi (Nat.not_lt_zero _), by simp⟩
  · simp [Value.cells] at hcs
    obtain ⟨rfl, rfl, rfl⟩ := hcs
    simp only [Prod.mk.injEq] at hx
    obtain ⟨rfl, rfl⟩ := hx
    rw [Try.cells34] at hel hsp
    simp only [Nat.mul_one] at hel hsp
    have part : ∀ i, ∃ q : Pt8, i < len0 → w.cell? (a.add i) = some (.slice q.p q.n q.cp) ∧ Pok q ∧ (q.p = none → q.cp = 0) ∧ q.rs w ∧ ∀ j, j < q.n → q.f j < 256 := fun i => by
      by_cases hi : i < len0
      · have h1 := hel i hi
        have hi2 : i < elems.length := by omega
        rw [List.getElem?_eq_getElem hi2, Option.bind_eq_some_iff] at h1
        obtain ⟨cs', hc', hy⟩ := h1
        obtain ⟨q, rfl, h2, h3, h4, h5, _⟩ := open_pt hy
        exact ⟨q, fun _ => ⟨cell_of_cells?_one hc', h2, h3, h4, h5⟩⟩
      · exact ⟨nilp (fun _ => 0), fun h => absurd h hi⟩
    obtain ⟨X, hX⟩ := Classical.axiomOfChoice part
    have hall : ∀ i, i < elems.length + rest.length → ∃ c, w.cell? (a.add i) = some c := fun i hi => by
      by_cases h : i < len0
      · exact ⟨_, (hX i h).1⟩
      · cases hs : sp a.block with
        | false => rw [hns hs] at hi; simp at hi; omega
        | true =>
          obtain ⟨hrl, hr⟩ := hsp hs
          have h1 := hr (i - len0) (by omega)
          rw [List.getElem?_eq_getElem (by omega : i - len0 < rest.length), Option.bind_eq_some_iff, show len0 + (i - len0) = i by omega] at h1
          obtain ⟨cs', hc', hy⟩ := h1
          obtain ⟨q, rfl, _⟩ := open_pt hy
          exact ⟨_, cell_of_cells?_one hc'⟩
    have hrest : ∀ y ∈ elems ++ rest, ∀ x ∈ y.2, x.block < w.heap.size := fun y hy => by
      rcases List.mem_append.1 hy with h | h
      · obtain ⟨i, hi, rfl⟩ := List.getElem_of_mem h
        have h1 := hel i (by omega)
        rw [List.getElem?_eq_getElem hi, Option.bind_eq_some_iff] at h1
        obtain ⟨cs', _, hy'⟩ := h1
        obtain ⟨q, _, _, _, _, _, _, h6⟩ := open_pt hy'
        exact h6
      · cases hs : sp a.block with
        | false => rw [hns hs] at h; cases h
        | true =>
          obtain ⟨hrl, hr⟩ := hsp hs
          obtain ⟨i, hi, rfl⟩ := List.getElem_of_mem h
          have h1 := hr i (by omega)
          rw [List.getElem?_eq_getElem hi, Option.bind_eq_some_iff] at h1
          obtain ⟨cs', _, hy'⟩ := h1
          obtain ⟨q, _, _, _, _, _, _, h6⟩ := open_pt hy'
          exact h6
    have hps : ∀ x ∈ MemPlace.row a ((elems.length + rest.length) * Try.prog.cellsOf 34) ++ (elems ++ rest).flatMap (·.2), x.block < w.heap.size := fun x hx => by
      rcases List.mem_append.1 hx with h | h
      · rw [Try.cells34, Nat.mul_one] at h
        obtain ⟨i, hi, rfl⟩ := MemPlace.mem_row.1 h
        obtain ⟨c, hc⟩ := hall i hi
        have := World.block_lt_of_cell? w _ hc
        rw [add_block] at this
        exact this
      · obtain ⟨y, hy, hxy⟩ := List.mem_flatMap.1 h
        exact hrest y hy x hxy
    have hml : len0 ≤ 9223372036854775807 := by unfold maxLen at hm; omega
    by_cases h0 : len0 = 0
    · subst h0
      exact ⟨some a, cap0, 0, 0, 0, X, rfl, ⟨fun h => absurd h (by decide), fun h => absurd h (by decide), fun i hi => absurd hi (Nat.not_lt_zero _), fun i hi => absurd hi (Nat.not_lt_zero _)⟩, by decide, fun i hi => absurd hi (Nat.not_lt_zero _), hps⟩
    · obtain ⟨b, off, spot⟩ := a
      have hspot : spot = none := by simpa [Addr.add] using World.cell?_spot (hX 0 (by omega)).1
      subst hspot
      have hcl : ∀ i, i < len0 → w.cell? ⟨b, off + i, none⟩ = some (.slice (X i).p (X i).n (X i).cp) := fun i hi => by
        have h1 := (hX i hi).1
        rw [Go.WideShapes.add_plain] at h1
        exact h1
      exact ⟨some ⟨b, off, none⟩, cap0, b, off, len0, X, rfl, ⟨fun _ => rfl, fun _ => World.block_lt_of_cell? w _ (hcl 0 (by omega)), hcl, fun i hi => ⟨(hX i hi).2.1, (hX i hi).2.2.1, (hX i hi).2.2.2.1⟩⟩, hml, fun i hi => (hX i hi).2.2.2.2, hps⟩
end
end Go.Proofs.Ytidicdlfjdlpnaa
end
