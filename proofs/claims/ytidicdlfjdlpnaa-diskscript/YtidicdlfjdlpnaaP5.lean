/- Texts of the proof, joined. -/
import Derived.Test.YtidicdlfjdlpnaaP4
import Derived.Shelf.LaysM
import Derived.Shelf.Strconv.Clone
import Derived.Ground.NamesProg
import Derived.Test.YtidicdlfjdlpnaaProg
import Derived.Maps.OwnSet
import Derived.Shelf.SlGeneric
import Derived.Shelf.SlIter.Nil
import Derived.Shelf.SortM.Plain
import Derived.Shelf.SortM.SortNone
import Derived.Ground.GgzProg
import Derived.Ground.SlgmProg
section
namespace Go.Proofs.Ytidicdlfjdlpnaa
open Go.RowKit
namespace Rg
namespace Wi
set_option maxRecDepth 100000
section
variable {w u : World} {D : Dq}
theorem DOk.kr (h : DOk w D) (hu : Kp D.d w u) : u.heap[D.rb]? = w.heap[D.rb]? := by
  obtain ⟨n, Y, h1, _⟩ := h.rm
  exact hu.block _ h1.lt h.h3.2.1.symm
theorem DOk.km (h : DOk w D) (hu : Kp D.d w u) : u.heap[D.mb]? = w.heap[D.mb]? := by
  obtain ⟨X, h1, _⟩ := h.mp
  exact hu.block _ h1.lt h.h3.1.symm
theorem Dq.kc (hu : Kp D.d w u) : Chg D.bl w u := (Kp.chg hu).mono (fun x hx => .inl (by rw [List.mem_singleton.1 hx]; exact List.mem_cons_self ..))
theorem Dq.fbl {f : Fq} (hf : f ∈ D.fs) : ∀ x ∈ f.bl, x ∈ D.bl := fun x hx => by
  unfold Dq.bl
  simp only [List.mem_cons, List.mem_flatMap]
  exact .inr (.inr (.inr ⟨f, hf, hx⟩))
end
/-- What count and counted answer. -/
def Dq.no (D : Dq) : Bool := D.rf (D.k + 1)
theorem count_f (D : Dq) (w : World) (h : DOk w D) (hk : D.k + 1 < 4611686018427387904) : Calls Try.prog 66 #[PT D.d 0] w fun e w' => e = .returned (.int .i64 (if D.no then 13 else 0)) ∧ DOk w' D.tick ∧ Chg D.bl w w' := by
  cases hr : D.no with
  | true => exact (count_no D.d D.mb D.rb D.k h.k1 w h.cel (fun u hu => by rw [h.lookR (h.kr hu), show D.rf (D.k + 1) = true from hr])).mono fun e w' hh => ⟨hh.1, h.tick hk hh.2.2 hh.2.1, Dq.kc hh.2.2⟩
  | false => exact (count_ok D.d D.mb D.rb D.k h.k1 w h.cel (fun u hu => by rw [h.lookR (h.kr hu), show D.rf (D.k + 1) = false from hr])).mono fun e w' hh => ⟨hh.1, h.tick hk hh.2.2 hh.2.1, Dq.kc hh.2.2⟩
def Dq.cnt (D : Dq) (s : ByteArray) : Value := if D.no then .tuple #[.pointer none, .int .i64 13] else match lk D.fs s with
  | some f => .tuple #[PT f.g 0, .int .i64 0]
  | none => .tuple #[.pointer none, .int .i64 6]
theorem counted_f (D : Dq) (s : ByteArray) (hs : s.size ≤ maxLen) (w : World) (h : DOk w D) (hk : D.k + 1 < 4611686018427387904) : Calls Try.prog 72 #[PT D.d 0, .string s] w fun e w' => e = .returned (D.cnt s) ∧ DOk w' D.tick ∧ Chg D.bl w w' := by
  unfold Dq.cnt
  cases hr : D.no with
  | true => exact (counted_no D.d D.mb D.rb D.k h.k1 s w h.cel (fun u hu => by rw [h.lookR (h.kr hu), show D.rf (D.k + 1) = true from hr])).mono fun e w' hh => ⟨hh.1, h.tick hk hh.2.2 hh.2.1, Dq.kc hh.2.2⟩
  | false =>
    cases hl : lk D.fs s with
    | none => exact (counted_miss D.d D.mb D.rb D.k h.k1 s w h.cel (fun u hu => by rw [h.lookR (h.kr hu), show D.rf (D.k + 1) = false from hr]) (fun u hu => by rw [h.look s hs (h.km hu), hl]; rfl)).mono fun e w' hh => ⟨hh.1, h.tick hk hh.2.2 hh.2.1, Dq.kc hh.2.2⟩
    | some f => exact (counted_hit D.d D.mb D.rb D.k h.k1 f.g s w h.cel (fun u hu => by rw [h.lookR (h.kr hu), show D.rf (D.k + 1) = false from hr]) (fun u hu => by rw [h.look s hs (h.km hu), hl]; rfl)).mono fun e w' hh => ⟨hh.1, h.tick hk hh.2.2 hh.2.1, Dq.kc hh.2.2⟩
/-- A cut under way. -/
def cuto (c : Nat) : Uop := ⟨c, ⟨0, 0, 0, 0, none, fun _ => 0⟩⟩
theorem cuto_ok (c : Nat) (w : World) : (cuto c).ok w := ⟨⟨Bv.void _ _ _ _ _, Nat.le_refl _⟩, fun _ => rfl, Rs.void _ _ _ _⟩
theorem cuto_b (c : Nat) : ∀ x, x ∉ uob (cuto c) := fun x hx => by
  unfold uob cuto at hx
  simp at hx
/-- Of a disk that was counted, with all that was changed its own. -/
def Dw (w : World) (D0 D : Dq) (u : World) : Prop := DOk u D ∧ Chg D0.bl w u ∧ ∀ x ∈ D.bl, x ∈ D0.bl ∨ w.heap.size ≤ x
theorem Dw.step {w : World} {D0 D : Dq} : ∀ u u', Dw w D0 D u → Below u.heap.size u u' → Dw w D0 D u' := fun _ _ h hb => ⟨h.1.below hb, h.2.1.below hb, h.2.2⟩
theorem Dw.trans {w u u' : World} {D0 D1 D2 : Dq} (h : Dw w D0 D1 u) (k : Dw u D1 D2 u') : Dw w D0 D2 u' := ⟨k.1, h.2.1.trans k.2.1 h.2.2, fun x hx => (k.2.2 x hx).elim (h.2.2 x) (fun e => .inr (Nat.le_trans h.2.1.size e))⟩
theorem Dw.refl {w : World} {D : Dq} (h : DOk w D) : Dw w D D w := ⟨h, Chg.refl _ _, fun _ hx => .inl hx⟩
theorem Dq.swap_bl {D : Dq} {f f' : Fq} {x : Nat} (hx : x ∈ (D.swap f f').bl) : x ∈ D.bl ∨ x ∈ f'.bl := by
  unfold Dq.bl Dq.swap at hx
  simp only [List.mem_cons, List.mem_flatMap, List.mem_map] at hx
  rcases hx with e | e | e | ⟨y, ⟨z, hz, rfl⟩, e⟩
  · exact .inl (by unfold Dq.bl; simp [e])
  · exact .inl (by unfold Dq.bl; simp [e])
  · exact .inl (by unfold Dq.bl; simp [e])
  · unfold swp at e
    split at e
    · exact .inr e
    · exact .inl (Dq.fbl hz x e)
theorem Cut_f (D : Dq) (s : ByteArray) (hs : s.size ≤ maxLen) (c : Int) (w : World) (h : DOk w D) (hk : D.k + 1 < 4611686018427387904) (hops : ∀ f ∈ D.fs, f.ops.length < 1000000) : Calls Try.prog 20 #[PT D.d 0, .string s, .int .i64 c] w fun e w' =>
    if D.no then e = .returned (.int .i64 13) ∧ Dw w D D.tick w' else match lk D.fs s with
    | none => e = .returned (.int .i64 6) ∧ Dw w D D.tick w'
    | some f => if 0 ≤ c ∧ c ≤ f.N then e = .returned (.int .i64 0) ∧ ∃ u, Dw w D (D.tick.swap f (f.more u (cuto c.toNat))) w' else e = .returned (.int .i64 2) ∧ Dw w D D.tick w' := by
  have hb0 : ∀ u u', Below w.heap.size w u → Below u.heap.size u u' → Below w.heap.size w u' := fun u u' h1 h2 => h1.trans (h2.mono h1.size)
  have hcd : ∀ v, D.cnt s = v → ∀ u, Below w.heap.size w u → Calls Try.prog 72 #[PT D.d 0, .string s] u fun e u' => e = .returned v ∧ Dw w D D.tick u' := fun v hv u hu =>
    (counted_f D s hs u (h.below hu) hk).mono fun e u' hh => ⟨by rw [hh.1, hv], hh.2.1, (Chg.of hu).trans hh.2.2 (fun x hx => .inl hx), fun x hx => .inl hx⟩
  cases hr : D.no with
  | true => exact Cut_no D.d s c _ _ w (Below.refl _ _) hb0 Dw.step (hcd _ (by unfold Dq.cnt; rw [hr, if_pos rfl]))
  | false =>
    simp only [Bool.false_eq_true, if_false]
    cases hl : lk D.fs s with
    | none => exact Cut_miss D.d s c _ _ w (Below.refl _ _) hb0 Dw.step (hcd _ (by unfold Dq.cnt; rw [hr, if_neg (by decide), hl]))
    | some f =>
      have hm := (lk_mem hl).1
      have hc1 := hcd (.tuple #[PT f.g 0, .int .i64 0]) (by unfold Dq.cnt; rw [hr, if_neg (by decide), hl])
      have hsz : ∀ u, Dw w D D.tick u → Calls Try.prog 68 #[PT f.g 0] u fun e u' => e = .returned (.int .i64 ((f.N : Nat) : Int)) ∧ Below u.heap.size u u' := fun u hu => size_f f u (hu.1.fl f hm)
      by_cases h0 : c < 0
      · show Calls _ _ _ _ fun e w' => if 0 ≤ c ∧ c ≤ f.N then _ else _
        simp only [if_neg (show ¬(0 ≤ c ∧ c ≤ (f.N : Int)) by omega)]
        exact Cut_low D.d f.g s c h0 _ _ w (Below.refl _ _) hb0 Dw.step hc1
      · obtain ⟨n, rfl⟩ : ∃ n : Nat, c = n := ⟨c.toNat, by omega⟩
        show Calls _ _ _ _ fun e w' => if 0 ≤ (n : Int) ∧ (n : Int) ≤ f.N then _ else _
        by_cases h2 : n ≤ f.N
        · simp only [if_pos (show 0 ≤ (n : Int) ∧ (n : Int) ≤ (f.N : Int) by omega)]
          refine Cut_ok D.d f.g f.N s n h2 _ _ (fun u => ∃ v, Dw w D (D.tick.swap f (f.more v (cuto n))) u) w (Below.refl _ _) hb0 Dw.step (fun u u' hu hb => by obtain ⟨v, hv⟩ := hu; exact ⟨v, Dw.step _ _ hv hb⟩) hc1 hsz (fun u hu => ?_)
          refine (begin_f f (cuto n) u (hu.1.fl f hm) (hops f hm) (cuto_ok n u) (fun x hx => absurd hx (cuto_b n x)) h2 (by have := (hu.1.fl f hm).N1; show n + 0 ≤ _; omega) (.inr rfl)).mono fun e u' hh => ?_
          obtain ⟨e1, v, e2, e3, e4⟩ := hh
          suffices hbx : ∀ x ∈ (f.more v (cuto n)).bl, x ∈ f.bl ∨ u.heap.size ≤ x from ⟨e1, v, hu.1.swap hm rfl rfl e2 e3 hbx, hu.2.1.trans e3 (fun x hx => .inl (Dq.fbl hm x hx)), fun x hx => (Dq.swap_bl hx).elim .inl (fun e => (hbx x e).elim (fun e => .inl (Dq.fbl hm x e)) (fun e => .inr (Nat.le_trans hu.2.1.size e)))⟩
          intro x hx
          unfold Fq.bl Fq.more fbl at hx
          simp only [List.mem_cons, List.mem_append, List.mem_flatMap] at hx
          rcases hx with hx | hx | hx | ⟨o, ho, hx⟩
          · exact .inl (by rw [hx]; exact List.mem_cons_self ..)
          · exact .inl (by unfold Fq.bl fbl; simp [hx])
          · exact e4 x hx
          · rcases ho with ho | ho
            · exact .inl (by unfold Fq.bl fbl; simp only [List.mem_cons, List.mem_append, List.mem_flatMap]; exact .inr (.inr (.inr ⟨o, ho, hx⟩)))
            · rcases ho with ho | ho
              · subst ho
                exact absurd hx (cuto_b n x)
              · cases ho
        · simp only [if_neg (show ¬(0 ≤ (n : Int) ∧ (n : Int) ≤ (f.N : Int)) by omega)]
          exact Cut_high D.d f.g f.N s n (by omega) _ _ w (Below.refl _ _) hb0 Dw.step hc1 hsz
end Wi
end Rg
end Go.Proofs.Ytidicdlfjdlpnaa
end
section
/-
  DERIVED: THE SHELF's CONTRACTS AT THIS DUMP, IN PLAIN WORDS (tools/lay-plain.mjs out of 'YtidicdlfjdlpnaaShelf.lean', which tools/lay-shelf.mjs wrote): THE SAME DECLARATIONS UNDER THE SAME NAMES: 'import', 'namespace', 'open', 'def', 'theorem' AND NOTHING ELSE: no command of the shelf's: FOR A HAND-IN. Each laying: the table of numbers ('.._ren') and one theorem, a field a fact of the dump's own or the kernel's comparison; each contract: ONE APPLICATION.
-/
namespace Go.Proofs
open Go.Shelf
def Try.laysM316_ren : Go.Shelf.Ren := ⟨fun | 316 => 116 | n => n, fun | 9 => 9 | 3 => 3 | 4 => 4 | 37 => 34 | 0 => 0 | 127 => 167 | 5 => 5 | n => n, fun | n => n⟩
theorem Try.laysM316 : Go.Proofs.LaysM.n316 Try.prog Try.laysM316_ren := {
  mixed := by kernel_rfl
  f316 := Try.func116.trans (congrArg some (by kernel_rfl))
  t0 := Try.underlying0
  a0 := Try.isAgg0
  z0 := Try.sizeOf0
  v0 := Try.zeroValue0
  t3 := Try.underlying3
  a3 := Try.isAgg3
  z3 := Try.sizeOf3
  v3 := Try.zeroValue3
  t4 := Try.underlying4
  a4 := Try.isAgg4
  z4 := Try.sizeOf4
  v4 := Try.zeroValue4
  t9 := Try.underlying9
  a9 := Try.isAgg9
  z9 := Try.sizeOf9
  v9 := Try.zeroValue9
  t37 := Try.underlying34
  a37 := Try.isAgg34
  z37 := Try.sizeOf34
  v37 := Try.zeroValue34
  t127 := Try.underlying167
  a127 := Try.isAgg167
  z127 := Try.sizeOf167
  v127 := Try.zeroValue167
  t5 := Try.underlying5
  a5 := Try.isAgg5
  z5 := Try.sizeOf5
  v5 := Try.zeroValue5
  i0 := by kernel_rfl
  i3 := by kernel_rfl
  i4 := by kernel_rfl
  i5 := by kernel_rfl
  i9 := by kernel_rfl
  i37 := by kernel_rfl
  i127 := by kernel_rfl }
end Go.Proofs
end
section
namespace Go.Proofs.Ytidicdlfjdlpnaa
open Go.RowKit
namespace Rg
namespace Wi
theorem call92 : ∀ args w, (callFunc 92 args).run Try.prog w = .ok (.enter 92 args) w := by intro args w; go_simp
theorem call116 : ∀ args w, (callFunc 116 args).run Try.prog w = .ok (.enter 116 args) w := by intro args w; go_simp
set_option maxRecDepth 100000
theorem lite_any (s : ByteArray) (hs : s.size ≤ 281474976710656) (w : World) : Calls Try.prog 116 #[.string s] w fun e w' => e = .returned (.string s) ∧ Below w.heap.size w w' := Any.stringslite_Clone Try.laysM316 s w hs
set_option maxHeartbeats 2000000 in
set_option maxRecDepth 100000 in
theorem sclone_any (s : ByteArray) (hs : s.size ≤ 281474976710656) (w : World) :
    Calls Try.prog 92 #[.string s] w fun e w' => e = .returned (.string s) ∧ Below w.heap.size w w' := by
  have H0 : Hid (_ ∧ _) := ⟨Mm.nil w, Below.refl w.heap.size w⟩
  go_enter Try.func92, Try.ntmps92
  refine wp_seq ?_
  refine sq_startW (l := [0]) rfl (fun u0 hu0 => ?_)
  have H1 : Hid (Mm u0 [] ∧ Below w.heap.size w u0) := by rw [hu0]; exact H0
  clear hu0 H0
  refine rest_set (d := 2) (v := .string ⟨#[]⟩) (w' := u0) rfl rfl rfl (rfl) ?_
  simp only [Act.put, sa, sz, ss]
  refine rest_nil (then_normal (wp_seq ?_))
  refine sq_start (l := [0, 1, 2]) rfl ?_
  refine rest_set (d := 3) (v := .string s) (w' := u0) rfl rfl rfl (rfl) ?_
  simp only [Act.put, sa, sz, ss]
  refine rest_enter (d := 4) (R := fun vv w' => vv = .string s ∧ Below u0.heap.size u0 w') rfl rfl rfl (exec_call (args := #[.string s]) rfl call116 rfl (mpn rfl)) (Calls.mono (lite_any s hs u0) (fun e w2 hh => ⟨_, hh.1, rfl, hh.2⟩)) ?_
  rintro _ w2 ⟨rfl, hb⟩
  have H2 : Hid (Mm w2 [] ∧ Below w.heap.size w w2) := ⟨H1.out.1.below hb, H1.out.2.trans (hb.mono H1.out.2.size)⟩
  clear hb
  clear H1
  simp only [Act.put, sa, sz, ss]
  refine rest_set (d := 2) (v := .string s) (w' := w2) rfl rfl rfl (rfl) ?_
  simp only [Act.put, sa, sz, ss]
  refine rest_nil (then_normal (wp_ret ?_))
  repeat (first | refine then_ret ?_ | refine block_ret ?_)
  refine bodyPost_ret (v := .string s) (by simp [results, Try.results92, go_sem, *]) rfl ?_
  exact ⟨rfl, H2.out.2⟩
theorem ex_mup {ρ : Operand → Value} {o : Oper} {x y z : Operand} {t : TypeId} {a k v : Value} {w w2 : World} (hr : (Instr.mapUpdate t a k v).run Try.prog w = .ok () w2) (ho : o.op = .mapUpdate t x y z) (hx : ρ x = a) (hy : ρ y = k) (hz : ρ z = v) : (execOp ρ o).run Try.prog w = .ok .skip w2 := by
  simp only [execOp, ho, hx, hy, hz, Sem.run_bind, hr, Result.andThen_ok, Sem.run_pure]
set_option maxHeartbeats 2000000 in
set_option maxRecDepth 100000 in
theorem put_any (d mb rb g : Nat) (k : Int) (s : ByteArray) (hs : s.size ≤ 281474976710656) (I1 : World → Prop) (w : World) (hm : Mm w [(d, [Value.map (some mb), Value.map (some rb), Value.int .i64 k])]) (s1z : ∀ u u', I1 u → Below u.heap.size u u' → I1 u') (hupz : ∀ u, Below w.heap.size w u → ∃ u', (Instr.mapUpdate 39 (.map (some mb)) (.string s) (PT g 0)).run Try.prog u = .ok () u' ∧ I1 u') :
    Calls Try.prog 71 #[PT d 0, .string s, PT g 0] w fun e w' => e = .returned (.tuple #[]) ∧ I1 w' := by
  have H0 : Hid (_ ∧ _) := ⟨hm, Below.refl w.heap.size w⟩
  clear hm
  have s1 : Hid _ := s1z
  have hup : Hid _ := hupz
  clear s1z hupz
  go_enter Try.func71, Try.ntmps71
  refine walk_anyB 7 [.quiet (PT d 0), .quiet (PT d 0), .quiet (PT d 0), .quiet (.map (some mb)), .quiet (.string s), .call (.string s), .quiet (PT g 0)] H0 ?ho1 ?he1
  case ho1 => exact ak (fun _ => ⟨rfl, fun _ _ => rfl⟩) (ak (by refine fun γ => ⟨rfl, fun w' h => ?_⟩; clear h; go_simp) (ak (by refine fun γ => ⟨rfl, fun w' h => ?_⟩; clear h; go_simp) (ak (fun γ => ⟨rfl, fun w' h => ex_loadC h 0 rfl rfl rfl Try.isAgg39 rfl⟩) (ak (fun _ => ⟨rfl, fun _ _ => rfl⟩) (ak (fun γ => ⟨rfl, fun w' h => ⟨92, #[.string s], exec_call rfl call92 rfl (mpn rfl), sclone_any s hs w'⟩⟩) (ak (fun _ => ⟨rfl, fun _ _ => rfl⟩) trivial))))))
  intro _ w1 H1
  refine rest_at (l := [7]) rfl ?_
  obtain ⟨w9, hr9, hI9⟩ := hup.out w1 H1.out.2
  refine rest_store rfl rfl rfl (ex_mup hr9 rfl rfl rfl rfl) ?_
  have H2 : Hid (Mm w9 [] ∧ I1 w9) := ⟨Mm.nil _, hI9⟩
  clear hr9 hI9 H1
  refine rest_nil ?_
  refine bodyPost_end (v := .tuple #[]) (by simp [results, Try.results71, go_sem]) rfl ?_
  exact ⟨rfl, H2.out.2⟩
end Wi
end Rg
end Go.Proofs.Ytidicdlfjdlpnaa
end
section
namespace Go.Proofs.Ytidicdlfjdlpnaa
open Go.RowKit
namespace Rg
namespace Wi
set_option maxRecDepth 100000
theorem ownMap_tight {w : World} {k : TypeId} {R : Value → Option (DataW Nat × List MemPlace)} {b n : Nat} {D : DataW Nat} (h : w.ownsMap Try.prog k R b n D) : w.ownsMap Try.prog k R b (Maps.size D) D := by
  obtain ⟨es, clock, h1, h2, h3, rfl⟩ := h
  exact ⟨es, clock, h1, h2, by simp [Maps.size, length_sorted], rfl⟩
theorem ky_inj {s t : ByteArray} (h : ky s = ky t) : s = t := by
  unfold ky at h
  injection h with h
  exact ByteArray.ext (Array.toList_inj.1 h)
theorem ky_lit (s : ByteArray) : WideAt.IsKeyLit (ky s) := by
  first | exact trivial | exact rfl | (unfold ky; simp [WideAt.IsKeyLit])
/-- The map with a name more, or one anew. -/
theorem DOk.mupd {w u : World} {D : Dq} (h : DOk w D) (s : ByteArray) (hs : s.size ≤ maxLen) (g : Nat) (hu : u.heap[D.mb]? = w.heap[D.mb]?) : ∃ u' X, (Instr.mapUpdate 39 (.map (some D.mb)) (.string s) (PT g 0)).run Try.prog u = .ok () u' ∧ u.grownBy u' (some D.mb) ∧ u'.ownsMap Try.prog 9 RF D.mb (Maps.size X) X ∧ (∀ t, X.atKey (ky t) .nil = if t = s then .held g else dv (lk D.fs t)) ∧ (∀ t, Maps.has X (ky t) = (decide (t = s) || (lk D.fs t).isSome)) ∧ Maps.size X = (if (lk D.fs s).isSome then D.fs.length else D.fs.length + 1) := by
  obtain ⟨X, x1, x2, x3, x4⟩ := h.mp
  have hn := h.n64
  have y1 := ownMap_keep x1 hu
  obtain ⟨u', hr, hm, hg⟩ := y1.update (Maps.string_keyed Try.underlying9) Try.underlying39 (by unfold maxLen; omega) (WideMaps.keyOf_string_mk Try.underlying9 hs) (show RF (PT g 0) = some (.held g, []) from rfl)
  refine ⟨u', X.put (ky s) (.held g), hr, hg, ownMap_tight hm, fun t => ?_, fun t => ?_, ?_⟩
  · by_cases e : t = s
    · subst e
      rw [if_pos rfl]
      exact Maps.atKey_put_same y1.isMap (ky_lit t) _ _
    · rw [if_neg e, Maps.atKey_put_other (fun e2 => e (ky_inj e2)), x2 t]
  · by_cases e : t = s
    · subst e
      rw [Maps.has_put_same y1.isMap (ky_lit t)]
      simp
    · rw [Maps.has_put_other (fun e2 => e (ky_inj e2)), x3 t, decide_eq_false e, Bool.false_or]
  · rw [Maps.size_put (y1.tidy (Maps.string_keyed Try.underlying9)), x3 s, x4]
end Wi
end Rg
end Go.Proofs.Ytidicdlfjdlpnaa
end
section
namespace Go.Proofs.Ytidicdlfjdlpnaa
open Go.RowKit
namespace Rg
namespace Wi
set_option maxRecDepth 100000
theorem DOk.putSame {w : World} {D : Dq} {f : Fq} {s : ByteArray} (h : DOk w D) (hs : s.size ≤ maxLen) (hl : lk D.fs s = some f) : ∃ u', (Instr.mapUpdate 39 (.map (some D.mb)) (.string s) (PT f.g 0)).run Try.prog w = .ok () u' ∧ DOk u' D ∧ Chg [D.mb] w u' := by
  obtain ⟨u', X, hr, hg, x1, x2, x3, x4⟩ := h.mupd s hs f.g rfl
  have hc : Chg [D.mb] w u' := Chg.grown hg
  obtain ⟨n, Y, y1, y2⟩ := h.rm
  rw [hl] at x4
  have x5 : Maps.size X = D.fs.length := x4
  refine ⟨u', hr, ⟨hc.mm h.cel (fun p hp hm => ?_), ⟨X, x5 ▸ x1, fun t => ?_, fun t => ?_, x5⟩, ⟨n, Y, ownMap_keep y1 (hc.block _ y1.lt (fun hm => h.h3.2.2 (List.mem_singleton.1 hm).symm)), y2⟩, fun y hy => (h.fl y hy).chg hc (fun x hx hm => ((h.hd y hy) x hx).2.1 (List.mem_singleton.1 hm)), h.ap, h.hd, h.h3, h.un, h.k1, h.n64⟩, hc⟩
  · obtain rfl := List.mem_singleton.1 hp
    exact h.h3.1 (List.mem_singleton.1 hm)
  · rw [x2 t]
    by_cases e : t = s
    · rw [if_pos e, e, hl]; rfl
    · rw [if_neg e]
  · rw [x3 t]
    by_cases e : t = s
    · rw [decide_eq_true e, Bool.true_or, e, hl]; rfl
    · rw [decide_eq_false e, Bool.false_or]
def Dq.add (D : Dq) (f : Fq) : Dq := ⟨D.d, D.mb, D.rb, D.k, D.fs ++ [f], D.rf⟩
theorem Dq.add_bl {D : Dq} {f : Fq} {x : Nat} (hx : x ∈ (D.add f).bl) : x ∈ D.bl ∨ x ∈ f.bl := by
  unfold Dq.bl Dq.add at hx
  simp only [List.mem_cons, List.mem_flatMap, List.mem_append] at hx
  rcases hx with e | e | e | ⟨y, hy | hy, e⟩
  · exact .inl (by unfold Dq.bl; simp [e])
  · exact .inl (by unfold Dq.bl; simp [e])
  · exact .inl (by unfold Dq.bl; simp [e])
  · exact .inl (Dq.fbl hy x e)
  · rcases hy with hy | hy
    · subst hy; exact .inr e
    · cases hy
theorem lk_add (fs : List Fq) (f : Fq) (t : ByteArray) : lk (fs ++ [f]) t = (lk fs t).or (if f.nm = t then some f else none) := by
  unfold lk
  rw [List.find?_append]
  congr 1
  by_cases e : f.nm = t
  · rw [if_pos e]
    simp [e]
  · rw [if_neg e]
    simp [e]
theorem lk_none {fs : List Fq} {s : ByteArray} (h : lk fs s = none) : ∀ f ∈ fs, f.nm ≠ s := fun f hf e => by
  unfold lk at h
  have := List.find?_eq_none.1 h f hf
  exact this (by rw [e]; simp)
theorem DOk.putNew {w : World} {D : Dq} {f : Fq} (h : DOk w D) (hs : f.nm.size ≤ maxLen) (hl : lk D.fs f.nm = none) (hF : FOk w f) (hlt : D.fs.length < 64) (ha : ∀ x ∈ f.bl, x ∉ D.bl) : ∃ u', (Instr.mapUpdate 39 (.map (some D.mb)) (.string f.nm) (PT f.g 0)).run Try.prog w = .ok () u' ∧ DOk u' (D.add f) ∧ Chg [D.mb] w u' := by
  obtain ⟨u', X, hr, hg, x1, x2, x3, x4⟩ := h.mupd f.nm hs f.g rfl
  have hc : Chg [D.mb] w u' := Chg.grown hg
  obtain ⟨n, Y, y1, y2⟩ := h.rm
  rw [hl] at x4
  have x5 : Maps.size X = (D.fs ++ [f]).length := by rw [List.length_append]; exact x4
  have hmb : D.mb ∈ D.bl := by unfold Dq.bl; simp
  have hab : ∀ y ∈ D.fs, ∀ x ∈ y.bl, x ∉ f.bl := fun y hy x hx hm => ha x hm (Dq.fbl hy x hx)
  have key : ∀ y ∈ D.fs ++ [f], y ∈ D.fs ∨ y = f := fun y hy => (List.mem_append.1 hy).imp_right List.mem_singleton.1
  refine ⟨u', hr, ⟨hc.mm h.cel (fun p hp hm => ?_), ⟨X, x5 ▸ x1, fun t => ?_, fun t => ?_, x5⟩, ⟨n, Y, ownMap_keep y1 (hc.block _ y1.lt (fun hm => h.h3.2.2 (List.mem_singleton.1 hm).symm)), y2⟩, fun y hy => ?_, fun y hy z hz hne x hx => ?_, fun y hy x hx => ?_, h.h3, ?_, h.k1, ?_⟩, hc⟩
  · obtain rfl := List.mem_singleton.1 hp
    exact h.h3.1 (List.mem_singleton.1 hm)
  · show X.atKey (ky t) .nil = dv (lk (D.fs ++ [f]) t)
    rw [x2 t, lk_add]
    by_cases e : t = f.nm
    · rw [if_pos e, e, hl, if_pos rfl]; rfl
    · rw [if_neg e, if_neg (fun e2 => e e2.symm), Option.or_none]
  · show Maps.has X (ky t) = (lk (D.fs ++ [f]) t).isSome
    rw [x3 t, lk_add]
    by_cases e : t = f.nm
    · rw [decide_eq_true e, Bool.true_or, e, hl, if_pos rfl]; rfl
    · rw [decide_eq_false e, Bool.false_or, if_neg (fun e2 => e e2.symm), Option.or_none]
  · rcases key y hy with e | e
    · exact (h.fl y e).chg hc (fun x hx hm => ((h.hd y e) x hx).2.1 (List.mem_singleton.1 hm))
    · subst e
      exact hF.chg hc (fun x hx hm => ha x hx (by rw [List.mem_singleton.1 hm]; exact hmb))
  · rcases key y hy with e | e <;> rcases key z hz with e2 | e2
    · exact h.ap y e z e2 hne x hx
    · subst e2; exact hab y e x hx
    · subst e; exact fun hm => hab z e2 x hm hx
    · subst e; subst e2; exact absurd rfl hne
  · rcases key y hy with e | e
    · exact (h.hd y e) x hx
    · subst e
      have := ha x hx
      unfold Dq.bl at this
      simp only [List.mem_cons, not_or] at this
      exact ⟨this.1, this.2.1, this.2.2.1⟩
  · show ((D.fs ++ [f]).map Fq.nm).Nodup
    rw [List.map_append, List.nodup_append]
    refine ⟨h.un, (by simp), fun a ha2 c hc2 e => ?_⟩
    obtain ⟨y, hy, rfl⟩ := List.mem_map.1 ha2
    have : c = f.nm := by simpa using hc2
    exact lk_none hl y hy (e.trans this)
  · show (D.fs ++ [f]).length ≤ 64
    rw [List.length_append]
    exact hlt
end Wi
end Rg
end Go.Proofs.Ytidicdlfjdlpnaa
end
section
namespace Go.Proofs.Ytidicdlfjdlpnaa
open Go.RowKit
namespace Rg
namespace Wi
theorem call67 : ∀ args w, (callFunc 67 args).run Try.prog w = .ok (.enter 67 args) w := by intro args w; go_simp
theorem call70 : ∀ args w, (callFunc 70 args).run Try.prog w = .ok (.enter 70 args) w := by intro args w; go_simp
theorem call71 : ∀ args w, (callFunc 71 args).run Try.prog w = .ok (.enter 71 args) w := by intro args w; go_simp
set_option maxRecDepth 100000
theorem ex_lnm {ρ : Operand → Value} {o : Oper} {x : Operand} {a v : Value} {w : World} (hr : ∀ ty, (Builtin.len_ #[39] ty #[a]).run Try.prog w = .ok v w) (ho : o.op = .call { callee := .builtin .len, args := #[x], argTypes := #[39] }) (hx : ρ x = a) : (execOp ρ o).run Try.prog w = .ok (.value v) w := by
  unfold execOp
  simp only [ho, resolve, invoke, builtin, Sem.run_bind, Sem.run_pure, Result.andThen_ok, List.map_toArray, List.map_cons, List.map_nil, hx, hr]
set_option maxHeartbeats 2000000 in
set_option maxRecDepth 100000 in
theorem Append_no (d : Nat) (s : ByteArray) (q : Pt8)  (I0 : World → Prop) (I1 : World → Prop) (w : World) (h0 : I0 w) (s0z : ∀ u u', I0 u → Below u.heap.size u u' → I0 u') (s1z : ∀ u u', I1 u → Below u.heap.size u u' → I1 u') (hcoz : ∀ u, I0 u → Calls Try.prog 66 #[PT d 0] u fun e u' => e = .returned (.int .i64 13) ∧ I1 u') :
    Calls Try.prog 19 #[PT d 0, .string s, .slice q.p q.n q.cp] w fun e w' => e = .returned (.int .i64 13) ∧ I1 w' := by
  have H0 : Hid (_ ∧ _) := ⟨Mm.nil w, h0⟩
  have s0 : Hid _ := s0z
  have s1 : Hid _ := s1z
  have hco : Hid _ := hcoz
  clear h0 s0z s1z hcoz
  go_enter Try.func19, Try.ntmps19
  refine wp_seq ?_
  refine sq_startW (l := [0]) rfl (fun u0 hu0 => ?_)
  have H1 : Hid (Mm u0 [] ∧ I0 u0) := by rw [hu0]; exact H0
  clear hu0 H0
  refine rest_set (d := 6) (v := .int .i64 0) (w' := u0) rfl rfl rfl (rfl) ?_
  simp only [Act.put, sa, sz, ss]
  refine rest_nil (then_normal ?_)
  refine wp_seq (wp_seq ?_)
  refine sq_start (l := [0, 1, 2]) rfl ?_
  refine rest_set (d := 9) (v := PT d 0) (w' := u0) rfl rfl rfl (rfl) ?_
  simp only [Act.put, sa, sz, ss]
  refine rest_enter (d := 10) (R := fun vv w' => vv = .int .i64 13 ∧ I1 w') rfl rfl rfl (exec_call (args := #[PT d 0]) rfl call66 rfl (mpn rfl)) (Calls.mono (hco.out u0 H1.out.2) (fun e w2 hh => ⟨_, hh.1, rfl, hh.2⟩)) ?_
  rintro _ w2 ⟨rfl, hI⟩
  have H2 : Hid (Mm w2 [] ∧ I1 w2) := ⟨Mm.nil _, hI⟩
  clear hI H1
  simp only [Act.put, sa, sz, ss]
  refine rest_set (d := 7) (v := .int .i64 13) (w' := w2) rfl rfl rfl (rfl) ?_
  simp only [Act.put, sa, sz, ss]
  refine rest_nil (then_normal (wp_seq ?_))
  refine sq_start (l := [0, 1]) rfl ?_
  refine rest_set (d := 11) (v := .int .i64 13) (w' := w2) rfl rfl rfl (rfl) ?_
  simp only [Act.put, sa, sz, ss]
  refine rest_set (d := 12) (v := .bool true) (w' := w2) rfl rfl rfl (by kernel_rfl) ?_
  simp only [Act.put, sa, sz, ss]
  refine rest_nil (then_normal ?_)
  refine wp_cond_true rfl (wp_seq ?_)
  refine sq_start (l := [0, 1]) rfl ?_
  refine rest_set (d := 13) (v := .int .i64 13) (w' := w2) rfl rfl rfl (rfl) ?_
  simp only [Act.put, sa, sz, ss]
  refine rest_set (d := 6) (v := .int .i64 13) (w' := w2) rfl rfl rfl (rfl) ?_
  simp only [Act.put, sa, sz, ss]
  refine rest_nil (then_normal (wp_ret ?_))
  repeat (first | refine then_ret ?_ | refine block_ret ?_)
  refine bodyPost_ret (v := .int .i64 13) (by simp [results, Try.results19, go_sem, *]) rfl ?_
  exact ⟨rfl, H2.out.2⟩
set_option maxHeartbeats 2000000 in
set_option maxRecDepth 100000 in
theorem Append_bad (d : Nat) (s : ByteArray) (q : Pt8)  (I0 : World → Prop) (I1 : World → Prop) (w : World) (h0 : I0 w) (s0z : ∀ u u', I0 u → Below u.heap.size u u' → I0 u') (s1z : ∀ u u', I1 u → Below u.heap.size u u' → I1 u') (hcoz : ∀ u, I0 u → Calls Try.prog 66 #[PT d 0] u fun e u' => e = .returned (.int .i64 0) ∧ I1 u') (hnmz : ∀ u, I1 u → Calls Try.prog 67 #[.string s] u fun e u' => e = .returned (.bool false) ∧ Below u.heap.size u u') :
    Calls Try.prog 19 #[PT d 0, .string s, .slice q.p q.n q.cp] w fun e w' => e = .returned (.int .i64 2) ∧ I1 w' := by
  have H0 : Hid (_ ∧ _) := ⟨Mm.nil w, h0⟩
  have s0 : Hid _ := s0z
  have s1 : Hid _ := s1z
  have hco : Hid _ := hcoz
  have hnm : Hid _ := hnmz
  clear h0 s0z s1z hcoz hnmz
  go_enter Try.func19, Try.ntmps19
  refine wp_seq ?_
  refine sq_startW (l := [0]) rfl (fun u0 hu0 => ?_)
  have H1 : Hid (Mm u0 [] ∧ I0 u0) := by rw [hu0]; exact H0
  clear hu0 H0
  refine rest_set (d := 6) (v := .int .i64 0) (w' := u0) rfl rfl rfl (rfl) ?_
  simp only [Act.put, sa, sz, ss]
  refine rest_nil (then_normal ?_)
  refine wp_seq (wp_seq ?_)
  refine sq_start (l := [0, 1, 2]) rfl ?_
  refine rest_set (d := 9) (v := PT d 0) (w' := u0) rfl rfl rfl (rfl) ?_
  simp only [Act.put, sa, sz, ss]
  refine rest_enter (d := 10) (R := fun vv w' => vv = .int .i64 0 ∧ I1 w') rfl rfl rfl (exec_call (args := #[PT d 0]) rfl call66 rfl (mpn rfl)) (Calls.mono (hco.out u0 H1.out.2) (fun e w2 hh => ⟨_, hh.1, rfl, hh.2⟩)) ?_
  rintro _ w2 ⟨rfl, hI⟩
  have H2 : Hid (Mm w2 [] ∧ I1 w2) := ⟨Mm.nil _, hI⟩
  clear hI H1
  simp only [Act.put, sa, sz, ss]
  refine rest_set (d := 7) (v := .int .i64 0) (w' := w2) rfl rfl rfl (rfl) ?_
  simp only [Act.put, sa, sz, ss]
  refine rest_nil (then_normal (wp_seq ?_))
  refine sq_start (l := [0, 1]) rfl ?_
  refine rest_set (d := 11) (v := .int .i64 0) (w' := w2) rfl rfl rfl (rfl) ?_
  simp only [Act.put, sa, sz, ss]
  refine rest_set (d := 12) (v := .bool false) (w' := w2) rfl rfl rfl (by kernel_rfl) ?_
  simp only [Act.put, sa, sz, ss]
  refine rest_nil (then_normal ?_)
  refine wp_cond_false rfl (wp_skip ?_)
  refine then_normal (wp_seq (wp_seq ?_))
  refine sq_start (l := [0, 1, 2]) rfl ?_
  refine rest_set (d := 14) (v := .string s) (w' := w2) rfl rfl rfl (rfl) ?_
  simp only [Act.put, sa, sz, ss]
  refine rest_enter (d := 15) (R := fun vv w' => vv = .bool false ∧ Below w2.heap.size w2 w') rfl rfl rfl (exec_call (args := #[.string s]) rfl call67 rfl (mpn rfl)) (Calls.mono (hnm.out w2 H2.out.2) (fun e w2 hh => ⟨_, hh.1, rfl, hh.2⟩)) ?_
  rintro _ w3 ⟨rfl, hb⟩
  have H3 : Hid (Mm w3 [] ∧ I1 w3) := ⟨H2.out.1.below hb, s1.out _ _ H2.out.2 (hb)⟩
  clear hb
  clear H2
  simp only [Act.put, sa, sz, ss]
  refine rest_set (d := 16) (v := .bool true) (w' := w3) rfl rfl rfl (by go_simp) ?_
  simp only [Act.put, sa, sz, ss]
  refine rest_nil (then_normal ?_)
  refine wp_cond_true rfl (wp_seq ?_)
  refine sq_start (l := [0]) rfl ?_
  refine rest_set (d := 6) (v := .int .i64 2) (w' := w3) rfl rfl rfl (rfl) ?_
  simp only [Act.put, sa, sz, ss]
  refine rest_nil (then_normal (wp_ret ?_))
  repeat (first | refine then_ret ?_ | refine block_ret ?_)
  refine bodyPost_ret (v := .int .i64 2) (by simp [results, Try.results19, go_sem, *]) rfl ?_
  exact ⟨rfl, H3.out.2⟩
set_option maxHeartbeats 2000000 in
set_option maxRecDepth 100000 in
theorem Append_long (d : Nat) (s : ByteArray) (q : Pt8) (mb rb g N : Nat) (kk : Int) (hN : N ≤ 1048576) (hq : q.n ≤ 281474976710656) (hL : 1048576 < N + q.n) (I0 : World → Prop) (I1 : World → Prop) (w : World) (h0 : I0 w) (s0z : ∀ u u', I0 u → Below u.heap.size u u' → I0 u') (s1z : ∀ u u', I1 u → Below u.heap.size u u' → I1 u') (hcoz : ∀ u, I0 u → Calls Try.prog 66 #[PT d 0] u fun e u' => e = .returned (.int .i64 0) ∧ I1 u') (hnmz : ∀ u, I1 u → Calls Try.prog 67 #[.string s] u fun e u' => e = .returned (.bool true) ∧ Below u.heap.size u u') (hmdz : ∀ u, I1 u → Mm u [(d, [Value.map (some mb), Value.map (some rb), Value.int .i64 kk])]) (hlkz : ∀ u, I1 u → (Instr.lookup 39 (.map (some mb)) (.string s) false).run Try.prog u = .ok (PT g 0) u) (hszz : ∀ u, I1 u → Calls Try.prog 68 #[PT g 0] u fun e u' => e = .returned (.int .i64 ((N : Nat) : Int)) ∧ Below u.heap.size u u') :
    Calls Try.prog 19 #[PT d 0, .string s, .slice q.p q.n q.cp] w fun e w' => e = .returned (.int .i64 3) ∧ I1 w' := by
  have H0 : Hid (_ ∧ _) := ⟨Mm.nil w, h0⟩
  have s0 : Hid _ := s0z
  have s1 : Hid _ := s1z
  have hco : Hid _ := hcoz
  have hnm : Hid _ := hnmz
  have hmd : Hid _ := hmdz
  have hlk : Hid _ := hlkz
  have hsz : Hid _ := hszz
  clear h0 s0z s1z hcoz hnmz hmdz hlkz hszz
  go_enter Try.func19, Try.ntmps19
  refine wp_seq ?_
  refine sq_startW (l := [0]) rfl (fun u0 hu0 => ?_)
  have H1 : Hid (Mm u0 [] ∧ I0 u0) := by rw [hu0]; exact H0
  clear hu0 H0
  refine rest_set (d := 6) (v := .int .i64 0) (w' := u0) rfl rfl rfl (rfl) ?_
  simp only [Act.put, sa, sz, ss]
  refine rest_nil (then_normal ?_)
  refine wp_seq (wp_seq ?_)
  refine sq_start (l := [0, 1, 2]) rfl ?_
  refine rest_set (d := 9) (v := PT d 0) (w' := u0) rfl rfl rfl (rfl) ?_
  simp only [Act.put, sa, sz, ss]
  refine rest_enter (d := 10) (R := fun vv w' => vv = .int .i64 0 ∧ I1 w') rfl rfl rfl (exec_call (args := #[PT d 0]) rfl call66 rfl (mpn rfl)) (Calls.mono (hco.out u0 H1.out.2) (fun e w2 hh => ⟨_, hh.1, rfl, hh.2⟩)) ?_
  rintro _ w2 ⟨rfl, hI⟩
  have H2 : Hid (Mm w2 [] ∧ I1 w2) := ⟨Mm.nil _, hI⟩
  clear hI H1
  simp only [Act.put, sa, sz, ss]
  refine rest_set (d := 7) (v := .int .i64 0) (w' := w2) rfl rfl rfl (rfl) ?_
  simp only [Act.put, sa, sz, ss]
  refine rest_nil (then_normal (wp_seq ?_))
  refine sq_start (l := [0, 1]) rfl ?_
  refine rest_set (d := 11) (v := .int .i64 0) (w' := w2) rfl rfl rfl (rfl) ?_
  simp only [Act.put, sa, sz, ss]
  refine rest_set (d := 12) (v := .bool false) (w' := w2) rfl rfl rfl (by kernel_rfl) ?_
  simp only [Act.put, sa, sz, ss]
  refine rest_nil (then_normal ?_)
  refine wp_cond_false rfl (wp_skip ?_)
  refine then_normal (wp_seq (wp_seq ?_))
  refine sq_start (l := [0, 1, 2]) rfl ?_
  refine rest_set (d := 14) (v := .string s) (w' := w2) rfl rfl rfl (rfl) ?_
  simp only [Act.put, sa, sz, ss]
  refine rest_enter (d := 15) (R := fun vv w' => vv = .bool true ∧ Below w2.heap.size w2 w') rfl rfl rfl (exec_call (args := #[.string s]) rfl call67 rfl (mpn rfl)) (Calls.mono (hnm.out w2 H2.out.2) (fun e w2 hh => ⟨_, hh.1, rfl, hh.2⟩)) ?_
  rintro _ w3 ⟨rfl, hb⟩
  have H3 : Hid (Mm w3 [] ∧ I1 w3) := ⟨H2.out.1.below hb, s1.out _ _ H2.out.2 (hb)⟩
  clear hb
  clear H2
  simp only [Act.put, sa, sz, ss]
  refine rest_set (d := 16) (v := .bool false) (w' := w3) rfl rfl rfl (by go_simp) ?_
  simp only [Act.put, sa, sz, ss]
  refine rest_nil (then_normal ?_)
  refine wp_cond_false rfl (wp_skip ?_)
  refine then_normal (wp_seq ?_)
  refine sq_start (l := [0, 1, 2, 3, 4, 5, 6]) rfl ?_
  refine rest_set (d := 17) (v := PT d 0) (w' := w3) rfl rfl rfl (rfl) ?_
  simp only [Act.put, sa, sz, ss]
  refine rest_set (d := 18) (v := PT d 0) (w' := w3) rfl rfl rfl (by go_simp) ?_
  simp only [Act.put, sa, sz, ss]
  refine rest_set (d := 19) (v := PT d 0) (w' := w3) rfl rfl rfl (by go_simp) ?_
  simp only [Act.put, sa, sz, ss]
  refine rest_set (d := 20) (v := .map (some mb)) (w' := w3) rfl rfl rfl (ex_loadC (hmd.out w3 H3.out.2) 0 rfl rfl rfl Try.isAgg39 rfl) ?_
  simp only [Act.put, sa, sz, ss]
  refine rest_set (d := 21) (v := .string s) (w' := w3) rfl rfl rfl (rfl) ?_
  simp only [Act.put, sa, sz, ss]
  refine rest_set (d := 22) (v := PT g 0) (w' := w3) rfl rfl rfl (ex_lkp (hlk.out w3 H3.out.2) rfl rfl rfl) ?_
  simp only [Act.put, sa, sz, ss]
  refine rest_set (d := 8) (v := PT g 0) (w' := w3) rfl rfl rfl (rfl) ?_
  simp only [Act.put, sa, sz, ss]
  refine rest_nil (then_normal ?_)
  refine wp_seq (wp_seq ?_)
  refine sq_start (l := [0, 1]) rfl ?_
  refine rest_set (d := 23) (v := PT g 0) (w' := w3) rfl rfl rfl (rfl) ?_
  simp only [Act.put, sa, sz, ss]
  refine rest_set (d := 24) (v := .bool false) (w' := w3) rfl rfl rfl (by go_simp) ?_
  simp only [Act.put, sa, sz, ss]
  refine rest_nil (then_normal ?_)
  refine wp_cond_false rfl (wp_skip ?_)
  refine then_normal (wp_seq (wp_seq ?_))
  refine sq_start (l := [0, 1, 2, 3, 4, 5]) rfl ?_
  refine rest_set (d := 33) (v := PT g 0) (w' := w3) rfl rfl rfl (rfl) ?_
  simp only [Act.put, sa, sz, ss]
  refine rest_enter (d := 34) (R := fun vv w' => vv = .int .i64 ((N : Nat) : Int) ∧ Below w3.heap.size w3 w') rfl rfl rfl (exec_call (args := #[PT g 0]) rfl call68 rfl (mpn rfl)) (Calls.mono (hsz.out w3 H3.out.2) (fun e w2 hh => ⟨_, hh.1, rfl, hh.2⟩)) ?_
  rintro _ w4 ⟨rfl, hb⟩
  have H4 : Hid (Mm w4 [] ∧ I1 w4) := ⟨H3.out.1.below hb, s1.out _ _ H3.out.2 (hb)⟩
  clear hb
  clear H3
  simp only [Act.put, sa, sz, ss]
  refine rest_set (d := 35) (v := .slice q.p q.n q.cp) (w' := w4) rfl rfl rfl (rfl) ?_
  simp only [Act.put, sa, sz, ss]
  refine rest_set (d := 36) (v := .int .i64 ((q.n : Nat) : Int)) (w' := w4) rfl rfl rfl (by go_simp) ?_
  simp only [Act.put, sa, sz, ss]
  refine rest_set (d := 37) (v := .int .i64 ((N + q.n : Nat) : Int)) (w' := w4) rfl rfl rfl (by go_simp; rw [IntKind.wrap_i64]; omega) ?_
  simp only [Act.put, sa, sz, ss]
  refine rest_set (d := 38) (v := .bool true) (w' := w4) rfl rfl rfl (by go_simp <;> omega) ?_
  simp only [Act.put, sa, sz, ss]
  refine rest_nil (then_normal ?_)
  refine wp_cond_true rfl (wp_seq ?_)
  refine sq_start (l := [0]) rfl ?_
  refine rest_set (d := 6) (v := .int .i64 3) (w' := w4) rfl rfl rfl (rfl) ?_
  simp only [Act.put, sa, sz, ss]
  refine rest_nil (then_normal (wp_ret ?_))
  repeat (first | refine then_ret ?_ | refine block_ret ?_)
  refine bodyPost_ret (v := .int .i64 3) (by simp [results, Try.results19, go_sem, *]) rfl ?_
  exact ⟨rfl, H4.out.2⟩
set_option maxHeartbeats 2000000 in
set_option maxRecDepth 100000 in
theorem Append_hit (d : Nat) (s : ByteArray) (q : Pt8) (mb rb g N : Nat) (kk : Int) (hN : N ≤ 1048576) (hq : q.n ≤ 281474976710656) (hL : N + q.n ≤ 1048576) (I0 : World → Prop) (I1 : World → Prop) (I2 : Pt8 → World → Prop) (I3 : World → Prop) (I4 : World → Prop) (w : World) (h0 : I0 w) (s0z : ∀ u u', I0 u → Below u.heap.size u u' → I0 u') (s1z : ∀ u u', I1 u → Below u.heap.size u u' → I1 u') (s2z : ∀ q2 u u', I2 q2 u → Below u.heap.size u u' → I2 q2 u') (s3z : ∀ u u', I3 u → Below u.heap.size u u' → I3 u') (s4z : ∀ u u', I4 u → Below u.heap.size u u' → I4 u') (hcoz : ∀ u, I0 u → Calls Try.prog 66 #[PT d 0] u fun e u' => e = .returned (.int .i64 0) ∧ I1 u') (hnmz : ∀ u, I1 u → Calls Try.prog 67 #[.string s] u fun e u' => e = .returned (.bool true) ∧ Below u.heap.size u u') (hmdz : ∀ u, I1 u → Mm u [(d, [Value.map (some mb), Value.map (some rb), Value.int .i64 kk])]) (hlkz : ∀ u, I1 u → (Instr.lookup 39 (.map (some mb)) (.string s) false).run Try.prog u = .ok (PT g 0) u) (hszz : ∀ u, I1 u → Calls Try.prog 68 #[PT g 0] u fun e u' => e = .returned (.int .i64 ((N : Nat) : Int)) ∧ Below u.heap.size u u') (hclz : ∀ u, I1 u → Calls Try.prog 70 #[.slice q.p q.n q.cp] u fun e u' => ∃ q2 : Pt8, e = .returned (.slice q2.p q2.n q2.cp) ∧ I2 q2 u') (hbgz : ∀ q2 u, I2 q2 u → Calls Try.prog 69 #[PT g 0, .agg ([.int .i64 ((N : Nat) : Int), .slice q2.p q2.n q2.cp] : List Value).toArray] u fun e u' => e = .returned (.tuple #[]) ∧ I3 u') (hptz : ∀ u, I3 u → Calls Try.prog 71 #[PT d 0, .string s, PT g 0] u fun e u' => e = .returned (.tuple #[]) ∧ I4 u') :
    Calls Try.prog 19 #[PT d 0, .string s, .slice q.p q.n q.cp] w fun e w' => e = .returned (.int .i64 0) ∧ I4 w' := by
  have H0 : Hid (_ ∧ _) := ⟨Mm.nil w, h0⟩
  have s0 : Hid _ := s0z
  have s1 : Hid _ := s1z
  have s2 : Hid _ := s2z
  have s3 : Hid _ := s3z
  have s4 : Hid _ := s4z
  have hco : Hid _ := hcoz
  have hnm : Hid _ := hnmz
  have hmd : Hid _ := hmdz
  have hlk : Hid _ := hlkz
  have hsz : Hid _ := hszz
  have hcl : Hid _ := hclz
  have hbg : Hid _ := hbgz
  have hpt : Hid _ := hptz
  clear h0 s0z s1z s2z s3z s4z hcoz hnmz hmdz hlkz hszz hclz hbgz hptz
  go_enter Try.func19, Try.ntmps19
  refine wp_seq ?_
  refine sq_startW (l := [0]) rfl (fun u0 hu0 => ?_)
  have H1 : Hid (Mm u0 [] ∧ I0 u0) := by rw [hu0]; exact H0
  clear hu0 H0
  refine rest_set (d := 6) (v := .int .i64 0) (w' := u0) rfl rfl rfl (rfl) ?_
  simp only [Act.put, sa, sz, ss]
  refine rest_nil (then_normal ?_)
  refine wp_seq (wp_seq ?_)
  refine sq_start (l := [0, 1, 2]) rfl ?_
  refine rest_set (d := 9) (v := PT d 0) (w' := u0) rfl rfl rfl (rfl) ?_
  simp only [Act.put, sa, sz, ss]
  refine rest_enter (d := 10) (R := fun vv w' => vv = .int .i64 0 ∧ I1 w') rfl rfl rfl (exec_call (args := #[PT d 0]) rfl call66 rfl (mpn rfl)) (Calls.mono (hco.out u0 H1.out.2) (fun e w2 hh => ⟨_, hh.1, rfl, hh.2⟩)) ?_
  rintro _ w2 ⟨rfl, hI⟩
  have H2 : Hid (Mm w2 [] ∧ I1 w2) := ⟨Mm.nil _, hI⟩
  clear hI H1
  simp only [Act.put, sa, sz, ss]
  refine rest_set (d := 7) (v := .int .i64 0) (w' := w2) rfl rfl rfl (rfl) ?_
  simp only [Act.put, sa, sz, ss]
  refine rest_nil (then_normal (wp_seq ?_))
  refine sq_start (l := [0, 1]) rfl ?_
  refine rest_set (d := 11) (v := .int .i64 0) (w' := w2) rfl rfl rfl (rfl) ?_
  simp only [Act.put, sa, sz, ss]
  refine rest_set (d := 12) (v := .bool false) (w' := w2) rfl rfl rfl (by kernel_rfl) ?_
  simp only [Act.put, sa, sz, ss]
  refine rest_nil (then_normal ?_)
  refine wp_cond_false rfl (wp_skip ?_)
  refine then_normal (wp_seq (wp_seq ?_))
  refine sq_start (l := [0, 1, 2]) rfl ?_
  refine rest_set (d := 14) (v := .string s) (w' := w2) rfl rfl rfl (rfl) ?_
  simp only [Act.put, sa, sz, ss]
  refine rest_enter (d := 15) (R := fun vv w' => vv = .bool true ∧ Below w2.heap.size w2 w') rfl rfl rfl (exec_call (args := #[.string s]) rfl call67 rfl (mpn rfl)) (Calls.mono (hnm.out w2 H2.out.2) (fun e w2 hh => ⟨_, hh.1, rfl, hh.2⟩)) ?_
  rintro _ w3 ⟨rfl, hb⟩
  have H3 : Hid (Mm w3 [] ∧ I1 w3) := ⟨H2.out.1.below hb, s1.out _ _ H2.out.2 (hb)⟩
  clear hb
  clear H2
  simp only [Act.put, sa, sz, ss]
  refine rest_set (d := 16) (v := .bool false) (w' := w3) rfl rfl rfl (by go_simp) ?_
  simp only [Act.put, sa, sz, ss]
  refine rest_nil (then_normal ?_)
  refine wp_cond_false rfl (wp_skip ?_)
  refine then_normal (wp_seq ?_)
  refine sq_start (l := [0, 1, 2, 3, 4, 5, 6]) rfl ?_
  refine rest_set (d := 17) (v := PT d 0) (w' := w3) rfl rfl rfl (rfl) ?_
  simp only [Act.put, sa, sz, ss]
  refine rest_set (d := 18) (v := PT d 0) (w' := w3) rfl rfl rfl (by go_simp) ?_
  simp only [Act.put, sa, sz, ss]
  refine rest_set (d := 19) (v := PT d 0) (w' := w3) rfl rfl rfl (by go_simp) ?_
  simp only [Act.put, sa, sz, ss]
  refine rest_set (d := 20) (v := .map (some mb)) (w' := w3) rfl rfl rfl (ex_loadC (hmd.out w3 H3.out.2) 0 rfl rfl rfl Try.isAgg39 rfl) ?_
  simp only [Act.put, sa, sz, ss]
  refine rest_set (d := 21) (v := .string s) (w' := w3) rfl rfl rfl (rfl) ?_
  simp only [Act.put, sa, sz, ss]
  refine rest_set (d := 22) (v := PT g 0) (w' := w3) rfl rfl rfl (ex_lkp (hlk.out w3 H3.out.2) rfl rfl rfl) ?_
  simp only [Act.put, sa, sz, ss]
  refine rest_set (d := 8) (v := PT g 0) (w' := w3) rfl rfl rfl (rfl) ?_
  simp only [Act.put, sa, sz, ss]
  refine rest_nil (then_normal ?_)
  refine wp_seq (wp_seq ?_)
  refine sq_start (l := [0, 1]) rfl ?_
  refine rest_set (d := 23) (v := PT g 0) (w' := w3) rfl rfl rfl (rfl) ?_
  simp only [Act.put, sa, sz, ss]
  refine rest_set (d := 24) (v := .bool false) (w' := w3) rfl rfl rfl (by go_simp) ?_
  simp only [Act.put, sa, sz, ss]
  refine rest_nil (then_normal ?_)
  refine wp_cond_false rfl (wp_skip ?_)
  refine then_normal (wp_seq (wp_seq ?_))
  refine sq_start (l := [0, 1, 2, 3, 4, 5]) rfl ?_
  refine rest_set (d := 33) (v := PT g 0) (w' := w3) rfl rfl rfl (rfl) ?_
  simp only [Act.put, sa, sz, ss]
  refine rest_enter (d := 34) (R := fun vv w' => vv = .int .i64 ((N : Nat) : Int) ∧ Below w3.heap.size w3 w') rfl rfl rfl (exec_call (args := #[PT g 0]) rfl call68 rfl (mpn rfl)) (Calls.mono (hsz.out w3 H3.out.2) (fun e w2 hh => ⟨_, hh.1, rfl, hh.2⟩)) ?_
  rintro _ w4 ⟨rfl, hb⟩
  have H4 : Hid (Mm w4 [] ∧ I1 w4) := ⟨H3.out.1.below hb, s1.out _ _ H3.out.2 (hb)⟩
  clear hb
  clear H3
  simp only [Act.put, sa, sz, ss]
  refine rest_set (d := 35) (v := .slice q.p q.n q.cp) (w' := w4) rfl rfl rfl (rfl) ?_
  simp only [Act.put, sa, sz, ss]
  refine rest_set (d := 36) (v := .int .i64 ((q.n : Nat) : Int)) (w' := w4) rfl rfl rfl (by go_simp) ?_
  simp only [Act.put, sa, sz, ss]
  refine rest_set (d := 37) (v := .int .i64 ((N + q.n : Nat) : Int)) (w' := w4) rfl rfl rfl (by go_simp; rw [IntKind.wrap_i64]; omega) ?_
  simp only [Act.put, sa, sz, ss]
  refine rest_set (d := 38) (v := .bool false) (w' := w4) rfl rfl rfl (by go_simp <;> omega) ?_
  simp only [Act.put, sa, sz, ss]
  refine rest_nil (then_normal ?_)
  refine wp_cond_false rfl (wp_skip ?_)
  refine then_normal (wp_seq ?_)
  refine sq_start (l := [0, 1, 2, 3, 4, 5, 6]) rfl ?_
  refine rest_set (d := 39) (v := PT g 0) (w' := w4) rfl rfl rfl (rfl) ?_
  simp only [Act.put, sa, sz, ss]
  refine rest_set (d := 40) (v := PT g 0) (w' := w4) rfl rfl rfl (rfl) ?_
  simp only [Act.put, sa, sz, ss]
  refine rest_enter (d := 41) (R := fun vv w' => vv = .int .i64 ((N : Nat) : Int) ∧ Below w4.heap.size w4 w') rfl rfl rfl (exec_call (args := #[PT g 0]) rfl call68 rfl (mpn rfl)) (Calls.mono (hsz.out w4 H4.out.2) (fun e w2 hh => ⟨_, hh.1, rfl, hh.2⟩)) ?_
  rintro _ w5 ⟨rfl, hb⟩
  have H5 : Hid (Mm w5 [] ∧ I1 w5) := ⟨H4.out.1.below hb, s1.out _ _ H4.out.2 (hb)⟩
  clear hb
  clear H4
  simp only [Act.put, sa, sz, ss]
  refine rest_set (d := 42) (v := .slice q.p q.n q.cp) (w' := w5) rfl rfl rfl (rfl) ?_
  simp only [Act.put, sa, sz, ss]
  refine rest_enter (d := 43) (R := fun vv w' => ∃ q2 : Pt8, vv = .slice q2.p q2.n q2.cp ∧ I2 q2 w') rfl rfl rfl (exec_call (args := #[.slice q.p q.n q.cp]) rfl call70 rfl (mpn rfl)) (Calls.mono (hcl.out w5 H5.out.2) (fun e w2 hh => by obtain ⟨q2, he, hI⟩ := hh; exact ⟨_, he, q2, rfl, hI⟩)) ?_
  rintro _ w6 ⟨q2, rfl, hI⟩
  have H6 : Hid (Mm w6 [] ∧ I2 q2 w6) := ⟨Mm.nil _, hI⟩
  clear hI H5
  simp only [Act.put, sa, sz, ss]
  refine rest_set (d := 44) (v := .agg ([Value.int .i64 ((N : Nat) : Int), Value.slice q2.p q2.n q2.cp]).toArray) (w' := w6) rfl rfl rfl (by kernel_rfl) ?_
  simp only [Act.put, sa, sz, ss]
  refine rest_enter (d := 45) (R := fun vv w' => vv = .tuple #[] ∧ I3 w') rfl rfl rfl (exec_call (args := #[PT g 0, .agg ([Value.int .i64 ((N : Nat) : Int), Value.slice q2.p q2.n q2.cp]).toArray]) rfl call69 rfl (mpn rfl)) (Calls.mono (hbg.out q2 w6 H6.out.2) (fun e w2 hh => ⟨_, hh.1, rfl, hh.2⟩)) ?_
  rintro _ w7 ⟨rfl, hI⟩
  have H7 : Hid (Mm w7 [] ∧ I3 w7) := ⟨Mm.nil _, hI⟩
  clear hI H6
  simp only [Act.put, sa, sz, ss]
  refine rest_nil (then_normal (wp_seq ?_))
  refine sq_start (l := [0, 1, 2, 3]) rfl ?_
  refine rest_set (d := 46) (v := PT d 0) (w' := w7) rfl rfl rfl (rfl) ?_
  simp only [Act.put, sa, sz, ss]
  refine rest_set (d := 47) (v := .string s) (w' := w7) rfl rfl rfl (rfl) ?_
  simp only [Act.put, sa, sz, ss]
  refine rest_set (d := 48) (v := PT g 0) (w' := w7) rfl rfl rfl (rfl) ?_
  simp only [Act.put, sa, sz, ss]
  refine rest_enter (d := 49) (R := fun vv w' => vv = .tuple #[] ∧ I4 w') rfl rfl rfl (exec_call (args := #[PT d 0, .string s, PT g 0]) rfl call71 rfl (mpn rfl)) (Calls.mono (hpt.out w7 H7.out.2) (fun e w2 hh => ⟨_, hh.1, rfl, hh.2⟩)) ?_
  rintro _ w8 ⟨rfl, hI⟩
  have H8 : Hid (Mm w8 [] ∧ I4 w8) := ⟨Mm.nil _, hI⟩
  clear hI H7
  simp only [Act.put, sa, sz, ss]
  refine rest_nil (then_normal (wp_seq ?_))
  refine sq_start (l := [0]) rfl ?_
  refine rest_set (d := 6) (v := .int .i64 0) (w' := w8) rfl rfl rfl (rfl) ?_
  simp only [Act.put, sa, sz, ss]
  refine rest_nil (then_normal (wp_ret ?_))
  repeat (first | refine then_ret ?_ | refine block_ret ?_)
  refine bodyPost_ret (v := .int .i64 0) (by simp [results, Try.results19, go_sem, *]) rfl ?_
  exact ⟨rfl, H8.out.2⟩
set_option maxHeartbeats 2000000 in
set_option maxRecDepth 100000 in
theorem Append_full (d : Nat) (s : ByteArray) (q : Pt8) (mb rb L : Nat) (kk : Int) (hL : 64 ≤ L) (I0 : World → Prop) (I1 : World → Prop) (w : World) (h0 : I0 w) (s0z : ∀ u u', I0 u → Below u.heap.size u u' → I0 u') (s1z : ∀ u u', I1 u → Below u.heap.size u u' → I1 u') (hcoz : ∀ u, I0 u → Calls Try.prog 66 #[PT d 0] u fun e u' => e = .returned (.int .i64 0) ∧ I1 u') (hnmz : ∀ u, I1 u → Calls Try.prog 67 #[.string s] u fun e u' => e = .returned (.bool true) ∧ Below u.heap.size u u') (hmdz : ∀ u, I1 u → Mm u [(d, [Value.map (some mb), Value.map (some rb), Value.int .i64 kk])]) (hlkz : ∀ u, I1 u → (Instr.lookup 39 (.map (some mb)) (.string s) false).run Try.prog u = .ok (.pointer none) u) (hlnz : ∀ u, I1 u → ∀ ty, (Builtin.len_ #[39] ty #[.map (some mb)]).run Try.prog u = .ok (.int .i64 ((L : Nat) : Int)) u) :
    Calls Try.prog 19 #[PT d 0, .string s, .slice q.p q.n q.cp] w fun e w' => e = .returned (.int .i64 8) ∧ I1 w' := by
  have H0 : Hid (_ ∧ _) := ⟨Mm.nil w, h0⟩
  have s0 : Hid _ := s0z
  have s1 : Hid _ := s1z
  have hco : Hid _ := hcoz
  have hnm : Hid _ := hnmz
  have hmd : Hid _ := hmdz
  have hlk : Hid _ := hlkz
  have hln : Hid _ := hlnz
  clear h0 s0z s1z hcoz hnmz hmdz hlkz hlnz
  go_enter Try.func19, Try.ntmps19
  refine wp_seq ?_
  refine sq_startW (l := [0]) rfl (fun u0 hu0 => ?_)
  have H1 : Hid (Mm u0 [] ∧ I0 u0) := by rw [hu0]; exact H0
  clear hu0 H0
  refine rest_set (d := 6) (v := .int .i64 0) (w' := u0) rfl rfl rfl (rfl) ?_
  simp only [Act.put, sa, sz, ss]
  refine rest_nil (then_normal ?_)
  refine wp_seq (wp_seq ?_)
  refine sq_start (l := [0, 1, 2]) rfl ?_
  refine rest_set (d := 9) (v := PT d 0) (w' := u0) rfl rfl rfl (rfl) ?_
  simp only [Act.put, sa, sz, ss]
  refine rest_enter (d := 10) (R := fun vv w' => vv = .int .i64 0 ∧ I1 w') rfl rfl rfl (exec_call (args := #[PT d 0]) rfl call66 rfl (mpn rfl)) (Calls.mono (hco.out u0 H1.out.2) (fun e w2 hh => ⟨_, hh.1, rfl, hh.2⟩)) ?_
  rintro _ w2 ⟨rfl, hI⟩
  have H2 : Hid (Mm w2 [] ∧ I1 w2) := ⟨Mm.nil _, hI⟩
  clear hI H1
  simp only [Act.put, sa, sz, ss]
  refine rest_set (d := 7) (v := .int .i64 0) (w' := w2) rfl rfl rfl (rfl) ?_
  simp only [Act.put, sa, sz, ss]
  refine rest_nil (then_normal (wp_seq ?_))
  refine sq_start (l := [0, 1]) rfl ?_
  refine rest_set (d := 11) (v := .int .i64 0) (w' := w2) rfl rfl rfl (rfl) ?_
  simp only [Act.put, sa, sz, ss]
  refine rest_set (d := 12) (v := .bool false) (w' := w2) rfl rfl rfl (by kernel_rfl) ?_
  simp only [Act.put, sa, sz, ss]
  refine rest_nil (then_normal ?_)
  refine wp_cond_false rfl (wp_skip ?_)
  refine then_normal (wp_seq (wp_seq ?_))
  refine sq_start (l := [0, 1, 2]) rfl ?_
  refine rest_set (d := 14) (v := .string s) (w' := w2) rfl rfl rfl (rfl) ?_
  simp only [Act.put, sa, sz, ss]
  refine rest_enter (d := 15) (R := fun vv w' => vv = .bool true ∧ Below w2.heap.size w2 w') rfl rfl rfl (exec_call (args := #[.string s]) rfl call67 rfl (mpn rfl)) (Calls.mono (hnm.out w2 H2.out.2) (fun e w2 hh => ⟨_, hh.1, rfl, hh.2⟩)) ?_
  rintro _ w3 ⟨rfl, hb⟩
  have H3 : Hid (Mm w3 [] ∧ I1 w3) := ⟨H2.out.1.below hb, s1.out _ _ H2.out.2 (hb)⟩
  clear hb
  clear H2
  simp only [Act.put, sa, sz, ss]
  refine rest_set (d := 16) (v := .bool false) (w' := w3) rfl rfl rfl (by go_simp) ?_
  simp only [Act.put, sa, sz, ss]
  refine rest_nil (then_normal ?_)
  refine wp_cond_false rfl (wp_skip ?_)
  refine then_normal (wp_seq ?_)
  refine sq_start (l := [0, 1, 2, 3, 4, 5, 6]) rfl ?_
  refine rest_set (d := 17) (v := PT d 0) (w' := w3) rfl rfl rfl (rfl) ?_
  simp only [Act.put, sa, sz, ss]
  refine rest_set (d := 18) (v := PT d 0) (w' := w3) rfl rfl rfl (by go_simp) ?_
  simp only [Act.put, sa, sz, ss]
  refine rest_set (d := 19) (v := PT d 0) (w' := w3) rfl rfl rfl (by go_simp) ?_
  simp only [Act.put, sa, sz, ss]
  refine rest_set (d := 20) (v := .map (some mb)) (w' := w3) rfl rfl rfl (ex_loadC (hmd.out w3 H3.out.2) 0 rfl rfl rfl Try.isAgg39 rfl) ?_
  simp only [Act.put, sa, sz, ss]
  refine rest_set (d := 21) (v := .string s) (w' := w3) rfl rfl rfl (rfl) ?_
  simp only [Act.put, sa, sz, ss]
  refine rest_set (d := 22) (v := .pointer none) (w' := w3) rfl rfl rfl (ex_lkp (hlk.out w3 H3.out.2) rfl rfl rfl) ?_
  simp only [Act.put, sa, sz, ss]
  refine rest_set (d := 8) (v := .pointer none) (w' := w3) rfl rfl rfl (rfl) ?_
  simp only [Act.put, sa, sz, ss]
  refine rest_nil (then_normal ?_)
  refine wp_seq (wp_seq ?_)
  refine sq_start (l := [0, 1]) rfl ?_
  refine rest_set (d := 23) (v := .pointer none) (w' := w3) rfl rfl rfl (rfl) ?_
  simp only [Act.put, sa, sz, ss]
  refine rest_set (d := 24) (v := .bool true) (w' := w3) rfl rfl rfl (by kernel_rfl) ?_
  simp only [Act.put, sa, sz, ss]
  refine rest_nil (then_normal ?_)
  refine wp_cond_true rfl (wp_seq (wp_seq ?_))
  refine sq_start (l := [0, 1, 2, 3, 4, 5]) rfl ?_
  refine rest_set (d := 25) (v := PT d 0) (w' := w3) rfl rfl rfl (rfl) ?_
  simp only [Act.put, sa, sz, ss]
  refine rest_set (d := 26) (v := PT d 0) (w' := w3) rfl rfl rfl (by go_simp) ?_
  simp only [Act.put, sa, sz, ss]
  refine rest_set (d := 27) (v := PT d 0) (w' := w3) rfl rfl rfl (by go_simp) ?_
  simp only [Act.put, sa, sz, ss]
  refine rest_set (d := 28) (v := .map (some mb)) (w' := w3) rfl rfl rfl (ex_loadC (hmd.out w3 H3.out.2) 0 rfl rfl rfl Try.isAgg39 rfl) ?_
  simp only [Act.put, sa, sz, ss]
  refine rest_set (d := 29) (v := .int .i64 ((L : Nat) : Int)) (w' := w3) rfl rfl rfl (ex_lnm (hln.out w3 H3.out.2) rfl rfl) ?_
  simp only [Act.put, sa, sz, ss]
  refine rest_set (d := 30) (v := .bool true) (w' := w3) rfl rfl rfl (by go_simp <;> omega) ?_
  simp only [Act.put, sa, sz, ss]
  refine rest_nil (then_normal ?_)
  refine wp_cond_true rfl (wp_seq ?_)
  refine sq_start (l := [0]) rfl ?_
  refine rest_set (d := 6) (v := .int .i64 8) (w' := w3) rfl rfl rfl (rfl) ?_
  simp only [Act.put, sa, sz, ss]
  refine rest_nil (then_normal (wp_ret ?_))
  repeat (first | refine then_ret ?_ | refine block_ret ?_)
  refine bodyPost_ret (v := .int .i64 8) (by simp [results, Try.results19, go_sem, *]) rfl ?_
  exact ⟨rfl, H3.out.2⟩
end Wi
end Rg
end Go.Proofs.Ytidicdlfjdlpnaa
end
section
namespace Go.Proofs.Ytidicdlfjdlpnaa
open Go.RowKit
namespace Rg
namespace Wi
set_option maxRecDepth 100000
set_option maxHeartbeats 2000000 in
set_option maxRecDepth 100000 in
theorem Append_newlong (d mb rb L N : Nat) (s : ByteArray) (q : Pt8) (kk : Int) (hL64 : L < 64) (hN : N ≤ 1048576) (hq : q.n ≤ 281474976710656) (hL : 1048576 < N + q.n) (I0 I1 : World → Prop) (I5 : Nat → World → Prop) (w : World) (h0 : I0 w) (s0z : ∀ u u', I0 u → Below u.heap.size u u' → I0 u') (s1z : ∀ u u', I1 u → Below u.heap.size u u' → I1 u') (s5z : ∀ g u u', I5 g u → Below u.heap.size u u' → I5 g u') (hcoz : ∀ u, I0 u → Calls Try.prog 66 #[PT d 0] u fun e u' => e = .returned (.int .i64 0) ∧ I1 u') (hnmz : ∀ u, I1 u → Calls Try.prog 67 #[.string s] u fun e u' => e = .returned (.bool true) ∧ Below u.heap.size u u') (hmdz : ∀ u, I1 u → Mm u [(d, [Value.map (some mb), Value.map (some rb), Value.int .i64 kk])]) (hlkz : ∀ u, I1 u → (Instr.lookup 39 (.map (some mb)) (.string s) false).run Try.prog u = .ok (.pointer none) u) (hlnz : ∀ u, I1 u → ∀ ty, (Builtin.len_ #[39] ty #[.map (some mb)]).run Try.prog u = .ok (.int .i64 ((L : Nat) : Int)) u) (hbxz : ∀ u, I1 u → I5 u.heap.size (u.alloc (.cells ([Value.slice none 0 0, Value.slice none 0 0, Value.bool true] : List Value).toArray 117))) (hszz : ∀ g u, I5 g u → Calls Try.prog 68 #[PT g 0] u fun e u' => e = .returned (.int .i64 ((N : Nat) : Int)) ∧ Below u.heap.size u u') :
    Calls Try.prog 19 #[PT d 0, .string s, .slice q.p q.n q.cp] w fun e w' => e = .returned (.int .i64 3) ∧ ∃ g, I5 g w' := by
  have H0 : Hid (_ ∧ _) := ⟨Mm.nil w, h0⟩
  have s0 : Hid _ := s0z
  have s1 : Hid _ := s1z
  have s5 : Hid _ := s5z
  have hco : Hid _ := hcoz
  have hnm : Hid _ := hnmz
  have hmd : Hid _ := hmdz
  have hlk : Hid _ := hlkz
  have hln : Hid _ := hlnz
  have hbx : Hid _ := hbxz
  have hsz : Hid _ := hszz
  clear h0 s0z s1z s5z hcoz hnmz hmdz hlkz hlnz hbxz hszz
  go_enter Try.func19, Try.ntmps19
  refine wp_seq ?_
  refine sq_startW (l := [0]) rfl (fun u0 hu0 => ?_)
  have H1 : Hid (Mm u0 [] ∧ I0 u0) := by rw [hu0]; exact H0
  clear hu0 H0
  refine rest_set (d := 6) (v := .int .i64 0) (w' := u0) rfl rfl rfl (rfl) ?_
  simp only [Act.put, sa, sz, ss]
  refine rest_nil (then_normal ?_)
  refine wp_seq (wp_seq ?_)
  refine sq_start (l := [0, 1, 2]) rfl ?_
  refine rest_set (d := 9) (v := PT d 0) (w' := u0) rfl rfl rfl (rfl) ?_
  simp only [Act.put, sa, sz, ss]
  refine rest_enter (d := 10) (R := fun vv w' => vv = .int .i64 0 ∧ I1 w') rfl rfl rfl (exec_call (args := #[PT d 0]) rfl call66 rfl (mpn rfl)) (Calls.mono (hco.out u0 H1.out.2) (fun e w2 hh => ⟨_, hh.1, rfl, hh.2⟩)) ?_
  rintro _ w2 ⟨rfl, hI⟩
  have H2 : Hid (Mm w2 [] ∧ I1 w2) := ⟨Mm.nil _, hI⟩
  clear hI H1
  simp only [Act.put, sa, sz, ss]
  refine rest_set (d := 7) (v := .int .i64 0) (w' := w2) rfl rfl rfl (rfl) ?_
  simp only [Act.put, sa, sz, ss]
  refine rest_nil (then_normal (wp_seq ?_))
  refine sq_start (l := [0, 1]) rfl ?_
  refine rest_set (d := 11) (v := .int .i64 0) (w' := w2) rfl rfl rfl (rfl) ?_
  simp only [Act.put, sa, sz, ss]
  refine rest_set (d := 12) (v := .bool false) (w' := w2) rfl rfl rfl (by kernel_rfl) ?_
  simp only [Act.put, sa, sz, ss]
  refine rest_nil (then_normal ?_)
  refine wp_cond_false rfl (wp_skip ?_)
  refine then_normal (wp_seq (wp_seq ?_))
  refine sq_start (l := [0, 1, 2]) rfl ?_
  refine rest_set (d := 14) (v := .string s) (w' := w2) rfl rfl rfl (rfl) ?_
  simp only [Act.put, sa, sz, ss]
  refine rest_enter (d := 15) (R := fun vv w' => vv = .bool true ∧ Below w2.heap.size w2 w') rfl rfl rfl (exec_call (args := #[.string s]) rfl call67 rfl (mpn rfl)) (Calls.mono (hnm.out w2 H2.out.2) (fun e w2 hh => ⟨_, hh.1, rfl, hh.2⟩)) ?_
  rintro _ w3 ⟨rfl, hb⟩
  have H3 : Hid (Mm w3 [] ∧ I1 w3) := ⟨H2.out.1.below hb, s1.out _ _ H2.out.2 (hb)⟩
  clear hb
  clear H2
  simp only [Act.put, sa, sz, ss]
  refine rest_set (d := 16) (v := .bool false) (w' := w3) rfl rfl rfl (by go_simp) ?_
  simp only [Act.put, sa, sz, ss]
  refine rest_nil (then_normal ?_)
  refine wp_cond_false rfl (wp_skip ?_)
  refine then_normal (wp_seq ?_)
  refine sq_start (l := [0, 1, 2, 3, 4, 5, 6]) rfl ?_
  refine rest_set (d := 17) (v := PT d 0) (w' := w3) rfl rfl rfl (rfl) ?_
  simp only [Act.put, sa, sz, ss]
  refine rest_set (d := 18) (v := PT d 0) (w' := w3) rfl rfl rfl (by go_simp) ?_
  simp only [Act.put, sa, sz, ss]
  refine rest_set (d := 19) (v := PT d 0) (w' := w3) rfl rfl rfl (by go_simp) ?_
  simp only [Act.put, sa, sz, ss]
  refine rest_set (d := 20) (v := .map (some mb)) (w' := w3) rfl rfl rfl (ex_loadC (hmd.out w3 H3.out.2) 0 rfl rfl rfl Try.isAgg39 rfl) ?_
  simp only [Act.put, sa, sz, ss]
  refine rest_set (d := 21) (v := .string s) (w' := w3) rfl rfl rfl (rfl) ?_
  simp only [Act.put, sa, sz, ss]
  refine rest_set (d := 22) (v := .pointer none) (w' := w3) rfl rfl rfl (ex_lkp (hlk.out w3 H3.out.2) rfl rfl rfl) ?_
  simp only [Act.put, sa, sz, ss]
  refine rest_set (d := 8) (v := .pointer none) (w' := w3) rfl rfl rfl (rfl) ?_
  simp only [Act.put, sa, sz, ss]
  refine rest_nil (then_normal ?_)
  refine wp_seq (wp_seq ?_)
  refine sq_start (l := [0, 1]) rfl ?_
  refine rest_set (d := 23) (v := .pointer none) (w' := w3) rfl rfl rfl (rfl) ?_
  simp only [Act.put, sa, sz, ss]
  refine rest_set (d := 24) (v := .bool true) (w' := w3) rfl rfl rfl (by kernel_rfl) ?_
  simp only [Act.put, sa, sz, ss]
  refine rest_nil (then_normal ?_)
  refine wp_cond_true rfl (wp_seq (wp_seq ?_))
  refine sq_start (l := [0, 1, 2, 3, 4, 5]) rfl ?_
  refine rest_set (d := 25) (v := PT d 0) (w' := w3) rfl rfl rfl (rfl) ?_
  simp only [Act.put, sa, sz, ss]
  refine rest_set (d := 26) (v := PT d 0) (w' := w3) rfl rfl rfl (by go_simp) ?_
  simp only [Act.put, sa, sz, ss]
  refine rest_set (d := 27) (v := PT d 0) (w' := w3) rfl rfl rfl (by go_simp) ?_
  simp only [Act.put, sa, sz, ss]
  refine rest_set (d := 28) (v := .map (some mb)) (w' := w3) rfl rfl rfl (ex_loadC (hmd.out w3 H3.out.2) 0 rfl rfl rfl Try.isAgg39 rfl) ?_
  simp only [Act.put, sa, sz, ss]
  refine rest_set (d := 29) (v := .int .i64 ((L : Nat) : Int)) (w' := w3) rfl rfl rfl (ex_lnm (hln.out w3 H3.out.2) rfl rfl) ?_
  simp only [Act.put, sa, sz, ss]
  refine rest_set (d := 30) (v := .bool false) (w' := w3) rfl rfl rfl (by go_simp <;> omega) ?_
  simp only [Act.put, sa, sz, ss]
  refine rest_nil (then_normal ?_)
  refine wp_cond_false rfl (wp_skip (then_normal ?_))
  refine sq_start (l := [0, 1, 2]) rfl ?_
  refine rest_set (d := 31) (v := .agg ([Value.slice none 0 0, Value.slice none 0 0, Value.bool true]).toArray) (w' := w3) rfl rfl rfl (by kernel_rfl) ?_
  simp only [Act.put, sa, sz, ss]
  refine rest_set (d := 32) (v := PT w3.heap.size 0) (w' := (w3.alloc (.cells ([Value.slice none 0 0, Value.slice none 0 0, Value.bool true] : List Value).toArray 117))) rfl rfl rfl (ex_boxT rfl rfl) ?_
  simp only [Act.put, sa, sz, ss]
  have H4 : Hid (Mm (w3.alloc (.cells ([Value.slice none 0 0, Value.slice none 0 0, Value.bool true] : List Value).toArray 117)) [] ∧ I5 w3.heap.size (w3.alloc (.cells ([Value.slice none 0 0, Value.slice none 0 0, Value.bool true] : List Value).toArray 117))) := ⟨Mm.nil _, hbx.out w3 H3.out.2⟩
  clear H3
  generalize hgw : w3.alloc (.cells ([Value.slice none 0 0, Value.slice none 0 0, Value.bool true] : List Value).toArray 117) = w4 at H4 ⊢
  clear hgw
  generalize w3.heap.size = g at H4 ⊢
  refine rest_set (d := 8) (v := PT g 0) (w' := w4) rfl rfl rfl (rfl) ?_
  simp only [Act.put, sa, sz, ss]
  refine rest_nil (then_normal ?_)
  refine wp_seq (wp_seq ?_)
  refine sq_start (l := [0, 1, 2, 3, 4, 5]) rfl ?_
  refine rest_set (d := 33) (v := PT g 0) (w' := w4) rfl rfl rfl (rfl) ?_
  simp only [Act.put, sa, sz, ss]
  refine rest_enter (d := 34) (R := fun vv w' => vv = .int .i64 ((N : Nat) : Int) ∧ Below w4.heap.size w4 w') rfl rfl rfl (exec_call (args := #[PT g 0]) rfl call68 rfl (mpn rfl)) (Calls.mono (hsz.out g w4 H4.out.2) (fun e w2 hh => ⟨_, hh.1, rfl, hh.2⟩)) ?_
  rintro _ w5 ⟨rfl, hb⟩
  have H5 : Hid (Mm w5 [] ∧ I5 g w5) := ⟨H4.out.1.below hb, s5.out g _ _ H4.out.2 (hb)⟩
  clear hb
  clear H4
  simp only [Act.put, sa, sz, ss]
  refine rest_set (d := 35) (v := .slice q.p q.n q.cp) (w' := w5) rfl rfl rfl (rfl) ?_
  simp only [Act.put, sa, sz, ss]
  refine rest_set (d := 36) (v := .int .i64 ((q.n : Nat) : Int)) (w' := w5) rfl rfl rfl (by go_simp) ?_
  simp only [Act.put, sa, sz, ss]
  refine rest_set (d := 37) (v := .int .i64 ((N + q.n : Nat) : Int)) (w' := w5) rfl rfl rfl (by go_simp; rw [IntKind.wrap_i64]; omega) ?_
  simp only [Act.put, sa, sz, ss]
  refine rest_set (d := 38) (v := .bool true) (w' := w5) rfl rfl rfl (by go_simp <;> omega) ?_
  simp only [Act.put, sa, sz, ss]
  refine rest_nil (then_normal ?_)
  refine wp_cond_true rfl (wp_seq ?_)
  refine sq_start (l := [0]) rfl ?_
  refine rest_set (d := 6) (v := .int .i64 3) (w' := w5) rfl rfl rfl (rfl) ?_
  simp only [Act.put, sa, sz, ss]
  refine rest_nil (then_normal (wp_ret ?_))
  repeat (first | refine then_ret ?_ | refine block_ret ?_)
  refine bodyPost_ret (v := .int .i64 3) (by simp [results, Try.results19, go_sem, *]) rfl ?_
  exact ⟨rfl, g, H5.out.2⟩
set_option maxHeartbeats 2000000 in
set_option maxRecDepth 100000 in
theorem Append_new (d mb rb L N : Nat) (s : ByteArray) (q : Pt8) (kk : Int) (hL64 : L < 64) (hN : N ≤ 1048576) (hq : q.n ≤ 281474976710656) (hL : N + q.n ≤ 1048576) (I0 I1 : World → Prop) (I5 : Nat → World → Prop) (I2 : Nat → Pt8 → World → Prop) (I3 : Nat → World → Prop) (I4 : World → Prop) (w : World) (h0 : I0 w) (s0z : ∀ u u', I0 u → Below u.heap.size u u' → I0 u') (s1z : ∀ u u', I1 u → Below u.heap.size u u' → I1 u') (s5z : ∀ g u u', I5 g u → Below u.heap.size u u' → I5 g u') (hcoz : ∀ u, I0 u → Calls Try.prog 66 #[PT d 0] u fun e u' => e = .returned (.int .i64 0) ∧ I1 u') (hnmz : ∀ u, I1 u → Calls Try.prog 67 #[.string s] u fun e u' => e = .returned (.bool true) ∧ Below u.heap.size u u') (hmdz : ∀ u, I1 u → Mm u [(d, [Value.map (some mb), Value.map (some rb), Value.int .i64 kk])]) (hlkz : ∀ u, I1 u → (Instr.lookup 39 (.map (some mb)) (.string s) false).run Try.prog u = .ok (.pointer none) u) (hlnz : ∀ u, I1 u → ∀ ty, (Builtin.len_ #[39] ty #[.map (some mb)]).run Try.prog u = .ok (.int .i64 ((L : Nat) : Int)) u) (hbxz : ∀ u, I1 u → I5 u.heap.size (u.alloc (.cells ([Value.slice none 0 0, Value.slice none 0 0, Value.bool true] : List Value).toArray 117))) (hszz : ∀ g u, I5 g u → Calls Try.prog 68 #[PT g 0] u fun e u' => e = .returned (.int .i64 ((N : Nat) : Int)) ∧ Below u.heap.size u u') (s2z : ∀ g q2 u u', I2 g q2 u → Below u.heap.size u u' → I2 g q2 u') (s3z : ∀ g u u', I3 g u → Below u.heap.size u u' → I3 g u') (s4z : ∀ u u', I4 u → Below u.heap.size u u' → I4 u') (hclz : ∀ g u, I5 g u → Calls Try.prog 70 #[.slice q.p q.n q.cp] u fun e u' => ∃ q2 : Pt8, e = .returned (.slice q2.p q2.n q2.cp) ∧ I2 g q2 u') (hbgz : ∀ g q2 u, I2 g q2 u → Calls Try.prog 69 #[PT g 0, .agg ([.int .i64 ((N : Nat) : Int), .slice q2.p q2.n q2.cp] : List Value).toArray] u fun e u' => e = .returned (.tuple #[]) ∧ I3 g u') (hptz : ∀ g u, I3 g u → Calls Try.prog 71 #[PT d 0, .string s, PT g 0] u fun e u' => e = .returned (.tuple #[]) ∧ I4 u') :
    Calls Try.prog 19 #[PT d 0, .string s, .slice q.p q.n q.cp] w fun e w' => e = .returned (.int .i64 0) ∧ I4 w' := by
  have H0 : Hid (_ ∧ _) := ⟨Mm.nil w, h0⟩
  have s0 : Hid _ := s0z
  have s1 : Hid _ := s1z
  have s5 : Hid _ := s5z
  have hco : Hid _ := hcoz
  have hnm : Hid _ := hnmz
  have hmd : Hid _ := hmdz
  have hlk : Hid _ := hlkz
  have hln : Hid _ := hlnz
  have hbx : Hid _ := hbxz
  have hsz : Hid _ := hszz
  have s2 : Hid _ := s2z
  have s3 : Hid _ := s3z
  have s4 : Hid _ := s4z
  have hcl : Hid _ := hclz
  have hbg : Hid _ := hbgz
  have hpt : Hid _ := hptz
  clear h0 s0z s1z s5z hcoz hnmz hmdz hlkz hlnz hbxz hszz s2z s3z s4z hclz hbgz hptz
  go_enter Try.func19, Try.ntmps19
  refine wp_seq ?_
  refine sq_startW (l := [0]) rfl (fun u0 hu0 => ?_)
  have H1 : Hid (Mm u0 [] ∧ I0 u0) := by rw [hu0]; exact H0
  clear hu0 H0
  refine rest_set (d := 6) (v := .int .i64 0) (w' := u0) rfl rfl rfl (rfl) ?_
  simp only [Act.put, sa, sz, ss]
  refine rest_nil (then_normal ?_)
  refine wp_seq (wp_seq ?_)
  refine sq_start (l := [0, 1, 2]) rfl ?_
  refine rest_set (d := 9) (v := PT d 0) (w' := u0) rfl rfl rfl (rfl) ?_
  simp only [Act.put, sa, sz, ss]
  refine rest_enter (d := 10) (R := fun vv w' => vv = .int .i64 0 ∧ I1 w') rfl rfl rfl (exec_call (args := #[PT d 0]) rfl call66 rfl (mpn rfl)) (Calls.mono (hco.out u0 H1.out.2) (fun e w2 hh => ⟨_, hh.1, rfl, hh.2⟩)) ?_
  rintro _ w2 ⟨rfl, hI⟩
  have H2 : Hid (Mm w2 [] ∧ I1 w2) := ⟨Mm.nil _, hI⟩
  clear hI H1
  simp only [Act.put, sa, sz, ss]
  refine rest_set (d := 7) (v := .int .i64 0) (w' := w2) rfl rfl rfl (rfl) ?_
  simp only [Act.put, sa, sz, ss]
  refine rest_nil (then_normal (wp_seq ?_))
  refine sq_start (l := [0, 1]) rfl ?_
  refine rest_set (d := 11) (v := .int .i64 0) (w' := w2) rfl rfl rfl (rfl) ?_
  simp only [Act.put, sa, sz, ss]
  refine rest_set (d := 12) (v := .bool false) (w' := w2) rfl rfl rfl (by kernel_rfl) ?_
  simp only [Act.put, sa, sz, ss]
  refine rest_nil (then_normal ?_)
  refine wp_cond_false rfl (wp_skip ?_)
  refine then_normal (wp_seq (wp_seq ?_))
  refine sq_start (l := [0, 1, 2]) rfl ?_
  refine rest_set (d := 14) (v := .string s) (w' := w2) rfl rfl rfl (rfl) ?_
  simp only [Act.put, sa, sz, ss]
  refine rest_enter (d := 15) (R := fun vv w' => vv = .bool true ∧ Below w2.heap.size w2 w') rfl rfl rfl (exec_call (args := #[.string s]) rfl call67 rfl (mpn rfl)) (Calls.mono (hnm.out w2 H2.out.2) (fun e w2 hh => ⟨_, hh.1, rfl, hh.2⟩)) ?_
  rintro _ w3 ⟨rfl, hb⟩
  have H3 : Hid (Mm w3 [] ∧ I1 w3) := ⟨H2.out.1.below hb, s1.out _ _ H2.out.2 (hb)⟩
  clear hb
  clear H2
  simp only [Act.put, sa, sz, ss]
  refine rest_set (d := 16) (v := .bool false) (w' := w3) rfl rfl rfl (by go_simp) ?_
  simp only [Act.put, sa, sz, ss]
  refine rest_nil (then_normal ?_)
  refine wp_cond_false rfl (wp_skip ?_)
  refine then_normal (wp_seq ?_)
  refine sq_start (l := [0, 1, 2, 3, 4, 5, 6]) rfl ?_
  refine rest_set (d := 17) (v := PT d 0) (w' := w3) rfl rfl rfl (rfl) ?_
  simp only [Act.put, sa, sz, ss]
  refine rest_set (d := 18) (v := PT d 0) (w' := w3) rfl rfl rfl (by go_simp) ?_
  simp only [Act.put, sa, sz, ss]
  refine rest_set (d := 19) (v := PT d 0) (w' := w3) rfl rfl rfl (by go_simp) ?_
  simp only [Act.put, sa, sz, ss]
  refine rest_set (d := 20) (v := .map (some mb)) (w' := w3) rfl rfl rfl (ex_loadC (hmd.out w3 H3.out.2) 0 rfl rfl rfl Try.isAgg39 rfl) ?_
  simp only [Act.put, sa, sz, ss]
  refine rest_set (d := 21) (v := .string s) (w' := w3) rfl rfl rfl (rfl) ?_
  simp only [Act.put, sa, sz, ss]
  refine rest_set (d := 22) (v := .pointer none) (w' := w3) rfl rfl rfl (ex_lkp (hlk.out w3 H3.out.2) rfl rfl rfl) ?_
  simp only [Act.put, sa, sz, ss]
  refine rest_set (d := 8) (v := .pointer none) (w' := w3) rfl rfl rfl (rfl) ?_
  simp only [Act.put, sa, sz, ss]
  refine rest_nil (then_normal ?_)
  refine wp_seq (wp_seq ?_)
  refine sq_start (l := [0, 1]) rfl ?_
  refine rest_set (d := 23) (v := .pointer none) (w' := w3) rfl rfl rfl (rfl) ?_
  simp only [Act.put, sa, sz, ss]
  refine rest_set (d := 24) (v := .bool true) (w' := w3) rfl rfl rfl (by kernel_rfl) ?_
  simp only [Act.put, sa, sz, ss]
  refine rest_nil (then_normal ?_)
  refine wp_cond_true rfl (wp_seq (wp_seq ?_))
  refine sq_start (l := [0, 1, 2, 3, 4, 5]) rfl ?_
  refine rest_set (d := 25) (v := PT d 0) (w' := w3) rfl rfl rfl (rfl) ?_
  simp only [Act.put, sa, sz, ss]
  refine rest_set (d := 26) (v := PT d 0) (w' := w3) rfl rfl rfl (by go_simp) ?_
  simp only [Act.put, sa, sz, ss]
  refine rest_set (d := 27) (v := PT d 0) (w' := w3) rfl rfl rfl (by go_simp) ?_
  simp only [Act.put, sa, sz, ss]
  refine rest_set (d := 28) (v := .map (some mb)) (w' := w3) rfl rfl rfl (ex_loadC (hmd.out w3 H3.out.2) 0 rfl rfl rfl Try.isAgg39 rfl) ?_
  simp only [Act.put, sa, sz, ss]
  refine rest_set (d := 29) (v := .int .i64 ((L : Nat) : Int)) (w' := w3) rfl rfl rfl (ex_lnm (hln.out w3 H3.out.2) rfl rfl) ?_
  simp only [Act.put, sa, sz, ss]
  refine rest_set (d := 30) (v := .bool false) (w' := w3) rfl rfl rfl (by go_simp <;> omega) ?_
  simp only [Act.put, sa, sz, ss]
  refine rest_nil (then_normal ?_)
  refine wp_cond_false rfl (wp_skip (then_normal ?_))
  refine sq_start (l := [0, 1, 2]) rfl ?_
  refine rest_set (d := 31) (v := .agg ([Value.slice none 0 0, Value.slice none 0 0, Value.bool true]).toArray) (w' := w3) rfl rfl rfl (by kernel_rfl) ?_
  simp only [Act.put, sa, sz, ss]
  refine rest_set (d := 32) (v := PT w3.heap.size 0) (w' := (w3.alloc (.cells ([Value.slice none 0 0, Value.slice none 0 0, Value.bool true] : List Value).toArray 117))) rfl rfl rfl (ex_boxT rfl rfl) ?_
  simp only [Act.put, sa, sz, ss]
  have H4 : Hid (Mm (w3.alloc (.cells ([Value.slice none 0 0, Value.slice none 0 0, Value.bool true] : List Value).toArray 117)) [] ∧ I5 w3.heap.size (w3.alloc (.cells ([Value.slice none 0 0, Value.slice none 0 0, Value.bool true] : List Value).toArray 117))) := ⟨Mm.nil _, hbx.out w3 H3.out.2⟩
  clear H3
  generalize hgw : w3.alloc (.cells ([Value.slice none 0 0, Value.slice none 0 0, Value.bool true] : List Value).toArray 117) = w4 at H4 ⊢
  clear hgw
  generalize w3.heap.size = g at H4 ⊢
  refine rest_set (d := 8) (v := PT g 0) (w' := w4) rfl rfl rfl (rfl) ?_
  simp only [Act.put, sa, sz, ss]
  refine rest_nil (then_normal ?_)
  refine wp_seq (wp_seq ?_)
  refine sq_start (l := [0, 1, 2, 3, 4, 5]) rfl ?_
  refine rest_set (d := 33) (v := PT g 0) (w' := w4) rfl rfl rfl (rfl) ?_
  simp only [Act.put, sa, sz, ss]
  refine rest_enter (d := 34) (R := fun vv w' => vv = .int .i64 ((N : Nat) : Int) ∧ Below w4.heap.size w4 w') rfl rfl rfl (exec_call (args := #[PT g 0]) rfl call68 rfl (mpn rfl)) (Calls.mono (hsz.out g w4 H4.out.2) (fun e w2 hh => ⟨_, hh.1, rfl, hh.2⟩)) ?_
  rintro _ w5 ⟨rfl, hb⟩
  have H5 : Hid (Mm w5 [] ∧ I5 g w5) := ⟨H4.out.1.below hb, s5.out g _ _ H4.out.2 (hb)⟩
  clear hb
  clear H4
  simp only [Act.put, sa, sz, ss]
  refine rest_set (d := 35) (v := .slice q.p q.n q.cp) (w' := w5) rfl rfl rfl (rfl) ?_
  simp only [Act.put, sa, sz, ss]
  refine rest_set (d := 36) (v := .int .i64 ((q.n : Nat) : Int)) (w' := w5) rfl rfl rfl (by go_simp) ?_
  simp only [Act.put, sa, sz, ss]
  refine rest_set (d := 37) (v := .int .i64 ((N + q.n : Nat) : Int)) (w' := w5) rfl rfl rfl (by go_simp; rw [IntKind.wrap_i64]; omega) ?_
  simp only [Act.put, sa, sz, ss]
  refine rest_set (d := 38) (v := .bool false) (w' := w5) rfl rfl rfl (by go_simp <;> omega) ?_
  simp only [Act.put, sa, sz, ss]
  refine rest_nil (then_normal ?_)
  refine wp_cond_false rfl (wp_skip ?_)
  refine then_normal (wp_seq ?_)
  refine sq_start (l := [0, 1, 2, 3, 4, 5, 6]) rfl ?_
  refine rest_set (d := 39) (v := PT g 0) (w' := w5) rfl rfl rfl (rfl) ?_
  simp only [Act.put, sa, sz, ss]
  refine rest_set (d := 40) (v := PT g 0) (w' := w5) rfl rfl rfl (rfl) ?_
  simp only [Act.put, sa, sz, ss]
  refine rest_enter (d := 41) (R := fun vv w' => vv = .int .i64 ((N : Nat) : Int) ∧ Below w5.heap.size w5 w') rfl rfl rfl (exec_call (args := #[PT g 0]) rfl call68 rfl (mpn rfl)) (Calls.mono (hsz.out g w5 H5.out.2) (fun e w2 hh => ⟨_, hh.1, rfl, hh.2⟩)) ?_
  rintro _ w6 ⟨rfl, hb⟩
  have H6 : Hid (Mm w6 [] ∧ I5 g w6) := ⟨H5.out.1.below hb, s5.out g _ _ H5.out.2 (hb)⟩
  clear hb
  clear H5
  simp only [Act.put, sa, sz, ss]
  refine rest_set (d := 42) (v := .slice q.p q.n q.cp) (w' := w6) rfl rfl rfl (rfl) ?_
  simp only [Act.put, sa, sz, ss]
  refine rest_enter (d := 43) (R := fun vv w' => ∃ q2 : Pt8, vv = .slice q2.p q2.n q2.cp ∧ I2 g q2 w') rfl rfl rfl (exec_call (args := #[.slice q.p q.n q.cp]) rfl call70 rfl (mpn rfl)) (Calls.mono (hcl.out g w6 H6.out.2) (fun e w2 hh => by obtain ⟨q2, he, hI⟩ := hh; exact ⟨_, he, q2, rfl, hI⟩)) ?_
  rintro _ w7 ⟨q2, rfl, hI⟩
  have H7 : Hid (Mm w7 [] ∧ I2 g q2 w7) := ⟨Mm.nil _, hI⟩
  clear hI H6
  simp only [Act.put, sa, sz, ss]
  refine rest_set (d := 44) (v := .agg ([Value.int .i64 ((N : Nat) : Int), Value.slice q2.p q2.n q2.cp]).toArray) (w' := w7) rfl rfl rfl (by kernel_rfl) ?_
  simp only [Act.put, sa, sz, ss]
  refine rest_enter (d := 45) (R := fun vv w' => vv = .tuple #[] ∧ I3 g w') rfl rfl rfl (exec_call (args := #[PT g 0, .agg ([Value.int .i64 ((N : Nat) : Int), Value.slice q2.p q2.n q2.cp]).toArray]) rfl call69 rfl (mpn rfl)) (Calls.mono (hbg.out g q2 w7 H7.out.2) (fun e w2 hh => ⟨_, hh.1, rfl, hh.2⟩)) ?_
  rintro _ w8 ⟨rfl, hI⟩
  have H8 : Hid (Mm w8 [] ∧ I3 g w8) := ⟨Mm.nil _, hI⟩
  clear hI H7
  simp only [Act.put, sa, sz, ss]
  refine rest_nil (then_normal (wp_seq ?_))
  refine sq_start (l := [0, 1, 2, 3]) rfl ?_
  refine rest_set (d := 46) (v := PT d 0) (w' := w8) rfl rfl rfl (rfl) ?_
  simp only [Act.put, sa, sz, ss]
  refine rest_set (d := 47) (v := .string s) (w' := w8) rfl rfl rfl (rfl) ?_
  simp only [Act.put, sa, sz, ss]
  refine rest_set (d := 48) (v := PT g 0) (w' := w8) rfl rfl rfl (rfl) ?_
  simp only [Act.put, sa, sz, ss]
  refine rest_enter (d := 49) (R := fun vv w' => vv = .tuple #[] ∧ I4 w') rfl rfl rfl (exec_call (args := #[PT d 0, .string s, PT g 0]) rfl call71 rfl (mpn rfl)) (Calls.mono (hpt.out g w8 H8.out.2) (fun e w2 hh => ⟨_, hh.1, rfl, hh.2⟩)) ?_
  rintro _ w9 ⟨rfl, hI⟩
  have H9 : Hid (Mm w9 [] ∧ I4 w9) := ⟨Mm.nil _, hI⟩
  clear hI H8
  simp only [Act.put, sa, sz, ss]
  refine rest_nil (then_normal (wp_seq ?_))
  refine sq_start (l := [0]) rfl ?_
  refine rest_set (d := 6) (v := .int .i64 0) (w' := w9) rfl rfl rfl (rfl) ?_
  simp only [Act.put, sa, sz, ss]
  refine rest_nil (then_normal (wp_ret ?_))
  repeat (first | refine then_ret ?_ | refine block_ret ?_)
  refine bodyPost_ret (v := .int .i64 0) (by simp [results, Try.results19, go_sem, *]) rfl ?_
  exact ⟨rfl, H9.out.2⟩
end Wi
end Rg
end Go.Proofs.Ytidicdlfjdlpnaa
end
section
namespace Go.Proofs.Ytidicdlfjdlpnaa
open Go.RowKit
namespace Rg
namespace Wi
set_option maxRecDepth 100000
/-- Bytes that may be read, of memory that is not the disk's. -/
def Rq (q : Pt8) (D : Dq) (w : World) : Prop := Pok q ∧ (q.p = none → q.cp = 0) ∧ q.rs w ∧ (0 < q.n → q.gb ∉ D.bl)
theorem Rq.chg {q : Pt8} {D : Dq} {w u : World} (h : Rq q D w) (hc : Chg D.bl w u) : Pok q ∧ (q.p = none → q.cp = 0) ∧ q.rs u := by
  obtain ⟨h1, h2, h3, h4⟩ := h
  refine ⟨h1, h2, fun hn => Nat.lt_of_lt_of_le (h3.lt hn) hc.size, fun i hi => ?_⟩
  rw [hc.cell (p := ⟨q.gb, q.o + i, none⟩) (h3.lt (by omega)) (h4 (by omega))]
  exact h3.at_ i hi
theorem Cw.part {w u : World} {v : Value} {n : Nat} {P : Nat → Nat} (h : Cw w v n P u) : ∃ q : Pt8, v = .slice q.p q.n q.cp ∧ Pok q ∧ (q.p = none → q.cp = 0) ∧ q.n = n ∧ q.f = P ∧ q.rs u ∧ (0 < q.n → w.heap.size ≤ q.gb) := by
  obtain ⟨q, e1, e2, e3, e4, e5, e6, e7⟩ := own_part h.own
  exact ⟨q, e1, e2, e3, e4, e5, e6, fun hn => (World.ownsRow.lt h.own _ (e7 hn)).1⟩
theorem uob_at {o : Uop} {x : Nat} (h : x ∈ uob o) : 0 < o.q.n ∧ x = o.q.gb := by
  unfold uob at h
  split at h
  · simp at h
  · simp at h
    exact ⟨by omega, h⟩
theorem more_bl {f : Fq} {v : Value} {o : Uop} {B : Nat → Prop} (h1 : ∀ x ∈ vbl v, x ∈ f.bl ∨ B x) (h2 : ∀ x ∈ uob o, x ∈ f.bl ∨ B x) : ∀ x ∈ (f.more v o).bl, x ∈ f.bl ∨ B x := fun x hx => by
  unfold Fq.bl Fq.more fbl at hx
  simp only [List.mem_cons, List.mem_append, List.mem_flatMap] at hx
  rcases hx with hx | hx | hx | ⟨p, hp, hx⟩
  · exact .inl (by rw [hx]; exact List.mem_cons_self ..)
  · exact .inl (by unfold Fq.bl fbl; simp [hx])
  · exact h1 x hx
  · rcases hp with hp | hp | hp
    · exact .inl (by unfold Fq.bl fbl; simp only [List.mem_cons, List.mem_append, List.mem_flatMap]; exact .inr (.inr (.inr ⟨p, hp, hx⟩)))
    · subst hp
      exact h2 x hx
    · cases hp
theorem DOk.swapB {w w' : World} {D : Dq} {f f' : Fq} (h : DOk w D) (hf : f ∈ D.fs) (hn : f'.nm = f.nm) (hg : f'.g = f.g) (hF : FOk w' f') (hc : Chg f.bl w w') (hb : ∀ x ∈ f'.bl, x ∈ f.bl ∨ x ∉ D.bl) : DOk w' (D.swap f f') := by
  obtain ⟨X, x1, x2, x3, x4⟩ := h.mp
  obtain ⟨n, Y, y1, y2⟩ := h.rm
  have hsg : ∀ x ∈ D.fs, (swp f f' x).g = x.g := fun x hx => by
    unfold swp
    split
    · rename_i e; rw [hg, nm_inj h.un hx hf e]
    · rfl
  have key : ∀ x ∈ D.fs, (x = f ∧ swp f f' x = f') ∨ (x.nm ≠ f.nm ∧ swp f f' x = x) := fun x hx => by
    by_cases e : x.nm = f.nm
    · exact .inl ⟨nm_inj h.un hx hf e, by unfold swp; rw [if_pos e]⟩
    · exact .inr ⟨e, by unfold swp; rw [if_neg e]⟩
  refine ⟨hc.mm h.cel (fun p hp hm => ?_), ⟨X, (show (D.swap f f').fs.length = D.fs.length from List.length_map ..) ▸ ownMap_keep x1 (hc.block _ x1.lt (fun hm => ((h.hd f hf) _ hm).2.1 rfl)), fun s => ?_, fun s => ?_, ?_⟩, ⟨n, Y, ownMap_keep y1 (hc.block _ y1.lt (fun hm => ((h.hd f hf) _ hm).2.2 rfl)), y2⟩, fun y hy => ?_, fun y hy z hz hne x hx => ?_, fun y hy x hx => ?_, h.h3, ?_, h.k1, by show (D.fs.map (swp f f')).length ≤ 64; rw [List.length_map]; exact h.n64⟩
  · obtain rfl := List.mem_singleton.1 hp
    exact ((h.hd f hf) _ hm).1 rfl
  · rw [x2 s]
    show dv (lk D.fs s) = dv (lk (D.fs.map (swp f f')) s)
    rw [lk_swap hn]
    cases hl : lk D.fs s with
    | none => rfl
    | some x => exact congrArg DataW.held (hsg x (lk_mem hl).1).symm
  · rw [x3 s]
    show (lk D.fs s).isSome = (lk (D.fs.map (swp f f')) s).isSome
    rw [lk_swap hn, Option.isSome_map]
  · rw [x4]
    exact (List.length_map ..).symm
  · obtain ⟨x, hx, rfl⟩ := List.mem_map.1 hy
    rcases key x hx with ⟨_, e⟩ | ⟨e1, e⟩
    · rw [e]; exact hF
    · rw [e]; exact (h.fl x hx).chg hc (h.ap x hx f hf e1)
  · obtain ⟨y0, hy0, rfl⟩ := List.mem_map.1 hy
    obtain ⟨z0, hz0, rfl⟩ := List.mem_map.1 hz
    rw [swp_nm hn, swp_nm hn] at hne
    rcases key y0 hy0 with ⟨a1, a2⟩ | ⟨a1, a2⟩ <;> rcases key z0 hz0 with ⟨b1, b2⟩ | ⟨b1, b2⟩
    · exact absurd (by rw [a1, b1]) hne
    · rw [a2] at hx
      rw [b2]
      rcases hb x hx with e | e
      · exact h.ap f hf z0 hz0 (fun e => b1 e.symm) x e
      · exact fun hm => e (Dq.fbl hz0 x hm)
    · rw [a2] at hx
      rw [b2]
      intro hm
      rcases hb x hm with e | e
      · exact h.ap y0 hy0 f hf a1 x hx e
      · exact e (Dq.fbl hy0 x hx)
    · rw [a2] at hx
      rw [b2]
      exact h.ap y0 hy0 z0 hz0 hne x hx
  · obtain ⟨y0, hy0, rfl⟩ := List.mem_map.1 hy
    rcases key y0 hy0 with ⟨_, a2⟩ | ⟨_, a2⟩
    · rw [a2] at hx
      rcases hb x hx with e | e
      · exact (h.hd f hf) x e
      · unfold Dq.bl at e
        simp only [List.mem_cons, not_or] at e
        exact ⟨e.1, e.2.1, e.2.2.1⟩
    · rw [a2] at hx
      exact (h.hd y0 hy0) x hx
  · show ((D.fs.map (swp f f')).map Fq.nm).Nodup
    rw [List.map_map, show Fq.nm ∘ swp f f' = Fq.nm from funext (swp_nm hn)]
    exact h.un
theorem DOk.blt {w : World} {D : Dq} (h : DOk w D) : ∀ x ∈ D.bl, x < w.heap.size := fun x hx => by
  unfold Dq.bl at hx
  simp only [List.mem_cons, List.mem_flatMap] at hx
  obtain ⟨X, x1, _⟩ := h.mp
  obtain ⟨n, Y, y1, _⟩ := h.rm
  rcases hx with e | e | e | ⟨f, hf, e⟩
  · rw [e]; exact (h.cel.blk _ (List.mem_cons_self ..)).1
  · rw [e]; exact x1.lt
  · rw [e]; exact y1.lt
  · exact (h.fl f hf).lt x e
/-- An append under way. -/
def appo (N : Nat) (q : Pt8) : Uop := ⟨N, q⟩
theorem Append_hit_f (D : Dq) (s : ByteArray) (hs : s.size ≤ 281474976710656) (q : Pt8) (f : Fq) (w : World) (h : DOk w D) (hk : D.k + 1 < 4611686018427387904) (hq : Rq q D w) (hno : D.no = false) (hnm : nmd s = true) (hl : lk D.fs s = some f) (hops : f.ops.length < 1000000) (hL : f.N + q.n ≤ 1048576) :
    Calls Try.prog 19 #[PT D.d 0, .string s, .slice q.p q.n q.cp] w fun e w' => e = .returned (.int .i64 0) ∧ ∃ (q2 : Pt8) (v : Value), q2.n = q.n ∧ q2.f = q.f ∧ Dw w D (D.tick.swap f (f.more v (appo f.N q2))) w' := by
  have hm := (lk_mem hl).1
  have hsz : s.size ≤ maxLen := by unfold maxLen; omega
  have hN : f.N ≤ 1048576 := (h.fl f hm).N1
  have hb0 : ∀ u u', Below w.heap.size w u → Below u.heap.size u u' → Below w.heap.size w u' := fun u u' h1 h2 => h1.trans (h2.mono h1.size)
  let I2 : Pt8 → World → Prop := fun q2 u => Dw w D D.tick u ∧ (appo f.N q2).ok u ∧ q2.n = q.n ∧ q2.f = q.f ∧ ∃ u0, DOk u0 D.tick ∧ (0 < q2.n → u0.heap.size ≤ q2.gb) ∧ w.heap.size ≤ u0.heap.size
  let I4 : World → Prop := fun u => ∃ (q2 : Pt8) (v : Value), q2.n = q.n ∧ q2.f = q.f ∧ Dw w D (D.tick.swap f (f.more v (appo f.N q2))) u
  have s4 : ∀ u u', I4 u → Below u.heap.size u u' → I4 u' := fun u u' ⟨q2, v, e1, e2, e3⟩ hb => ⟨q2, v, e1, e2, Dw.step _ _ e3 hb⟩
  refine Append_hit D.d s q D.mb D.rb f.g f.N ((D.k + 1 : Nat) : Int) hN (by omega) hL (fun u => Below w.heap.size w u) (Dw w D D.tick) I2 I4 I4 w (Below.refl _ _) hb0 Dw.step
    (fun q2 u u' ⟨e1, e2, e3, e4, u0, e5, e6⟩ hb => ⟨Dw.step _ _ e1 hb, e2.below hb, e3, e4, u0, e5, e6⟩) s4 s4 ?_ ?_ (fun u hu => hu.1.cel) ?_ (fun u hu => size_f f u (hu.1.fl f hm)) ?_ ?_ ?_
  · intro u hu
    refine (count_f D u (h.below hu) hk).mono fun e u' hh => ⟨by rw [hh.1, hno]; rfl, hh.2.1, (Chg.of hu).trans hh.2.2 (fun x hx => .inl hx), fun x hx => .inl hx⟩
  · intro u _
    exact (named_any s u).mono fun e u' hh => ⟨by rw [hh.1, hnm], hh.2⟩
  · intro u hu
    have e := hu.1.look (u := u) s hsz rfl
    rw [show lk D.tick.fs s = some f from hl] at e
    exact e
  · intro u hu
    obtain ⟨r1, r2, r3⟩ := hq.chg hu.2.1
    refine (clone_any q (by omega) u r1 r2 r3).mono fun e u' hh => ?_
    obtain ⟨v, e1, e2⟩ := hh
    obtain ⟨q2, t1, t2, t3, t4, t5, t6, t7⟩ := e2.part
    exact ⟨q2, by rw [e1, t1], ⟨Dw.step _ _ hu e2.b, ⟨t2, t3, t6⟩, t4, t5, u, hu.1, t7, hu.2.1.size⟩⟩
  · intro q2 u hu
    obtain ⟨e1, e2, e3, e4, u0, e5, e6, e7⟩ := hu
    have hap : ∀ x ∈ uob (appo f.N q2), x ∉ f.bl := fun x hx hx2 => by
      obtain ⟨k1, k2⟩ := uob_at hx
      have k3 := e6 k1
      have k4 := (e5.fl f hm).lt x hx2
      rw [k2] at k4
      exact absurd k4 (Nat.not_lt.2 k3)
    refine (begin_f f (appo f.N q2) u (e1.1.fl f hm) hops e2 hap (Nat.le_refl _) (by show f.N + q2.n ≤ _; rw [e3]; exact hL) (.inl rfl)).mono fun e u' hh => ?_
    obtain ⟨k1, v, k2, k3, k4⟩ := hh
    have hB : ∀ x, u.heap.size ≤ x → x ∉ D.tick.bl := fun x hx hm2 => absurd (e1.1.blt x hm2) (Nat.not_lt.2 hx)
    have hbl := more_bl (f := f) (v := v) (o := appo f.N q2) (B := fun x => x ∉ D.tick.bl) (fun x hx => (k4 x hx).imp_right (hB x)) (fun x hx => .inr (fun hm2 => by
      obtain ⟨t1, t2⟩ := uob_at hx
      have t3 := e5.blt x hm2
      rw [t2] at t3
      exact absurd t3 (Nat.not_lt.2 (e6 t1))))
    exact ⟨k1, q2, v, e3, e4, e1.1.swapB (f' := f.more v (appo f.N q2)) hm rfl rfl k2 k3 hbl, e1.2.1.trans k3 (fun x hx => .inl (Dq.fbl hm x hx)), fun x hx => (Dq.swap_bl hx).elim .inl (fun e => (more_bl (f := f) (v := v) (o := appo f.N q2) (B := fun x => w.heap.size ≤ x) (fun x hx => (k4 x hx).imp_right (Nat.le_trans e1.2.1.size)) (fun x hx => .inr (by obtain ⟨t1, t2⟩ := uob_at hx; rw [t2]; exact Nat.le_trans e7 (e6 t1))) x e).elim (fun e => .inl (Dq.fbl hm x e)) .inr)⟩
  · intro u hu
    obtain ⟨q2, v, e1, e2, e3⟩ := hu
    have hl2 : lk (D.tick.swap f (f.more v (appo f.N q2))).fs s = some (f.more v (appo f.N q2)) := by
      show lk (D.fs.map (swp f (f.more v (appo f.N q2)))) s = _
      rw [lk_swap (f := f) (f' := f.more v (appo f.N q2)) rfl, hl]
      show some (swp f _ f) = _
      unfold swp
      rw [if_pos rfl]
    refine put_any D.d D.mb D.rb f.g ((D.k + 1 : Nat) : Int) s hs I4 u e3.1.cel s4 (fun u1 hu1 => ?_)
    obtain ⟨u', r1, r2, r3⟩ := (e3.1.below hu1).putSame hsz hl2
    exact ⟨u', r1, q2, v, e1, e2, r2, (e3.2.1.below hu1).trans r3 (fun x hx => .inl (by rw [List.mem_singleton.1 hx]; show D.mb ∈ D.bl; unfold Dq.bl; simp)), e3.2.2⟩
end Wi
end Rg
end Go.Proofs.Ytidicdlfjdlpnaa
end
section
namespace Go.Proofs.Ytidicdlfjdlpnaa
open Go.RowKit
namespace Rg
namespace Wi
set_option maxRecDepth 100000
theorem DOk.chg {w u : World} {D : Dq} {L : List Nat} (h : DOk w D) (hc : Chg L w u) (hn : ∀ x ∈ L, x ∉ D.bl) : DOk u D := by
  obtain ⟨X, x1, x2, x3, x4⟩ := h.mp
  obtain ⟨n, Y, y1, y2⟩ := h.rm
  have hd : D.d ∈ D.bl := by unfold Dq.bl; simp
  have hm : D.mb ∈ D.bl := by unfold Dq.bl; simp
  have hr : D.rb ∈ D.bl := by unfold Dq.bl; simp
  exact ⟨hc.mm h.cel (fun p hp hx => by obtain rfl := List.mem_singleton.1 hp; exact hn _ hx hd), ⟨X, ownMap_keep x1 (hc.block _ x1.lt (fun hx => hn _ hx hm)), x2, x3, x4⟩, ⟨n, Y, ownMap_keep y1 (hc.block _ y1.lt (fun hx => hn _ hx hr)), y2⟩, fun f hf => (h.fl f hf).chg hc (fun x hx hx2 => hn x hx2 (Dq.fbl hf x hx)), h.ap, h.hd, h.h3, h.un, h.k1, h.n64⟩
/-- A new file. -/
def newF (s : ByteArray) (g : Nat) : Fq := ⟨s, g, .slice none 0 0, .slice none 0 0, 0, fun _ => 0, [], true⟩
theorem newF_bl (s : ByteArray) (g : Nat) : ∀ x ∈ (newF s g).bl, x = g := fun x hx => by
  unfold Fq.bl newF fbl at hx
  simpa [Value.ownBlock] using hx
theorem newF_ok {u : World} (s : ByteArray) {g : Nat} (hm : Mm u [(g, [Value.slice none 0 0, Value.slice none 0 0, Value.bool true])]) : FOk u (newF s g) :=
  ⟨hm, ⟨World.ownsRow_nil _ _ _ _, World.ownsRow_nil _ _ _ _, fun o ho => (by cases ho)⟩, ⟨fun hx => (by cases hx), fun hx => (by cases hx), fun o ho => (by cases ho), fun x hx => (by cases hx), fun x hx => (by cases hx), fun x hx => (by cases hx)⟩, fun i hi => absurd hi (Nat.not_lt_zero _), Nat.zero_le _, Nat.zero_le _⟩
theorem Append_new_f (D : Dq) (s : ByteArray) (hs : s.size ≤ 281474976710656) (q : Pt8) (w : World) (h : DOk w D) (hk : D.k + 1 < 4611686018427387904) (hq : Rq q D w) (hno : D.no = false) (hnm : nmd s = true) (hl : lk D.fs s = none) (hL64 : D.fs.length < 64) (hL : q.n ≤ 1048576) :
    Calls Try.prog 19 #[PT D.d 0, .string s, .slice q.p q.n q.cp] w fun e w' => e = .returned (.int .i64 0) ∧ ∃ (g : Nat) (q2 : Pt8) (v : Value), q2.n = q.n ∧ q2.f = q.f ∧ Dw w D (D.tick.add ((newF s g).more v (appo 0 q2))) w' := by
  have hsz : s.size ≤ maxLen := by unfold maxLen; omega
  have hb0 : ∀ u u', Below w.heap.size w u → Below u.heap.size u u' → Below w.heap.size w u' := fun u u' h1 h2 => h1.trans (h2.mono h1.size)
  let I5 : Nat → World → Prop := fun g u => Dw w D D.tick u ∧ FOk u (newF s g) ∧ g ∉ D.bl ∧ w.heap.size ≤ g
  let I2 : Nat → Pt8 → World → Prop := fun g q2 u => I5 g u ∧ (appo 0 q2).ok u ∧ q2.n = q.n ∧ q2.f = q.f ∧ (0 < q2.n → q2.gb ∉ D.bl ∧ q2.gb ≠ g ∧ w.heap.size ≤ q2.gb)
  let I3 : Nat → World → Prop := fun g u => ∃ (q2 : Pt8) (v : Value), q2.n = q.n ∧ q2.f = q.f ∧ Dw w D D.tick u ∧ FOk u ((newF s g).more v (appo 0 q2)) ∧ ∀ x ∈ ((newF s g).more v (appo 0 q2)).bl, x ∉ D.bl ∧ w.heap.size ≤ x
  let I4 : World → Prop := fun u => ∃ (g : Nat) (q2 : Pt8) (v : Value), q2.n = q.n ∧ q2.f = q.f ∧ Dw w D (D.tick.add ((newF s g).more v (appo 0 q2))) u
  have s5 : ∀ g u u', I5 g u → Below u.heap.size u u' → I5 g u' := fun g u u' ⟨e1, e2, e3, e4⟩ hb => ⟨Dw.step _ _ e1 hb, e2.below hb, e3, e4⟩
  have s4 : ∀ u u', I4 u → Below u.heap.size u u' → I4 u' := fun u u' ⟨g, q2, v, e1, e2, e3⟩ hb => ⟨g, q2, v, e1, e2, Dw.step _ _ e3 hb⟩
  refine Append_new D.d D.mb D.rb D.fs.length 0 s q ((D.k + 1 : Nat) : Int) hL64 (Nat.zero_le _) (by omega) (by omega) (fun u => Below w.heap.size w u) (Dw w D D.tick) I5 I2 I3 I4 w (Below.refl _ _) hb0 Dw.step s5 ?_ ?_ (fun u hu => hu.1.cel) ?_ ?_ ?_ ?_
    (fun g q2 u u' ⟨e1, e2, e3, e4, e5⟩ hb => ⟨s5 _ _ _ e1 hb, e2.below hb, e3, e4, e5⟩) (fun g u u' ⟨q2, v, e1, e2, e3, e4, e5⟩ hb => ⟨q2, v, e1, e2, Dw.step _ _ e3 hb, e4.below hb, e5⟩) s4 ?_ ?_ ?_
  · intro u hu
    exact (count_f D u (h.below hu) hk).mono fun e u' hh => ⟨by rw [hh.1, hno]; rfl, hh.2.1, (Chg.of hu).trans hh.2.2 (fun x hx => .inl hx), fun x hx => .inl hx⟩
  · intro u _
    exact (named_any s u).mono fun e u' hh => ⟨by rw [hh.1, hnm], hh.2⟩
  · intro u hu
    have e := hu.1.look (u := u) s hsz rfl
    rw [show lk D.tick.fs s = none from hl] at e
    exact e
  · intro u hu ty
    obtain ⟨X, x1, _, _, x4⟩ := hu.1.mp
    have e := x1.len Try.underlying39 ty
    rw [x4] at e
    exact e
  · intro u hu
    have hb : Below u.heap.size u (u.alloc (.cells ([Value.slice none 0 0, Value.slice none 0 0, Value.bool true] : List Value).toArray 117)) := (Below.refl _ _).alloc (Nat.le_refl _) _
    exact ⟨Dw.step _ _ hu hb, newF_ok s ((Mm.nil u).alloc _ _ rfl), fun hx => absurd (hu.1.blt _ hx) (Nat.lt_irrefl _), hu.2.1.size⟩
  · intro g u hu
    exact size_f (newF s g) u hu.2.1
  · intro g u hu
    obtain ⟨r1, r2, r3⟩ := hq.chg hu.1.2.1
    refine (clone_any q (by omega) u r1 r2 r3).mono fun e u' hh => ?_
    obtain ⟨v, e1, e2⟩ := hh
    obtain ⟨q2, t1, t2, t3, t4, t5, t6, t7⟩ := e2.part
    exact ⟨q2, by rw [e1, t1], s5 _ _ _ hu e2.b, ⟨t2, t3, t6⟩, t4, t5, fun hn => ⟨fun hx => absurd (hu.1.1.blt _ hx) (Nat.not_lt.2 (t7 hn)), fun hx => absurd hu.2.1.glt (Nat.not_lt.2 (by rw [← hx]; exact t7 hn)), Nat.le_trans hu.1.2.1.size (t7 hn)⟩⟩
  · intro g q2 u hu
    obtain ⟨e1, e2, e3, e4, e5⟩ := hu
    have hap : ∀ x ∈ uob (appo 0 q2), x ∉ (newF s g).bl := fun x hx hx2 => by
      obtain ⟨k1, k2⟩ := uob_at hx
      exact (e5 k1).2.1 (by rw [← newF_bl s g x hx2]; exact k2.symm)
    refine (begin_f (newF s g) (appo 0 q2) u e1.2.1 (show 0 < 1000000 by omega) e2 hap (Nat.le_refl _) (by show 0 + q2.n ≤ _; rw [e3]; omega) (.inl rfl)).mono fun e u' hh => ?_
    obtain ⟨k1, v, k2, k3, k4⟩ := hh
    have hg : ∀ x ∈ (newF s g).bl, x ∉ D.tick.bl := fun x hx => by rw [newF_bl s g x hx]; exact e1.2.2.1
    have hg2 : ∀ x ∈ (newF s g).bl, w.heap.size ≤ x := fun x hx => by rw [newF_bl s g x hx]; exact e1.2.2.2
    refine ⟨k1, q2, v, e3, e4, ⟨e1.1.1.chg k3 hg, e1.1.2.1.trans k3 (fun x hx => .inr (hg2 x hx)), e1.1.2.2⟩, k2, fun x hx => ?_⟩
    rcases more_bl (f := newF s g) (v := v) (o := appo 0 q2) (B := fun x => x ∉ D.bl ∧ w.heap.size ≤ x) (fun x hx => (k4 x hx).imp_right (fun hx2 => ⟨fun hm => absurd (e1.1.1.blt x hm) (Nat.not_lt.2 hx2), Nat.le_trans e1.1.2.1.size hx2⟩)) (fun x hx => .inr (by obtain ⟨t1, t2⟩ := uob_at hx; rw [t2]; exact ⟨(e5 t1).1, (e5 t1).2.2⟩)) x hx with e | e
    · exact ⟨hg x e, hg2 x e⟩
    · exact e
  · intro g u hu
    obtain ⟨q2, v, e1, e2, e3, e4, e5⟩ := hu
    refine put_any D.d D.mb D.rb g ((D.k + 1 : Nat) : Int) s hs I4 u e3.1.cel s4 (fun u1 hu1 => ?_)
    obtain ⟨u', r1, r2, r3⟩ := (e3.1.below hu1).putNew (f := (newF s g).more v (appo 0 q2)) hsz hl (e4.below hu1) hL64 (fun x hx => (e5 x hx).1)
    exact ⟨u', r1, g, q2, v, e1, e2, r2, (e3.2.1.below hu1).trans r3 (fun x hx => .inl (by rw [List.mem_singleton.1 hx]; show D.mb ∈ D.bl; unfold Dq.bl; simp)), fun x hx => (Dq.add_bl hx).elim (e3.2.2 x) (fun e => .inr (e5 x e).2)⟩
end Wi
end Rg
end Go.Proofs.Ytidicdlfjdlpnaa
end
section
namespace Go.Proofs.Ytidicdlfjdlpnaa
open Go.RowKit
namespace Rg
namespace Wi
set_option maxRecDepth 100000
open Go.Shelf Go.Maps
theorem key_string {v : Value} {kl : Lit} (h : keyOf Try.prog 9 v = some kl) : ∃ s : ByteArray, v = .string s ∧ kl = ky s ∧ s.size ≤ maxLen := by
  rw [keyOf_string Try.underlying9] at h
  unfold mapKey at h
  rw [Try.underlying9] at h
  split at h
  · exact absurd (by assumption : some TypeDesc.string = some TypeDesc.bool) (by simp)
  · have := ‹some TypeDesc.string = some (TypeDesc.int _)›
    cases this
  · rename_i s _
    split at h
    · rename_i hs
      exact ⟨s, rfl, (Option.some.inj h).symm, hs⟩
    · cases h
  · cases h
theorem RK_inv {v : Value} {x : Kv} {ps : List MemPlace} (h : RK v = some (kdt x, ps)) : v = kvv x := by
  unfold RK at h
  split at h
  · rename_i s a c
    simp only [Option.some.injEq, Prod.mk.injEq, kdt, DataW.agg.injEq, List.cons.injEq, DataW.lit.injEq, Lit.int.injEq, true_and, and_true] at h
    obtain ⟨⟨h1, h2, h3⟩, h4⟩ := h
    have := ky_inj (s := s) (t := x.1.1) h1
    subst this
    subst h2
    subst h3
    rfl
  · cases h
set_option maxHeartbeats 2000000 in
theorem crash1_f (f : Fq) (x : Kv) (bx m : Nat) (w : World) (h : FOk w f) (hb : Boxed w bx 123 (.map (some m))) (hlk : (Instr.lookup 123 (.map (some m)) (.string f.nm) false).run Try.prog w = .ok (kvv x) w) :
    Calls Try.prog 78 #[.string f.nm, PT f.g 0, .pointer (some ⟨bx, 0, none⟩)] w fun e w' => e = .returned (.bool (!f.there x.1.2.1 x.1.2.2)) ∧ ∃ s', FOk w' (f.set s' x.1.2.1 x.1.2.2) ∧ Chg f.bl w w' ∧ ∀ y ∈ (f.set s' x.1.2.1 x.1.2.2).bl, y ∈ f.bl ∨ w.heap.size ≤ y := by
  have cB := hb.cell
  have HF : Hid _ := h
  clear h hb
  unfold kvv at hlk
  go_enter Try.func78, Try.ntmps78
  go_wp2_with (first
    | (go_at_call 73; refine (settle_f f _ _ _ (HF.out.below ((Below.refl _ w).alloc (Nat.le_refl _) _))).mono ?_; rintro e w2 ⟨rfl, s', h1, h2⟩)
    | go_in)
  go_ret
  obtain ⟨h3, h4, h5⟩ := (HF.out.below ((Below.refl _ w).alloc (Nat.le_refl _) _)).settled h1 h2
  exact ⟨rfl, s', h3, (Chg.of ((Below.refl _ w).alloc (Nat.le_refl _) _)).trans h4 (fun _ hx => .inl hx), fun y hy => (h5 y hy).imp_right (fun e => by simp at e; omega)⟩
def kof (pre : List (Nat × Kv)) (s : ByteArray) : Kv := match pre.reverse.find? (fun x => decide (x.2.1.1 = s)) with | some x => x.2 | none => kv0
theorem ky_key {s : ByteArray} (hs : s.size ≤ maxLen) : WideAt.IsKeyLit (ky s) := (Maps.string_keyed Try.underlying9).key (WideMaps.keyOf_string_mk Try.underlying9 hs)
theorem fD_rev (s : ByteArray) : ∀ l : List (Nat × Kv), IsMap (fD l.reverse) ∧ (fD l.reverse).atKey (ky s) (kdt kv0) = kdt (kof l.reverse s)
  | [] => ⟨⟨_, rfl⟩, rfl⟩
  | x :: l => by
    obtain ⟨⟨es, h0⟩, h1⟩ := fD_rev s l
    rw [List.reverse_cons, fD_snoc]
    refine ⟨by rw [h0]; exact ⟨_, rfl⟩, ?_⟩
    unfold kof at h1 ⊢
    rw [List.reverse_reverse] at h1
    rw [List.reverse_append, List.reverse_reverse, List.reverse_cons, List.reverse_nil, List.nil_append, List.cons_append, List.nil_append, List.find?_cons]
    by_cases e : x.2.1.1 = s
    · rw [decide_eq_true e, ← e]
      exact atKey_put_same ⟨es, h0⟩ (ky_key x.2.2.1) _ _
    · rw [decide_eq_false e, atKey_put_other (fun hk => e (ky_inj hk).symm)]
      exact h1
theorem fD_at (pre : List (Nat × Kv)) (s : ByteArray) : (fD pre).atKey (ky s) (kdt kv0) = kdt (kof pre s) := by
  have := (fD_rev s pre.reverse).2
  rwa [List.reverse_reverse] at this
/-- A file behind a crash; whether it is still there. -/
def Fq.aft (K : ByteArray → Kv) (σ : ByteArray → Value) (f : Fq) : Fq := f.set (σ f.nm) (K f.nm).1.2.1 (K f.nm).1.2.2
def Fq.stay (K : ByteArray → Kv) (f : Fq) : Bool := f.there (K f.nm).1.2.1 (K f.nm).1.2.2
def cur (K : ByteArray → Kv) (σ : ByteArray → Value) (left : Lit → Bool) (f : Fq) : Fq := match left (ky f.nm) with | true => f | false => f.aft K σ
theorem cur_t {K : ByteArray → Kv} {σ : ByteArray → Value} {left : Lit → Bool} {f : Fq} (h : left (ky f.nm) = true) : cur K σ left f = f := by unfold cur; rw [h]
theorem cur_f {K : ByteArray → Kv} {σ : ByteArray → Value} {left : Lit → Bool} {f : Fq} (h : left (ky f.nm) = false) : cur K σ left f = f.aft K σ := by unfold cur; rw [h]
structure CI (W : World) (D : Dq) (K : ByteArray → Kv) (r : Nat) (left : Lit → Bool) (u : World) : Prop where
  rr : r = W.heap.size
  sz : W.heap.size < u.heap.size
  ch : Chg (r :: D.mb :: D.fs.flatMap Fq.bl) W u
  ex : ∃ σ, (∀ f ∈ D.fs, FOk u (cur K σ left f)) ∧ (∀ f ∈ D.fs, ∀ x ∈ (cur K σ left f).bl, x ∈ f.bl ∨ W.heap.size < x) ∧ ∀ f ∈ D.fs, ∀ g ∈ D.fs, f.nm ≠ g.nm → ∀ x ∈ (cur K σ left f).bl, x ∉ (cur K σ left g).bl
theorem CI.step {W u u' : World} {D : Dq} {K : ByteArray → Kv} {r x : Nat} {left : Lit → Bool} (h : DOk W D) (c : CI W D K r left u) (hx : x = r ∨ x = D.mb) (hg : u.grownBy u' (some x)) : CI W D K r left u' := by
  have hc : Chg [x] u u' := Chg.grown hg
  obtain ⟨σ, h1, h2, h3⟩ := c.ex
  have hmb : D.mb < W.heap.size := h.blt D.mb (by unfold Dq.bl; simp)
  refine ⟨c.rr, Nat.lt_of_lt_of_le c.sz hc.size, c.ch.trans hc (fun y hy => .inl ?_), σ, fun f hf => (h1 f hf).chg hc (fun y hy hm => ?_), h2, h3⟩
  · rw [List.mem_singleton.1 hy]
    rcases hx with e | e <;> rw [e] <;> simp
  · rw [List.mem_singleton.1 hm] at hy
    have hr := c.rr
    rcases h2 f hf x hy with e | e
    · have hlt := (h.fl f hf).lt x e
      rcases hx with hx | hx
      · omega
      · exact (h.hd f hf x e).2.1 hx
    · rcases hx with hx | hx <;> omega
theorem CI.start {W u : World} {D : Dq} {K : ByteArray → Kv} {X : DataW Nat} (h : DOk W D) (hs : u.heap.size = W.heap.size + 1) (hg : W.grownBy u none) (hX : ∀ s, Maps.has X (ky s) = (lk D.fs s).isSome) : CI W D K W.heap.size (Maps.has X) u := by
  have hc : Chg [] W u := Chg.grown hg
  have hl : ∀ f ∈ D.fs, cur K (fun _ => undef) (Maps.has X) f = f := fun f hf => cur_t (by
    rw [hX]
    unfold lk
    rw [List.find?_isSome]
    exact ⟨f, hf, decide_eq_true rfl⟩)
  refine ⟨rfl, by omega, hc.mono (fun x hx => by cases hx), fun _ => undef, fun f hf => ?_, fun f hf x hx => ?_, fun f hf g hg' hne x hx => ?_⟩
  · rw [hl f hf]; exact (h.fl f hf).chg hc (fun _ _ hx => by cases hx)
  · rw [hl f hf] at hx; exact .inl hx
  · rw [hl f hf] at hx; rw [hl g hg']; exact h.ap f hf g hg' hne x hx
theorem CI.del {W u u' : World} {D : Dq} {K : ByteArray → Kv} {r : Nat} {left : Lit → Bool} {f : Fq} {s' : Value} (h : DOk W D) (c : CI W D K r left u) (hf : f ∈ D.fs) (hs : f.nm.size ≤ maxLen) (hl : left (ky f.nm) = true)
    (hF : FOk u' (f.set s' (K f.nm).1.2.1 (K f.nm).1.2.2)) (hc : Chg f.bl u u') (hb : ∀ y ∈ (f.set s' (K f.nm).1.2.1 (K f.nm).1.2.2).bl, y ∈ f.bl ∨ u.heap.size ≤ y) : CI W D K r (fun z => left z && !z.sameKey (ky f.nm)) u' := by
  obtain ⟨σ, h1, h2, h3⟩ := c.ex
  have hsz := c.sz
  have cf : cur K σ left f = f := cur_t hl
  have hA : cur K (fun t => if t = f.nm then s' else σ t) (fun z => left z && !z.sameKey (ky f.nm)) f = f.set s' (K f.nm).1.2.1 (K f.nm).1.2.2 := by
    rw [cur_f (by show (left (ky f.nm) && !(ky f.nm).sameKey (ky f.nm)) = false; rw [WideAt.sameKey_self (ky_key hs), Bool.not_true, Bool.and_false])]
    unfold Fq.aft
    show f.set (if f.nm = f.nm then s' else σ f.nm) _ _ = _
    rw [if_pos rfl]
  have hB : ∀ g : Fq, g.nm ≠ f.nm → cur K (fun t => if t = f.nm then s' else σ t) (fun z => left z && !z.sameKey (ky f.nm)) g = cur K σ left g := fun g hne => by
    have e : (ky g.nm).sameKey (ky f.nm) = false := by
      cases e : (ky g.nm).sameKey (ky f.nm) with
      | false => rfl
      | true => exact absurd (ky_inj (WideAt.sameKey_eq e)) hne
    have ea : Fq.aft K (fun t => if t = f.nm then s' else σ t) g = Fq.aft K σ g := by
      unfold Fq.aft
      show g.set (if g.nm = f.nm then s' else σ g.nm) _ _ = _
      rw [if_neg hne]
    cases hlg : left (ky g.nm) with
    | true => rw [cur_t hlg, cur_t (by show (left (ky g.nm) && !(ky g.nm).sameKey (ky f.nm)) = true; rw [e, hlg]; rfl)]
    | false => rw [cur_f hlg, cur_f (by show (left (ky g.nm) && !(ky g.nm).sameKey (ky f.nm)) = false; rw [hlg, Bool.false_and]), ea]
  have key : ∀ g ∈ D.fs, g = f ∨ g.nm ≠ f.nm := fun g hg => by
    by_cases e : g.nm = f.nm
    · exact .inl (nm_inj h.un hg hf e)
    · exact .inr e
  have hfb : ∀ y ∈ f.bl, y ∈ r :: D.mb :: D.fs.flatMap Fq.bl := fun y hy => List.mem_cons_of_mem _ (List.mem_cons_of_mem _ (List.mem_flatMap.2 ⟨f, hf, hy⟩))
  refine ⟨c.rr, Nat.lt_of_lt_of_le hsz hc.size, c.ch.trans hc (fun y hy => .inl (hfb y hy)), fun t => if t = f.nm then s' else σ t, fun g hg => ?_, fun g hg x hx => ?_, fun g hg g' hg' hne x hx hx' => ?_⟩
  · rcases key g hg with e | e
    · rw [e, hA]; exact hF
    · rw [hB g e]
      exact (h1 g hg).chg hc (fun x hx => by have := h3 g hg f hf e x hx; rwa [cf] at this)
  · rcases key g hg with e | e
    · rw [e, hA] at hx
      rw [e]
      exact (hb x hx).imp_right (fun e => by omega)
    · rw [hB g e] at hx; exact h2 g hg x hx
  · have lo : ∀ y : Fq, y ∈ D.fs → y.nm ≠ f.nm → ∀ z ∈ (cur K σ left y).bl, z ∉ (f.set s' (K f.nm).1.2.1 (K f.nm).1.2.2).bl := fun y hy e z hz hz' => by
      rcases hb z hz' with q | q
      · have := h3 y hy f hf e z hz
        rw [cf] at this
        exact this q
      · have := (h1 y hy).lt z hz
        omega
    rcases key g hg with e | e
    · rw [e, hA] at hx
      rw [e] at hne
      rw [hB g' (Ne.symm hne)] at hx'
      exact lo g' hg' (Ne.symm hne) x hx' hx
    · rw [hB g e] at hx
      rcases key g' hg' with e' | e'
      · rw [e', hA] at hx'
        exact lo g hg e x hx hx'
      · rw [hB g' e'] at hx'
        exact h3 g hg g' hg' hne x hx hx'
end Wi
end Rg
end Go.Proofs.Ytidicdlfjdlpnaa
end
section
namespace Go.Proofs.Ytidicdlfjdlpnaa
open Go.RowKit
namespace Rg
namespace Wi
set_option maxRecDepth 100000
open Go.Shelf Go.Maps
theorem call78 : ∀ args w, (callFunc 78 args).run Try.prog w = .ok (.enter 78 args) w := by intro args w; go_simp
/-- Whether a key's file is struck. -/
def pdk (D : Dq) (K : ByteArray → Kv) : Lit → Bool
  | .string l => match lk D.fs ⟨l.toArray⟩ with | some f => !f.stay K | none => false
  | _ => false
theorem pdk_ky (D : Dq) (K : ByteArray → Kv) (s : ByteArray) : pdk D K (ky s) = match lk D.fs s with | some f => !f.stay K | none => false := by
  unfold pdk ky
  simp only [Array.toArray_toList]
theorem del_at (q : Lit → Bool) (es : List (Lit × DataW Nat)) (k : Lit) (z : DataW Nat) : (Lib.deleteFuncD (fun a _ => q a) (.map es)).atKey k z = if q k = true then z else (DataW.map es).atKey k z := by
  unfold Lib.deleteFuncD DataW.atKey
  simp only
  cases hq : q k with
  | true =>
    rw [if_pos rfl, List.find?_eq_none.2 (fun x hx hs => by
      have h1 := (List.mem_filter.1 hx).2
      rw [WideAt.sameKey_eq hs, hq] at h1
      cases h1)]
  | false =>
    rw [if_neg (by decide), find_keep es (fun x hs => by rw [WideAt.sameKey_eq hs, hq]; rfl)]
theorem del_has (q : Lit → Bool) (es : List (Lit × DataW Nat)) (k : Lit) : Maps.has (Lib.deleteFuncD (fun a _ => q a) (.map es)) k = (!q k && Maps.has (.map es) k) := by
  show (es.filter fun p => !q p.1).any (fun p => p.1.sameKey k) = (!q k && es.any (fun p => p.1.sameKey k))
  rw [Bool.eq_iff_iff]
  simp only [List.any_eq_true, List.mem_filter, Bool.and_eq_true]
  constructor
  · rintro ⟨x, ⟨h1, h2⟩, h3⟩
    rw [WideAt.sameKey_eq h3] at h2
    exact ⟨h2, x, h1, h3⟩
  · rintro ⟨h2, x, h1, h3⟩
    exact ⟨x, ⟨h1, by rw [WideAt.sameKey_eq h3]; exact h2⟩, h3⟩
theorem del_size {w : World} {b n : Nat} {es : List (Lit × DataW Nat)} {fs : List Fq} (h : w.ownsMap Try.prog 9 RF b n (.map es)) (hh : ∀ s, Maps.has (.map es) (ky s) = (lk fs s).isSome) (un : (fs.map Fq.nm).Nodup) (q : Lit → Bool) : (es.filter fun p => !q p.1).length = (fs.filter fun f => !q (ky f.nm)).length := by
  have hst : ∀ p ∈ es, ∃ s, p.1 = ky s := fun p hp => by
    obtain ⟨es0, clock, _, F, _, e⟩ := h
    injection e with e
    rw [e] at hp
    obtain ⟨x, hx, rfl⟩ := List.mem_map.1 (mem_sorted.1 hp)
    obtain ⟨y, hy⟩ := F.reads x hx
    rw [WideElems.rg_of hy]
    obtain ⟨s, _, e2, _⟩ := key_string (WideElems.rd_key hy)
    exact ⟨s, e2⟩
  have hks : ∀ p ∈ es, WideAt.IsKeyLit p.1 := fun p hp => by
    obtain ⟨es1, e, _, h2⟩ := h.entries (Maps.string_keyed Try.underlying9)
    injection e with e
    exact h2 p (e ▸ hp)
  have hnd : (es.map Prod.fst).Nodup := by
    obtain ⟨es1, e, h1, _⟩ := h.entries (Maps.string_keyed Try.underlying9)
    injection e with e
    rw [e]
    exact List.pairwise_map.2 h1
  have hnf : (fs.map fun f => ky f.nm).Nodup := by
    have : (fs.map fun f => ky f.nm) = (fs.map Fq.nm).map ky := by rw [List.map_map]; rfl
    rw [this]
    exact List.pairwise_map.2 (un.imp (fun hne e => hne (ky_inj e)))
  have hp : (es.map Prod.fst).Perm (fs.map fun f => ky f.nm) := (List.perm_ext_iff_of_nodup hnd hnf).2 (fun a => by
    constructor
    · intro ha
      obtain ⟨p, hp, rfl⟩ := List.mem_map.1 ha
      obtain ⟨s, e⟩ := hst p hp
      have h1 : Maps.has (.map es) (ky s) = true := by
        rw [← e]
        exact List.any_eq_true.2 ⟨p, hp, WideAt.sameKey_self (hks p hp)⟩
      rw [hh] at h1
      obtain ⟨f, hf⟩ := Option.isSome_iff_exists.1 h1
      obtain ⟨h2, h3⟩ := lk_mem hf
      exact List.mem_map.2 ⟨f, h2, by rw [h3, e]⟩
    · intro ha
      obtain ⟨f, hf, rfl⟩ := List.mem_map.1 ha
      have h1 : (lk fs f.nm).isSome = true := by
        unfold lk
        rw [List.find?_isSome]
        exact ⟨f, hf, decide_eq_true rfl⟩
      rw [← hh] at h1
      obtain ⟨p, hp, h2⟩ := List.any_eq_true.1 h1
      exact List.mem_map.2 ⟨p, hp, WideAt.sameKey_eq h2⟩)
  have h1 := (hp.filter (fun a => !q a)).length_eq
  rw [List.filter_map, List.filter_map, List.length_map, List.length_map] at h1
  exact h1
theorem find_keepM {α : Type} {p q : α → Bool} : ∀ (l : List α), (∀ x ∈ l, p x = true → q x = true) → (l.filter q).find? p = l.find? p
  | [], _ => rfl
  | x :: r, h => by
    have ih := find_keepM r (fun y hy => h y (List.mem_cons_of_mem _ hy))
    cases hq : q x with
    | true =>
      rw [List.filter_cons_of_pos hq, List.find?_cons, List.find?_cons, ih]
    | false =>
      have hp : p x = false := by
        cases hp : p x with
        | false => rfl
        | true => rw [h x (List.mem_cons_self ..) hp] at hq; cases hq
      rw [List.filter_cons_of_neg (by rw [hq]; decide), List.find?_cons, hp, ih]
/-- The disk behind a crash. -/
def Dq.aft (K : ByteArray → Kv) (σ : ByteArray → Value) (D : Dq) : Dq := ⟨D.d, D.mb, D.rb, D.k, (D.fs.filter (Fq.stay K)).map (Fq.aft K σ), D.rf⟩
theorem lk_aft (K : ByteArray → Kv) (σ : ByteArray → Value) {fs : List Fq} (un : (fs.map Fq.nm).Nodup) (s : ByteArray) : lk ((fs.filter (Fq.stay K)).map (Fq.aft K σ)) s = match lk fs s with | some f => if f.stay K = true then some (f.aft K σ) else none | none => none := by
  have e0 : lk ((fs.filter (Fq.stay K)).map (Fq.aft K σ)) s = ((fs.filter (Fq.stay K)).find? (fun f => decide (f.nm = s))).map (Fq.aft K σ) := by
    unfold lk
    rw [List.find?_map]
    rfl
  rw [e0]
  cases hl : lk fs s with
  | none =>
    rw [List.find?_eq_none.2 (fun x hx hs => lk_none hl x (List.mem_filter.1 hx).1 (of_decide_eq_true hs))]
    rfl
  | some f =>
    obtain ⟨h1, h2⟩ := lk_mem hl
    show _ = if f.stay K = true then some (f.aft K σ) else none
    cases hs : f.stay K with
    | true =>
      rw [if_pos rfl, find_keepM fs (fun x hx hd => by rw [nm_inj un hx h1 ((of_decide_eq_true hd).trans h2.symm)]; exact hs)]
      show (lk fs s).map _ = _
      rw [hl]
      rfl
    | false =>
      rw [if_neg (by decide), List.find?_eq_none.2 (fun x hx hd => by
        obtain ⟨g1, g2⟩ := List.mem_filter.1 hx
        have e := nm_inj un g1 h1 ((of_decide_eq_true hd).trans h2.symm)
        rw [e, hs] at g2
        cases g2)]
      rfl
theorem CI.disk {W u : World} {D : Dq} {K : ByteArray → Kv} {r n : Nat} {left : Lit → Bool} {es : List (Lit × DataW Nat)} (h : DOk W D) (h0 : W.ownsMap Try.prog 9 RF D.mb D.fs.length (.map es)) (ha : ∀ s, (DataW.map es).atKey (ky s) .nil = dv (lk D.fs s)) (hh : ∀ s, Maps.has (.map es) (ky s) = (lk D.fs s).isSome)
    (c : CI W D K r left u) (hl : ∀ kl, left kl = false) (hm : u.ownsMap Try.prog 9 RF D.mb n (Lib.deleteFuncD (fun a _ => pdk D K a) (.map es))) : ∃ σ, DOk u (D.aft K σ) ∧ Chg D.bl W u ∧ ∀ x ∈ (D.aft K σ).bl, x ∈ D.bl ∨ W.heap.size ≤ x := by
  obtain ⟨σ, h1, h2, h3⟩ := c.ex
  have hcu : ∀ f, cur K σ left f = f.aft K σ := fun f => cur_f (hl _)
  have hrr := c.rr
  have hlt : ∀ x ∈ D.bl, x < W.heap.size := h.blt
  have hch : Chg D.bl W u := c.ch.mono (fun x hx => by
    rcases List.mem_cons.1 hx with e | e
    · exact .inr (by omega)
    · refine .inl ?_
      unfold Dq.bl
      rcases List.mem_cons.1 e with e | e
      · rw [e]; simp
      · exact List.mem_cons_of_mem _ (List.mem_cons_of_mem _ (List.mem_cons_of_mem _ e)))
  have hmem : ∀ y ∈ (D.aft K σ).fs, ∃ f ∈ D.fs, y = f.aft K σ := fun y hy => by
    obtain ⟨f, hf, e⟩ := List.mem_map.1 hy
    exact ⟨f, (List.mem_filter.1 hf).1, e.symm⟩
  have hnm : ∀ f : Fq, (f.aft K σ).nm = f.nm := fun _ => rfl
  have hbl : ∀ f ∈ D.fs, ∀ x ∈ (f.aft K σ).bl, x ∈ f.bl ∨ W.heap.size < x := fun f hf x hx => h2 f hf x (by rw [hcu]; exact hx)
  have hdn : D.d ∉ r :: D.mb :: D.fs.flatMap Fq.bl := fun hx => by
    have := hlt D.d (by unfold Dq.bl; simp)
    rcases List.mem_cons.1 hx with e | e
    · omega
    · rcases List.mem_cons.1 e with e | e
      · exact h.h3.1 e
      · obtain ⟨f, hf, e⟩ := List.mem_flatMap.1 e
        exact (h.hd f hf _ e).1 rfl
  have hrn : D.rb ∉ r :: D.mb :: D.fs.flatMap Fq.bl := fun hx => by
    have := hlt D.rb (by unfold Dq.bl; simp)
    rcases List.mem_cons.1 hx with e | e
    · omega
    · rcases List.mem_cons.1 e with e | e
      · exact h.h3.2.2 e.symm
      · obtain ⟨f, hf, e⟩ := List.mem_flatMap.1 e
        exact (h.hd f hf _ e).2.2 rfl
  obtain ⟨n', Y, y1, y2⟩ := h.rm
  have hsz : Maps.size (Lib.deleteFuncD (fun a _ => pdk D K a) (.map es)) = (D.aft K σ).fs.length := by
    show (es.filter fun p => !pdk D K p.1).length = ((D.fs.filter (Fq.stay K)).map (Fq.aft K σ)).length
    rw [del_size h0 hh h.un, List.length_map]
    congr 1
    apply List.filter_congr
    intro f hf
    rw [pdk_ky]
    cases hl' : lk D.fs f.nm with
    | none => exact absurd rfl (lk_none hl' f hf)
    | some g =>
      obtain ⟨g1, g2⟩ := lk_mem hl'
      rw [nm_inj h.un g1 hf g2]
      exact Bool.not_not _
  refine ⟨σ, ⟨c.ch.mm h.cel (fun p hp => by obtain rfl := List.mem_singleton.1 hp; exact hdn), ⟨_, hsz ▸ ownMap_tight hm, fun s => ?_, fun s => ?_, hsz⟩, ⟨n', Y, ownMap_keep y1 (c.ch.block _ y1.lt hrn), y2⟩, fun y hy => ?_, fun y hy z hz hne x hx => ?_, fun y hy x hx => ?_, h.h3, ?_, h.k1, ?_⟩, hch, fun x hx => ?_⟩
  · rw [del_at, pdk_ky, ha]
    show _ = dv (lk ((D.fs.filter (Fq.stay K)).map (Fq.aft K σ)) s)
    rw [lk_aft K σ h.un]
    cases lk D.fs s with
    | none => rfl
    | some f => cases hs : f.stay K <;> simp [hs, dv] <;> rfl
  · rw [del_has, pdk_ky, hh]
    show _ = (lk ((D.fs.filter (Fq.stay K)).map (Fq.aft K σ)) s).isSome
    rw [lk_aft K σ h.un]
    cases lk D.fs s with
    | none => rfl
    | some f => cases hs : f.stay K <;> simp [hs]
  · obtain ⟨f, hf, rfl⟩ := hmem y hy
    have := h1 f hf
    rwa [hcu] at this
  · obtain ⟨f, hf, rfl⟩ := hmem y hy
    obtain ⟨g, hg, rfl⟩ := hmem z hz
    have := h3 f hf g hg hne x (by rw [hcu]; exact hx)
    rwa [hcu] at this
  · obtain ⟨f, hf, rfl⟩ := hmem y hy
    rcases hbl f hf x hx with e | e
    · exact h.hd f hf x e
    · have e1 := hlt D.d (by unfold Dq.bl; simp)
      have e2 := hlt D.mb (by unfold Dq.bl; simp)
      have e3 := hlt D.rb (by unfold Dq.bl; simp)
      show x ≠ D.d ∧ x ≠ D.mb ∧ x ≠ D.rb
      omega
  · show (((D.fs.filter (Fq.stay K)).map (Fq.aft K σ)).map Fq.nm).Nodup
    rw [List.map_map]
    exact (List.filter_sublist.map Fq.nm).nodup h.un
  · show ((D.fs.filter (Fq.stay K)).map (Fq.aft K σ)).length ≤ 64
    rw [List.length_map]
    exact Nat.le_trans (List.length_filter_le _ _) h.n64
  · unfold Dq.bl at hx
    simp only [List.mem_cons, List.mem_flatMap] at hx
    rcases hx with e | e | e | ⟨y, hy, e⟩
    · exact .inl (by unfold Dq.bl; rw [e]; exact List.mem_cons_self ..)
    · exact .inl (by unfold Dq.bl; rw [e]; exact List.mem_cons_of_mem _ (List.mem_cons_self ..))
    · exact .inl (by unfold Dq.bl; rw [e]; exact List.mem_cons_of_mem _ (List.mem_cons_of_mem _ (List.mem_cons_self ..)))
    · obtain ⟨f, hf, rfl⟩ := hmem y hy
      exact (hbl f hf x e).elim (fun q => .inl (Dq.fbl hf x q)) (fun q => .inr (Nat.le_of_lt q))
theorem at_none {X : DataW Nat} {k : Lit} (h : Maps.has X k = false) (z : DataW Nat) : X.atKey k z = z := by
  unfold DataW.atKey
  split
  · rename_i es
    have : es.find? (fun p => p.1.sameKey k) = none := List.find?_eq_none.2 (fun x hx hs => by
      rw [show Maps.has (.map es) k = true from List.any_eq_true.2 ⟨x, hx, hs⟩] at h
      cases h)
    rw [this]
  · rfl
theorem crash_del (D : Dq) (K : ByteArray → Kv) (bx m n : Nat) (X' : DataW Nat) (W : World) (h : DOk W D) (hbx : Boxed W bx 123 (.map (some m))) (hm : W.ownsMap Try.prog 9 RK m n X') (hX' : ∀ s, X'.atKey (ky s) (kdt kv0) = kdt (K s)) (hb1 : bx ∉ D.bl) (hb2 : m ∉ D.bl) :
    Calls Try.prog 77 #[.map (some D.mb), .func (.func 78) #[] #[.pointer (some ⟨bx, 0, none⟩)]] W fun e u => e = .returned (.tuple #[]) ∧ ∃ σ, DOk u (D.aft K σ) ∧ Chg D.bl W u ∧ ∀ x ∈ (D.aft K σ).bl, x ∈ D.bl ∨ W.heap.size ≤ x := by
  obtain ⟨X, x1, x2, x3, x4⟩ := h.mp
  obtain ⟨es, rfl, _, _⟩ := x1.entries (Maps.string_keyed Try.underlying9)
  have hlt := h.blt
  refine (delfunc_I (fun r left u => CI W D K r left u) (fun a _ => pdk D K a) 78 #[.pointer (some ⟨bx, 0, none⟩)] D.mb D.fs.length _ W call78 x1 ?_ ?_ ?_).mono ?_
  · intro w' hs hg
    exact CI.start h hs hg x3
  · intro r left u u' x c hx hg
    exact c.step h hx hg
  · intro r left u key val kl yd yp c hkey hv hl hat
    obtain ⟨s, rfl, rfl, hs⟩ := key_string hkey
    cases hf : lk D.fs s with
    | none =>
      have hn : Maps.has (.map es) (ky s) = false := by rw [x3, hf]; rfl
      have e1 := (at_none hn (.held 0)).symm.trans ((hat (.held 0)).trans ((hat (.held 1)).symm.trans (at_none hn (.held 1))))
      cases e1
    | some f =>
      obtain ⟨g1, g2⟩ := lk_mem hf
      subst g2
      have e : yd = .held f.g := (hat .nil).symm.trans ((x2 f.nm).trans (by rw [hf]; rfl))
      subst e
      have hvv := RF_held hv
      subst hvv
      obtain ⟨σ, q1, _, _⟩ := c.ex
      have hFu : FOk u f := by
        have := q1 f g1
        rwa [cur_t hl] at this
      have hrr := c.rr
      have hin : ∀ x, x < W.heap.size → x ∉ D.bl → u.heap[x]? = W.heap[x]? := fun x hx hn => c.ch.block x hx (fun hm => by
        rcases List.mem_cons.1 hm with e | e
        · omega
        · rcases List.mem_cons.1 e with e | e
          · exact hn (by rw [e]; unfold Dq.bl; simp)
          · obtain ⟨g, hg, e⟩ := List.mem_flatMap.1 e
            exact hn (Dq.fbl hg x e))
      have hbu : Boxed u bx 123 (.map (some m)) := (hin bx hbx.lt hb1).trans hbx
      obtain ⟨v, ps, hr, hv⟩ := (ownMap_keep hm (hin m hm.lt hb2)).lookup (Maps.string_keyed Try.underlying9) Try.underlying123 (z := kvv kv0) (by kernel_rfl) (zd := kdt kv0) (zp := []) rfl (WideMaps.keyOf_string_mk Try.underlying9 hs)
      have e2 := hX' f.nm
      unfold ky at e2
      rw [e2] at hv
      rw [RK_inv hv] at hr
      refine (crash1_f f (K f.nm) bx m u hFu hbu hr).mono ?_
      rintro e u' ⟨rfl, s', q1, q2, q3⟩
      have hfl := (h.fl f g1).lt
      refine ⟨?_, c.del h g1 hs hl q1 q2 q3, q2.size, q2.block D.mb ?_ (fun hx => (h.hd f g1 _ hx).2.1 rfl), q2.block r ?_ (fun hx => by have := hfl r hx; omega)⟩
      · show _ = Ending.returned (.bool (pdk D K (ky f.nm)))
        rw [pdk_ky, hf]
        rfl
      · have := hlt D.mb (by unfold Dq.bl; simp)
        have := c.sz
        omega
      · have := c.sz
        omega
  · rintro e w' ⟨rfl, hm', r, left, hl, c⟩
    exact ⟨rfl, c.disk h x1 x2 x3 hl hm'⟩
/-- Crash of any disk, with any keeps. -/
theorem Crash_f (D : Dq) (a : Option Addr) (len cap : Nat) (zs : Nat → Kv) (hlen : len ≤ 1152921504606846976) (w : World) (h : DOk w D) (hK : Kps w.heap.size w (.slice a len cap) len zs) :
    Calls Try.prog 24 #[PT D.d 0, .slice a len cap] w fun e w' => e = .returned (.int .i64 0) ∧ ∃ σ, Dw w D (D.aft (kof (kup (kbk len zs) len)) σ) w' := by
  have hlt := h.blt
  refine (crash_in (fun N W2 => ∃ σ, Dw w D (D.aft (kof (kup (kbk len zs) len)) σ) W2 ∧ ∀ x ∈ (D.aft (kof (kup (kbk len zs) len)) σ).bl, x ∈ D.bl ∨ N ≤ x) D.d D.mb D.rb _ a len cap zs hlen w h.cel hK ?_).mono ?_
  · intro W bx m hB hbx hm hbox hown
    refine (crash_del D _ bx m len _ W (h.below hB) hbox hown (fun s => fD_at _ s) (fun hx => by have := hlt _ hx; omega) (fun hx => by have := hlt _ hx; omega)).mono ?_
    rintro e u ⟨rfl, σ, q1, q2, q3⟩
    exact ⟨rfl, fun D' h1 h2 => q2.block D' h2 (fun hx => by have := hlt _ hx; omega), σ, ⟨q1, (Chg.of hB).trans q2 (fun x hx => .inl hx), fun x hx => (q3 x hx).imp_right (fun e => Nat.le_trans hB.size e)⟩, q3⟩
  · rintro e w' ⟨rfl, N, W2, D', ⟨σ, ⟨q1, q2, q3⟩, q4⟩, hD, hN, hd, rfl⟩
    have hc : Chg [D'] W2 (W2.putObj D' (.deferred none)) := Chg.grown (grownBy_putObj' _ _ _)
    refine ⟨rfl, σ, q1.chg hc (fun x hx hm => ?_), q2.trans hc (fun x hx => .inr (by rw [List.mem_singleton.1 hx]; exact hD)), q3⟩
    rw [List.mem_singleton.1 hx] at hm
    rcases q4 D' hm with e | e
    · have := hlt _ e
      omega
    · omega
end Wi
end Rg
end Go.Proofs.Ytidicdlfjdlpnaa
end
section
namespace Go.Proofs.Ytidicdlfjdlpnaa
open Go.RowKit
namespace Rg
namespace Wi
set_option maxRecDepth 100000
open Go.Shelf Go.Maps
theorem map_size {w : World} {b n : Nat} {X : DataW Nat} {fs : List Fq} (h : w.ownsMap Try.prog 9 RF b n X) (hh : ∀ s, Maps.has X (ky s) = (lk fs s).isSome) (un : (fs.map Fq.nm).Nodup) : Maps.size X = fs.length := by
  obtain ⟨es, rfl, _, _⟩ := h.entries (Maps.string_keyed Try.underlying9)
  have := del_size h hh un (fun _ => false)
  have e1 : (es.filter fun _ => !false) = es := List.filter_eq_self.2 (fun _ _ => rfl)
  have e2 : (fs.filter fun _ => !false) = fs := List.filter_eq_self.2 (fun _ _ => rfl)
  rw [e1, e2] at this
  exact this
/-- A file under another name. -/
def Fq.ren (f : Fq) (t : ByteArray) : Fq := ⟨t, f.g, f.s, f.u, f.n, f.P, f.ops, f.fr⟩
theorem FOk.ren {w : World} {f : Fq} (h : FOk w f) (t : ByteArray) : FOk w (f.ren t) := ⟨h.cel, h.fi, h.ap, h.vl, h.n1, h.m1⟩
def Dq.ren (D : Dq) (f : Fq) (s t : ByteArray) : Dq := ⟨D.d, D.mb, D.rb, D.k, D.fs.filter (fun g => decide (g.nm ≠ s ∧ g.nm ≠ t)) ++ [f.ren t], D.rf⟩
theorem lk_fil {fs : List Fq} {s t x : ByteArray} : lk (fs.filter (fun g => decide (g.nm ≠ s ∧ g.nm ≠ t))) x = if x = s ∨ x = t then none else lk fs x := by
  unfold lk
  by_cases e : x = s ∨ x = t
  · rw [if_pos e]
    refine List.find?_eq_none.2 (fun g hg hd => ?_)
    have h1 := of_decide_eq_true (List.mem_filter.1 hg).2
    have h2 := of_decide_eq_true hd
    rw [h2] at h1
    exact e.elim h1.1 h1.2
  · rw [if_neg e]
    refine find_keepM fs (fun g _ hd => decide_eq_true ?_)
    have h2 := of_decide_eq_true hd
    rw [h2]
    exact ⟨fun q => e (.inl q), fun q => e (.inr q)⟩
theorem DOk.ren {w u : World} {D : Dq} {f : Fq} {s t : ByteArray} (h : DOk w D) (hl : lk D.fs s = some f) (hc : Chg [D.mb] w u) {X : DataW Nat} {n : Nat} (hm : u.ownsMap Try.prog 9 RF D.mb n X) (ha : ∀ x, X.atKey (ky x) .nil = if x = t then .held f.g else if x = s then .nil else dv (lk D.fs x)) (hh : ∀ x, Maps.has X (ky x) = (decide (x = t) || (!decide (x = s) && (lk D.fs x).isSome))) : DOk u (D.ren f s t) := by
  obtain ⟨hf, hfn⟩ := lk_mem hl
  have key : ∀ y ∈ (D.ren f s t).fs, (y ∈ D.fs ∧ y.nm ≠ s ∧ y.nm ≠ t) ∨ y = f.ren t := fun y hy => (List.mem_append.1 hy).imp (fun q => ⟨(List.mem_filter.1 q).1, of_decide_eq_true (List.mem_filter.1 q).2⟩) List.mem_singleton.1
  have hlk : ∀ x, lk (D.ren f s t).fs x = if x = t then some (f.ren t) else if x = s then none else lk D.fs x := fun x => by
    show lk (D.fs.filter (fun g => decide (g.nm ≠ s ∧ g.nm ≠ t)) ++ [f.ren t]) x = _
    rw [lk_add, lk_fil]
    by_cases e1 : x = t
    · rw [if_pos (.inr e1), if_pos e1, if_pos (show (f.ren t).nm = x from e1.symm)]
      rfl
    · rw [if_neg e1, if_neg (show ¬(f.ren t).nm = x from fun q => e1 q.symm), Option.or_none]
      by_cases e2 : x = s
      · rw [if_pos (.inl e2), if_pos e2]
      · rw [if_neg (fun q => q.elim e2 e1), if_neg e2]
  have hun : ((D.ren f s t).fs.map Fq.nm).Nodup := by
    show ((D.fs.filter (fun g => decide (g.nm ≠ s ∧ g.nm ≠ t)) ++ [f.ren t]).map Fq.nm).Nodup
    rw [List.map_append]
    refine List.nodup_append.2 ⟨(List.filter_sublist.map Fq.nm).nodup h.un, by simp, fun a ha b hb e => ?_⟩
    obtain ⟨g, hg, rfl⟩ := List.mem_map.1 ha
    have := List.mem_singleton.1 hb
    exact (of_decide_eq_true (List.mem_filter.1 hg).2).2 (e.trans this)
  have hh2 : ∀ x, Maps.has X (ky x) = (lk (D.ren f s t).fs x).isSome := fun x => by
    rw [hh, hlk]
    by_cases e1 : x = t
    · rw [if_pos e1, decide_eq_true e1]; rfl
    · rw [if_neg e1, decide_eq_false e1]
      by_cases e2 : x = s
      · rw [if_pos e2, decide_eq_true e2]; rfl
      · rw [if_neg e2, decide_eq_false e2]; rfl
  have hsz := map_size hm hh2 hun
  obtain ⟨n', Y, y1, y2⟩ := h.rm
  have nin : ∀ y ∈ D.fs, ∀ x ∈ y.bl, x ∉ [D.mb] := fun y hy x hx hq => (h.hd y hy x hx).2.1 (List.mem_singleton.1 hq)
  refine ⟨hc.mm h.cel (fun p hp hq => ?_), ⟨X, hsz ▸ ownMap_tight hm, fun x => ?_, hh2, hsz⟩, ⟨n', Y, ownMap_keep y1 (hc.block _ y1.lt (fun hq => h.h3.2.2 (List.mem_singleton.1 hq).symm)), y2⟩, fun y hy => ?_, fun y hy z hz hne x hx => ?_, fun y hy x hx => ?_, h.h3, hun, h.k1, ?_⟩
  · obtain rfl := List.mem_singleton.1 hp
    exact h.h3.1 (List.mem_singleton.1 hq)
  · rw [ha, hlk]
    by_cases e1 : x = t
    · rw [if_pos e1, if_pos e1]; rfl
    · rw [if_neg e1, if_neg e1]
      by_cases e2 : x = s
      · rw [if_pos e2, if_pos e2]; rfl
      · rw [if_neg e2, if_neg e2]
  · rcases key y hy with ⟨q1, _, _⟩ | rfl
    · exact (h.fl y q1).chg hc (nin y q1)
    · exact ((h.fl f hf).chg hc (nin f hf)).ren t
  · rcases key y hy with ⟨q1, q2, q3⟩ | rfl
    · rcases key z hz with ⟨r1, _, _⟩ | rfl
      · exact h.ap y q1 z r1 hne x hx
      · exact h.ap y q1 f hf (fun e => q2 (e.trans hfn)) x hx
    · rcases key z hz with ⟨r1, r2, _⟩ | rfl
      · exact h.ap f hf z r1 (fun e => r2 (e.symm.trans hfn)) x hx
      · exact absurd rfl hne
  · rcases key y hy with ⟨q1, _, _⟩ | rfl
    · exact h.hd y q1 x hx
    · exact h.hd f hf x hx
  · rw [← hsz]
    have e1 : (D.ren f s t).fs.length ≤ D.fs.length := by
      show (D.fs.filter (fun g => decide (g.nm ≠ s ∧ g.nm ≠ t)) ++ [f.ren t]).length ≤ _
      rw [List.length_append]
      have hlt : (D.fs.filter (fun g => decide (g.nm ≠ s ∧ g.nm ≠ t))).length < D.fs.length := by
        refine List.length_filter_lt_length_iff_exists.2 ⟨f, hf, ?_⟩
        simp [hfn]
      exact hlt
    rw [hsz]
    exact Nat.le_trans e1 h.n64
theorem DOk.two {w : World} {D : Dq} {f : Fq} (h : DOk w D) (hf : f ∈ D.fs) : Mm w [(D.d, [Value.map (some D.mb), Value.map (some D.rb), Value.int .i64 ((D.k : Nat) : Int)]), (f.g, [f.s, f.u, Value.bool f.fr])] := by
  have h1 := (h.fl f hf).cel
  have h2 := h.cel
  exact ⟨fun p hp => by
    rcases List.mem_cons.1 hp with e | e
    · rw [e]; exact h2.blk _ (List.mem_cons_self ..)
    · exact h1.blk p e, List.Pairwise.cons (fun p hp e => by
    rw [List.mem_singleton.1 hp] at e
    exact (h.hd f hf f.g (by unfold Fq.bl; exact List.mem_cons_self ..)).1 e.symm) h1.nd⟩
end Wi
end Rg
end Go.Proofs.Ytidicdlfjdlpnaa
end
section
namespace Go.Proofs.Ytidicdlfjdlpnaa
open Go.RowKit
namespace Rg
namespace Wi
set_option maxRecDepth 100000
set_option maxHeartbeats 2000000 in
set_option maxRecDepth 100000 in
theorem Ops_ok (d mb rb k : Nat) (w : World) (hm : Mm w [(d, [Value.map (some mb), Value.map (some rb), Value.int .i64 ((k : Nat) : Int)])]) :
    Calls Try.prog 28 #[PT d 0] w fun e w' => e = .returned (.int .i64 ((k : Nat) : Int)) ∧ Below w.heap.size w w' := by
  have H0 : Hid (_ ∧ _) := ⟨hm, Below.refl w.heap.size w⟩
  clear hm
  go_enter Try.func28, Try.ntmps28
  refine wp_seq ?_
  refine sq_startW (l := [0]) rfl (fun u0 hu0 => ?_)
  have H1 : Hid (Mm u0 [(d, [Value.map (some mb), Value.map (some rb), Value.int .i64 ((k : Nat) : Int)])] ∧ Below w.heap.size w u0) := by rw [hu0]; exact H0
  clear hu0 H0
  refine rest_set (d := 2) (v := .int .i64 0) (w' := u0) rfl rfl rfl (rfl) ?_
  simp only [Act.put, sa, sz, ss]
  refine rest_nil (then_normal ?_)
  refine wp_seq (wp_seq ?_)
  refine sq_start (l := [0, 1, 2]) rfl ?_
  refine rest_set (d := 3) (v := PT d 0) (w' := u0) rfl rfl rfl (rfl) ?_
  simp only [Act.put, sa, sz, ss]
  refine rest_enter (d := 4) (R := fun vv w' => vv = .bool true ∧ Below u0.heap.size u0 w') rfl rfl rfl (exec_call (args := #[PT d 0]) rfl call75 rfl (mpn rfl)) (Calls.mono (made_ok d mb rb ((k : Nat) : Int) u0 (H1.out.1.one 0 rfl)) (fun e w2 hh => ⟨_, hh.1, rfl, hh.2⟩)) ?_
  rintro _ w2 ⟨rfl, hb⟩
  have H2 : Hid (Mm w2 [(d, [Value.map (some mb), Value.map (some rb), Value.int .i64 ((k : Nat) : Int)])] ∧ Below w.heap.size w w2) := ⟨H1.out.1.below hb, H1.out.2.trans (hb.mono H1.out.2.size)⟩
  clear hb
  clear H1
  simp only [Act.put, sa, sz, ss]
  refine rest_set (d := 5) (v := .bool false) (w' := w2) rfl rfl rfl (by go_simp) ?_
  simp only [Act.put, sa, sz, ss]
  refine rest_nil (then_normal ?_)
  refine wp_cond_false rfl (wp_skip ?_)
  refine then_normal (wp_seq ?_)
  refine sq_start (l := [0, 1, 2, 3, 4]) rfl ?_
  refine rest_set (d := 6) (v := PT d 0) (w' := w2) rfl rfl rfl (rfl) ?_
  simp only [Act.put, sa, sz, ss]
  refine rest_set (d := 7) (v := PT d 0) (w' := w2) rfl rfl rfl (by go_simp) ?_
  simp only [Act.put, sa, sz, ss]
  refine rest_set (d := 8) (v := PT d 2) (w' := w2) rfl rfl rfl (by go_simp) ?_
  simp only [Act.put, sa, sz, ss]
  refine rest_set (d := 9) (v := .int .i64 ((k : Nat) : Int)) (w' := w2) rfl rfl rfl (ex_loadC H2.out.1 0 rfl rfl rfl Try.isAgg3 rfl) ?_
  simp only [Act.put, sa, sz, ss]
  refine rest_set (d := 2) (v := .int .i64 ((k : Nat) : Int)) (w' := w2) rfl rfl rfl (rfl) ?_
  simp only [Act.put, sa, sz, ss]
  refine rest_nil (then_normal (wp_ret ?_))
  repeat (first | refine then_ret ?_ | refine block_ret ?_)
  refine bodyPost_ret (v := .int .i64 ((k : Nat) : Int)) (by simp [results, Try.results28, go_sem, *]) rfl ?_
  exact ⟨rfl, H2.out.2⟩
set_option maxHeartbeats 2000000 in
set_option maxRecDepth 100000 in
theorem quiet_hit (d mb rb g m cu : Nat) (pu : Option Addr) (S : Value) (fr : Bool) (k : Int) (s : ByteArray) (hm0 : m = 0) (w : World) (hm : Mm w [(d, [Value.map (some mb), Value.map (some rb), Value.int .i64 k]), (g, [S, Value.slice pu m cu, Value.bool fr])]) (hlk0 : ∀ u, Below w.heap.size w u → (Instr.lookup 39 (.map (some mb)) (.string s) false).run Try.prog u = .ok (PT g 0) u) :
    Calls Try.prog 74 #[PT d 0, .string s] w fun e w' => e = .returned (.tuple #[PT g 0, .int .i64 0]) ∧ Below w.heap.size w w' := by
  have H0 : Hid (_ ∧ _) := ⟨hm, Below.refl w.heap.size w⟩
  clear hm
  have hlk : Hid _ := hlk0
  clear hlk0
  go_enter Try.func74, Try.ntmps74
  refine wp_seq ?_
  refine sq_startW (l := [0, 1]) rfl (fun u0 hu0 => ?_)
  have H1 : Hid (Mm u0 [(d, [Value.map (some mb), Value.map (some rb), Value.int .i64 k]), (g, [S, Value.slice pu m cu, Value.bool fr])] ∧ Below w.heap.size w u0) := by rw [hu0]; exact H0
  clear hu0 H0
  refine rest_set (d := 4) (v := .pointer none) (w' := u0) rfl rfl rfl (rfl) ?_
  simp only [Act.put, sa, sz, ss]
  refine rest_set (d := 5) (v := .int .i64 0) (w' := u0) rfl rfl rfl (rfl) ?_
  simp only [Act.put, sa, sz, ss]
  refine rest_nil (then_normal (wp_seq ?_))
  refine sq_start (l := [0, 1, 2, 3, 4, 5, 6, 7]) rfl ?_
  refine rest_set (d := 9) (v := PT d 0) (w' := u0) rfl rfl rfl (rfl) ?_
  simp only [Act.put, sa, sz, ss]
  refine rest_set (d := 10) (v := .string s) (w' := u0) rfl rfl rfl (rfl) ?_
  simp only [Act.put, sa, sz, ss]
  refine rest_enter (d := 11) (R := fun vv w' => vv = .tuple #[PT g 0, .int .i64 0] ∧ Below u0.heap.size u0 w') rfl rfl rfl (exec_call (args := #[PT d 0, .string s]) rfl call64 rfl (mpn rfl)) (Calls.mono (find_hit d mb rb g k s u0 (H1.out.1.one 0 rfl) (fun u hu => hlk.out u (H1.out.2.trans (hu.mono H1.out.2.size)))) (fun e w2 hh => ⟨_, hh.1, rfl, hh.2⟩)) ?_
  rintro _ w2 ⟨rfl, hb⟩
  have H2 : Hid (Mm w2 [(d, [Value.map (some mb), Value.map (some rb), Value.int .i64 k]), (g, [S, Value.slice pu m cu, Value.bool fr])] ∧ Below w.heap.size w w2) := ⟨H1.out.1.below hb, H1.out.2.trans (hb.mono H1.out.2.size)⟩
  clear hb
  clear H1
  simp only [Act.put, sa, sz, ss]
  refine rest_set (d := 8) (v := .tuple #[PT g 0, .int .i64 0]) (w' := w2) rfl rfl rfl (rfl) ?_
  simp only [Act.put, sa, sz, ss]
  refine rest_set (d := 12) (v := PT g 0) (w' := w2) rfl rfl rfl (by go_simp) ?_
  simp only [Act.put, sa, sz, ss]
  refine rest_set (d := 13) (v := .int .i64 0) (w' := w2) rfl rfl rfl (by go_simp) ?_
  simp only [Act.put, sa, sz, ss]
  refine rest_set (d := 6) (v := PT g 0) (w' := w2) rfl rfl rfl (rfl) ?_
  simp only [Act.put, sa, sz, ss]
  refine rest_set (d := 7) (v := .int .i64 0) (w' := w2) rfl rfl rfl (rfl) ?_
  simp only [Act.put, sa, sz, ss]
  refine rest_nil (then_normal ?_)
  refine wp_seq (wp_seq ?_)
  refine sq_start (l := [0, 1, 2, 3, 4, 5, 6, 7, 8, 9]) rfl ?_
  refine rest_set (d := 14) (v := .int .i64 0) (w' := w2) rfl rfl rfl (rfl) ?_
  simp only [Act.put, sa, sz, ss]
  refine rest_set (d := 15) (v := .bool true) (w' := w2) rfl rfl rfl (by kernel_rfl) ?_
  simp only [Act.put, sa, sz, ss]
  refine rest_set (d := 16) (v := .bool true) (w' := w2) rfl rfl rfl (rfl) ?_
  simp only [Act.put, sa, sz, ss]
  refine rest_set (d := 17) (v := PT g 0) (w' := w2) rfl rfl rfl (rfl) ?_
  simp only [Act.put, sa, sz, ss]
  refine rest_set (d := 18) (v := PT g 0) (w' := w2) rfl rfl rfl (by go_simp) ?_
  simp only [Act.put, sa, sz, ss]
  refine rest_set (d := 19) (v := PT g 1) (w' := w2) rfl rfl rfl (by go_simp) ?_
  simp only [Act.put, sa, sz, ss]
  refine rest_set (d := 20) (v := .slice pu m cu) (w' := w2) rfl rfl rfl (ex_loadC H2.out.1 1 rfl rfl rfl Try.isAgg115 rfl) ?_
  simp only [Act.put, sa, sz, ss]
  refine rest_set (d := 21) (v := .int .i64 ((m : Nat) : Int)) (w' := w2) rfl rfl rfl (by go_simp) ?_
  simp only [Act.put, sa, sz, ss]
  refine rest_set (d := 22) (v := .bool false) (w' := w2) rfl rfl rfl (by go_simp <;> omega) ?_
  simp only [Act.put, sa, sz, ss]
  refine rest_set (d := 23) (v := .bool false) (w' := w2) rfl rfl rfl (by go_simp) ?_
  simp only [Act.put, sa, sz, ss]
  refine rest_nil (then_normal ?_)
  refine wp_cond_false rfl (wp_skip ?_)
  refine then_normal (wp_seq ?_)
  refine sq_start (l := [0, 1, 2, 3]) rfl ?_
  refine rest_set (d := 24) (v := PT g 0) (w' := w2) rfl rfl rfl (rfl) ?_
  simp only [Act.put, sa, sz, ss]
  refine rest_set (d := 25) (v := .int .i64 0) (w' := w2) rfl rfl rfl (rfl) ?_
  simp only [Act.put, sa, sz, ss]
  refine rest_set (d := 4) (v := PT g 0) (w' := w2) rfl rfl rfl (rfl) ?_
  simp only [Act.put, sa, sz, ss]
  refine rest_set (d := 5) (v := .int .i64 0) (w' := w2) rfl rfl rfl (rfl) ?_
  simp only [Act.put, sa, sz, ss]
  refine rest_nil (then_normal (wp_ret ?_))
  repeat (first | refine then_ret ?_ | refine block_ret ?_)
  refine bodyPost_ret (v := .tuple #[PT g 0, .int .i64 0]) (by simp [results, Try.results74, go_sem, *]) rfl ?_
  exact ⟨rfl, H2.out.2⟩
set_option maxHeartbeats 2000000 in
set_option maxRecDepth 100000 in
theorem quiet_busy (d mb rb g m cu : Nat) (pu : Option Addr) (S : Value) (fr : Bool) (k : Int) (s : ByteArray) (hm0 : 0 < m) (w : World) (hm : Mm w [(d, [Value.map (some mb), Value.map (some rb), Value.int .i64 k]), (g, [S, Value.slice pu m cu, Value.bool fr])]) (hlk0 : ∀ u, Below w.heap.size w u → (Instr.lookup 39 (.map (some mb)) (.string s) false).run Try.prog u = .ok (PT g 0) u) :
    Calls Try.prog 74 #[PT d 0, .string s] w fun e w' => e = .returned (.tuple #[.pointer none, .int .i64 10]) ∧ Below w.heap.size w w' := by
  have H0 : Hid (_ ∧ _) := ⟨hm, Below.refl w.heap.size w⟩
  clear hm
  have hlk : Hid _ := hlk0
  clear hlk0
  go_enter Try.func74, Try.ntmps74
  refine wp_seq ?_
  refine sq_startW (l := [0, 1]) rfl (fun u0 hu0 => ?_)
  have H1 : Hid (Mm u0 [(d, [Value.map (some mb), Value.map (some rb), Value.int .i64 k]), (g, [S, Value.slice pu m cu, Value.bool fr])] ∧ Below w.heap.size w u0) := by rw [hu0]; exact H0
  clear hu0 H0
  refine rest_set (d := 4) (v := .pointer none) (w' := u0) rfl rfl rfl (rfl) ?_
  simp only [Act.put, sa, sz, ss]
  refine rest_set (d := 5) (v := .int .i64 0) (w' := u0) rfl rfl rfl (rfl) ?_
  simp only [Act.put, sa, sz, ss]
  refine rest_nil (then_normal (wp_seq ?_))
  refine sq_start (l := [0, 1, 2, 3, 4, 5, 6, 7]) rfl ?_
  refine rest_set (d := 9) (v := PT d 0) (w' := u0) rfl rfl rfl (rfl) ?_
  simp only [Act.put, sa, sz, ss]
  refine rest_set (d := 10) (v := .string s) (w' := u0) rfl rfl rfl (rfl) ?_
  simp only [Act.put, sa, sz, ss]
  refine rest_enter (d := 11) (R := fun vv w' => vv = .tuple #[PT g 0, .int .i64 0] ∧ Below u0.heap.size u0 w') rfl rfl rfl (exec_call (args := #[PT d 0, .string s]) rfl call64 rfl (mpn rfl)) (Calls.mono (find_hit d mb rb g k s u0 (H1.out.1.one 0 rfl) (fun u hu => hlk.out u (H1.out.2.trans (hu.mono H1.out.2.size)))) (fun e w2 hh => ⟨_, hh.1, rfl, hh.2⟩)) ?_
  rintro _ w2 ⟨rfl, hb⟩
  have H2 : Hid (Mm w2 [(d, [Value.map (some mb), Value.map (some rb), Value.int .i64 k]), (g, [S, Value.slice pu m cu, Value.bool fr])] ∧ Below w.heap.size w w2) := ⟨H1.out.1.below hb, H1.out.2.trans (hb.mono H1.out.2.size)⟩
  clear hb
  clear H1
  simp only [Act.put, sa, sz, ss]
  refine rest_set (d := 8) (v := .tuple #[PT g 0, .int .i64 0]) (w' := w2) rfl rfl rfl (rfl) ?_
  simp only [Act.put, sa, sz, ss]
  refine rest_set (d := 12) (v := PT g 0) (w' := w2) rfl rfl rfl (by go_simp) ?_
  simp only [Act.put, sa, sz, ss]
  refine rest_set (d := 13) (v := .int .i64 0) (w' := w2) rfl rfl rfl (by go_simp) ?_
  simp only [Act.put, sa, sz, ss]
  refine rest_set (d := 6) (v := PT g 0) (w' := w2) rfl rfl rfl (rfl) ?_
  simp only [Act.put, sa, sz, ss]
  refine rest_set (d := 7) (v := .int .i64 0) (w' := w2) rfl rfl rfl (rfl) ?_
  simp only [Act.put, sa, sz, ss]
  refine rest_nil (then_normal ?_)
  refine wp_seq (wp_seq ?_)
  refine sq_start (l := [0, 1, 2, 3, 4, 5, 6, 7, 8, 9]) rfl ?_
  refine rest_set (d := 14) (v := .int .i64 0) (w' := w2) rfl rfl rfl (rfl) ?_
  simp only [Act.put, sa, sz, ss]
  refine rest_set (d := 15) (v := .bool true) (w' := w2) rfl rfl rfl (by kernel_rfl) ?_
  simp only [Act.put, sa, sz, ss]
  refine rest_set (d := 16) (v := .bool true) (w' := w2) rfl rfl rfl (rfl) ?_
  simp only [Act.put, sa, sz, ss]
  refine rest_set (d := 17) (v := PT g 0) (w' := w2) rfl rfl rfl (rfl) ?_
  simp only [Act.put, sa, sz, ss]
  refine rest_set (d := 18) (v := PT g 0) (w' := w2) rfl rfl rfl (by go_simp) ?_
  simp only [Act.put, sa, sz, ss]
  refine rest_set (d := 19) (v := PT g 1) (w' := w2) rfl rfl rfl (by go_simp) ?_
  simp only [Act.put, sa, sz, ss]
  refine rest_set (d := 20) (v := .slice pu m cu) (w' := w2) rfl rfl rfl (ex_loadC H2.out.1 1 rfl rfl rfl Try.isAgg115 rfl) ?_
  simp only [Act.put, sa, sz, ss]
  refine rest_set (d := 21) (v := .int .i64 ((m : Nat) : Int)) (w' := w2) rfl rfl rfl (by go_simp) ?_
  simp only [Act.put, sa, sz, ss]
  refine rest_set (d := 22) (v := .bool true) (w' := w2) rfl rfl rfl (by go_simp <;> omega) ?_
  simp only [Act.put, sa, sz, ss]
  refine rest_set (d := 23) (v := .bool true) (w' := w2) rfl rfl rfl (by go_simp) ?_
  simp only [Act.put, sa, sz, ss]
  refine rest_nil (then_normal ?_)
  refine wp_cond_true rfl (wp_seq ?_)
  refine sq_start (l := [0, 1]) rfl ?_
  refine rest_set (d := 4) (v := .pointer none) (w' := w2) rfl rfl rfl (rfl) ?_
  simp only [Act.put, sa, sz, ss]
  refine rest_set (d := 5) (v := .int .i64 10) (w' := w2) rfl rfl rfl (rfl) ?_
  simp only [Act.put, sa, sz, ss]
  refine rest_nil (then_normal (wp_ret ?_))
  repeat (first | refine then_ret ?_ | refine block_ret ?_)
  refine bodyPost_ret (v := .tuple #[.pointer none, .int .i64 10]) (by simp [results, Try.results74, go_sem, *]) rfl ?_
  exact ⟨rfl, H2.out.2⟩
set_option maxHeartbeats 2000000 in
set_option maxRecDepth 100000 in
theorem quiet_miss (d mb rb : Nat) (k : Int) (s : ByteArray) (w : World) (hm : Mm w [(d, [Value.map (some mb), Value.map (some rb), Value.int .i64 k])]) (hlk0 : ∀ u, Below w.heap.size w u → (Instr.lookup 39 (.map (some mb)) (.string s) false).run Try.prog u = .ok (.pointer none) u) :
    Calls Try.prog 74 #[PT d 0, .string s] w fun e w' => e = .returned (.tuple #[.pointer none, .int .i64 6]) ∧ Below w.heap.size w w' := by
  have H0 : Hid (_ ∧ _) := ⟨hm, Below.refl w.heap.size w⟩
  clear hm
  have hlk : Hid _ := hlk0
  clear hlk0
  go_enter Try.func74, Try.ntmps74
  refine wp_seq ?_
  refine sq_startW (l := [0, 1]) rfl (fun u0 hu0 => ?_)
  have H1 : Hid (Mm u0 [(d, [Value.map (some mb), Value.map (some rb), Value.int .i64 k])] ∧ Below w.heap.size w u0) := by rw [hu0]; exact H0
  clear hu0 H0
  refine rest_set (d := 4) (v := .pointer none) (w' := u0) rfl rfl rfl (rfl) ?_
  simp only [Act.put, sa, sz, ss]
  refine rest_set (d := 5) (v := .int .i64 0) (w' := u0) rfl rfl rfl (rfl) ?_
  simp only [Act.put, sa, sz, ss]
  refine rest_nil (then_normal (wp_seq ?_))
  refine sq_start (l := [0, 1, 2, 3, 4, 5, 6, 7]) rfl ?_
  refine rest_set (d := 9) (v := PT d 0) (w' := u0) rfl rfl rfl (rfl) ?_
  simp only [Act.put, sa, sz, ss]
  refine rest_set (d := 10) (v := .string s) (w' := u0) rfl rfl rfl (rfl) ?_
  simp only [Act.put, sa, sz, ss]
  refine rest_enter (d := 11) (R := fun vv w' => vv = .tuple #[.pointer none, .int .i64 6] ∧ Below u0.heap.size u0 w') rfl rfl rfl (exec_call (args := #[PT d 0, .string s]) rfl call64 rfl (mpn rfl)) (Calls.mono (find_miss d mb rb k s u0 (H1.out.1.one 0 rfl) (fun u hu => hlk.out u (H1.out.2.trans (hu.mono H1.out.2.size)))) (fun e w2 hh => ⟨_, hh.1, rfl, hh.2⟩)) ?_
  rintro _ w2 ⟨rfl, hb⟩
  have H2 : Hid (Mm w2 [(d, [Value.map (some mb), Value.map (some rb), Value.int .i64 k])] ∧ Below w.heap.size w w2) := ⟨H1.out.1.below hb, H1.out.2.trans (hb.mono H1.out.2.size)⟩
  clear hb
  clear H1
  simp only [Act.put, sa, sz, ss]
  refine rest_set (d := 8) (v := .tuple #[.pointer none, .int .i64 6]) (w' := w2) rfl rfl rfl (rfl) ?_
  simp only [Act.put, sa, sz, ss]
  refine rest_set (d := 12) (v := .pointer none) (w' := w2) rfl rfl rfl (by go_simp) ?_
  simp only [Act.put, sa, sz, ss]
  refine rest_set (d := 13) (v := .int .i64 6) (w' := w2) rfl rfl rfl (by go_simp) ?_
  simp only [Act.put, sa, sz, ss]
  refine rest_set (d := 6) (v := .pointer none) (w' := w2) rfl rfl rfl (rfl) ?_
  simp only [Act.put, sa, sz, ss]
  refine rest_set (d := 7) (v := .int .i64 6) (w' := w2) rfl rfl rfl (rfl) ?_
  simp only [Act.put, sa, sz, ss]
  refine rest_nil (then_normal ?_)
  refine wp_seq (wp_seq ?_)
  refine sq_start (l := [0, 1, 2, 3, 4, 5, 6, 7, 8, 9]) rfl ?_
  refine rest_set (d := 14) (v := .int .i64 6) (w' := w2) rfl rfl rfl (rfl) ?_
  simp only [Act.put, sa, sz, ss]
  refine rest_set (d := 15) (v := .bool false) (w' := w2) rfl rfl rfl (by kernel_rfl) ?_
  simp only [Act.put, sa, sz, ss]
  refine rest_set (d := 16) (v := .bool false) (w' := w2) rfl rfl rfl (rfl) ?_
  simp only [Act.put, sa, sz, ss]
  refine rest_gone1 (d := 17) rfl rfl rfl ?_
  simp only [Act.put, sa, sz, ss]
  refine rest_gone1 (d := 18) rfl rfl rfl ?_
  simp only [Act.put, sa, sz, ss]
  refine rest_gone1 (d := 19) rfl rfl rfl ?_
  simp only [Act.put, sa, sz, ss]
  refine rest_gone1 (d := 20) rfl rfl rfl ?_
  simp only [Act.put, sa, sz, ss]
  refine rest_gone1 (d := 21) rfl rfl rfl ?_
  simp only [Act.put, sa, sz, ss]
  refine rest_gone1 (d := 22) rfl rfl rfl ?_
  simp only [Act.put, sa, sz, ss]
  refine rest_set (d := 23) (v := .bool false) (w' := w2) rfl rfl rfl (by go_simp) ?_
  simp only [Act.put, sa, sz, ss]
  refine rest_nil (then_normal ?_)
  refine wp_cond_false rfl (wp_skip ?_)
  refine then_normal (wp_seq ?_)
  refine sq_start (l := [0, 1, 2, 3]) rfl ?_
  refine rest_set (d := 24) (v := .pointer none) (w' := w2) rfl rfl rfl (rfl) ?_
  simp only [Act.put, sa, sz, ss]
  refine rest_set (d := 25) (v := .int .i64 6) (w' := w2) rfl rfl rfl (rfl) ?_
  simp only [Act.put, sa, sz, ss]
  refine rest_set (d := 4) (v := .pointer none) (w' := w2) rfl rfl rfl (rfl) ?_
  simp only [Act.put, sa, sz, ss]
  refine rest_set (d := 5) (v := .int .i64 6) (w' := w2) rfl rfl rfl (rfl) ?_
  simp only [Act.put, sa, sz, ss]
  refine rest_nil (then_normal (wp_ret ?_))
  repeat (first | refine then_ret ?_ | refine block_ret ?_)
  refine bodyPost_ret (v := .tuple #[.pointer none, .int .i64 6]) (by simp [results, Try.results74, go_sem, *]) rfl ?_
  exact ⟨rfl, H2.out.2⟩
theorem Ops_f (D : Dq) (w : World) (h : DOk w D) : Calls Try.prog 28 #[PT D.d 0] w fun e w' => e = .returned (.int .i64 ((D.k : Nat) : Int)) ∧ Below w.heap.size w w' := Ops_ok D.d D.mb D.rb D.k w h.cel
end Wi
end Rg
end Go.Proofs.Ytidicdlfjdlpnaa
end
section
namespace Go.Proofs.Ytidicdlfjdlpnaa
open Go.RowKit
namespace Rg
namespace Wi
set_option maxRecDepth 100000
open Go.Shelf Go.Maps
theorem quiet_f_hit (D : Dq) (s : ByteArray) (hs : s.size ≤ maxLen) (f : Fq) (w : World) (h : DOk w D) (hl : lk D.fs s = some f) (ho : f.ops.length = 0) : Calls Try.prog 74 #[PT D.d 0, .string s] w fun e w' => e = .returned (.tuple #[PT f.g 0, .int .i64 0]) ∧ Below w.heap.size w w' := by
  obtain ⟨hf, _⟩ := lk_mem hl
  obtain ⟨pu, cu, eu⟩ := (h.fl f hf).bare ho
  have h2 := h.two hf
  rw [eu] at h2
  exact quiet_hit D.d D.mb D.rb f.g 0 cu pu f.s f.fr _ s rfl w h2 (fun u hu => by rw [h.look s hs (hu.block _ (h.blt _ (by unfold Dq.bl; simp))), hl]; rfl)
theorem quiet_f_busy (D : Dq) (s : ByteArray) (hs : s.size ≤ maxLen) (f : Fq) (w : World) (h : DOk w D) (hl : lk D.fs s = some f) (ho : 0 < f.ops.length) : Calls Try.prog 74 #[PT D.d 0, .string s] w fun e w' => e = .returned (.tuple #[.pointer none, .int .i64 10]) ∧ Below w.heap.size w w' := by
  obtain ⟨hf, _⟩ := lk_mem hl
  obtain ⟨gu, cu, eu, _⟩ := (h.fl f hf).und ho
  have h2 := h.two hf
  rw [eu] at h2
  exact quiet_busy D.d D.mb D.rb f.g f.ops.length cu _ f.s f.fr _ s ho w h2 (fun u hu => by rw [h.look s hs (hu.block _ (h.blt _ (by unfold Dq.bl; simp))), hl]; rfl)
theorem bel_on {w u v : World} (h1 : Below w.heap.size w u) (h2 : Below u.heap.size u v) : Below w.heap.size w v := h1.trans (h2.mono h1.size)
theorem named_is {t : ByteArray} (hn : nmd t = true) (w : World) : Calls Try.prog 67 #[.string t] w fun e w' => e = .returned (.bool true) ∧ Below w.heap.size w w' := by
  have := named_any t w
  rwa [hn] at this
set_option maxHeartbeats 2000000 in
theorem Rename_busy_f (D : Dq) (s t : ByteArray) (hs : s.size ≤ maxLen) (hn : nmd t = true) (f : Fq) (w : World) (h : DOk w D) (hk : D.k + 1 < 4611686018427387904) (hno : D.no = false) (hl : lk D.fs s = some f) (ho : 0 < f.ops.length) :
    Calls Try.prog 22 #[PT D.d 0, .string s, .string t] w fun e w' => e = .returned (.int .i64 10) ∧ Dw w D D.tick w' := by
  have hc0 : Calls Try.prog 66 #[PT D.d 0] w fun e w' => e = .returned (.int .i64 0) ∧ DOk w' D.tick ∧ Chg D.bl w w' := (count_f D w h hk).mono fun e w' hh => ⟨by rw [hh.1, hno]; rfl, hh.2⟩
  clear h
  go_enter Try.func22, Try.ntmps22
  go_wp2_with (first
    | (go_at_call 66; refine hc0.mono ?_; rintro e w1 ⟨rfl, h1, hc1⟩; have HD : Hid (DOk w1 D.tick) := h1; clear h1)
    | (go_at_call 67; refine (named_is hn w1).mono ?_; rintro e w2 ⟨rfl, hb2⟩)
    | (go_at_call 74; refine (quiet_f_busy D.tick s hs f w2 (HD.out.below hb2) hl ho).mono ?_; rintro e w3 ⟨rfl, hb3⟩)
    | go_in)
  go_ret
  exact ⟨rfl, HD.out.below (bel_on hb2 hb3), hc1.below (bel_on hb2 hb3), fun x hx => .inl hx⟩
theorem ren_put {w w3 w4 u : World} {D0 : Dq} {D : Dq} {f : Fq} {s t : ByteArray} {X : DataW Nat} {n : Nat} (h : DOk w3 D) (hc : Chg D0.bl w w3) (hl : lk D.fs s = some f) (ht : t.size ≤ maxLen) (x2 : ∀ x, X.atKey (ky x) .nil = dv (lk D.fs x)) (x3 : ∀ x, Maps.has X (ky x) = (lk D.fs x).isSome) (hown : w4.ownsMap Try.prog 9 RF D.mb n (X.del (ky s))) (hg : w3.grownBy w4 (some D.mb)) (hb : Below w4.heap.size w4 u) (hn : n < maxLen) (hmb : D.mb ∈ D0.bl) :
    ∃ u', (Instr.mapUpdate 39 (.map (some D.mb)) (.string t) (PT f.g 0)).run Try.prog u = .ok () u' ∧ DOk u' (D.ren f s t) ∧ Chg D0.bl w u' := by
  have hlt := hown.lt
  have y1 := ownMap_keep hown (hb.block _ hlt)
  obtain ⟨u', hr, hm, hg2⟩ := y1.update (Maps.string_keyed Try.underlying9) Try.underlying39 hn (WideMaps.keyOf_string_mk Try.underlying9 ht) (show RF (PT f.g 0) = some (.held f.g, []) from rfl)
  have c1 : Chg [D.mb] w3 u' := ((Chg.grown hg).below hb).trans (Chg.grown hg2) (fun x hx => .inl hx)
  refine ⟨u', hr, h.ren hl c1 hm (fun x => ?_) (fun x => ?_), hc.trans c1 (fun x hx => .inl (by rw [List.mem_singleton.1 hx]; exact hmb))⟩
  · by_cases e : x = t
    · subst e
      rw [if_pos rfl]
      exact Maps.atKey_put_same y1.isMap (ky_lit x) _ _
    · rw [if_neg e, show (DataW.put (X.del (ky s)) (Lit.string t.data.toList) (.held f.g)).atKey (ky x) .nil = (X.del (ky s)).atKey (ky x) .nil from Maps.atKey_put_other (fun e2 => e (ky_inj e2)) _ _]
      by_cases e2 : x = s
      · rw [if_pos e2, e2, Maps.atKey_del_same]
      · rw [if_neg e2, Maps.atKey_del_other (fun e3 => e2 (ky_inj e3)), x2]
  · by_cases e : x = t
    · subst e
      rw [decide_eq_true rfl, Bool.true_or]
      exact Maps.has_put_same y1.isMap (ky_lit x) _
    · rw [decide_eq_false e, Bool.false_or, show Maps.has (DataW.put (X.del (ky s)) (Lit.string t.data.toList) (.held f.g)) (ky x) = Maps.has (X.del (ky s)) (ky x) from Maps.has_put_other (fun e2 => e (ky_inj e2)) _]
      by_cases e2 : x = s
      · rw [decide_eq_true e2, e2, Maps.has_del_same]
        rfl
      · rw [decide_eq_false e2, Maps.has_del_other (fun e3 => e2 (ky_inj e3)), x3]
        rfl
theorem ren_pre {w : World} {D : Dq} (h : DOk w D) : ∃ X, w.ownsMap Try.prog 9 RF D.mb D.fs.length X ∧ (∀ x, X.atKey (ky x) .nil = dv (lk D.fs x)) ∧ (∀ x, Maps.has X (ky x) = (lk D.fs x).isSome) ∧ w.cell? ⟨D.d, 0, none⟩ = some (.map (some D.mb)) ∧ ∀ u, w.mapTurned u D.mb → Mm u [(D.d, [Value.map (some D.mb), Value.map (some D.rb), Value.int .i64 ((D.k : Nat) : Int)])] := by
  obtain ⟨X, x1, x2, x3, x4⟩ := h.mp
  refine ⟨X, x1, x2, x3, ((h.cel.blk _ (List.mem_cons_self ..)).2 0 _ rfl).1, fun u hq => (Chg.grown hq.grown).mm h.cel (fun p hp hm => h.h3.1 ?_)⟩
  obtain rfl := List.mem_singleton.1 hp
  simpa using hm
end Wi
end Rg
end Go.Proofs.Ytidicdlfjdlpnaa
end
section
namespace Go.Proofs.Ytidicdlfjdlpnaa
open Go.RowKit
namespace Rg
namespace Wi
set_option maxRecDepth 100000
open Go.Shelf Go.Maps
set_option maxHeartbeats 400000 in
theorem Rename_ok_f (D : Dq) (s t : ByteArray) (hs : s.size ≤ maxLen) (ht : t.size ≤ 281474976710656) (hn : nmd t = true) (f : Fq) (w : World) (h : DOk w D) (hk : D.k + 1 < 4611686018427387904) (hno : D.no = false) (hl : lk D.fs s = some f) (ho : f.ops.length = 0) :
    Calls Try.prog 22 #[PT D.d 0, .string s, .string t] w fun e w' => e = .returned (.int .i64 0) ∧ Dw w D (D.tick.ren f s t) w' := by
  have hc0 : Calls Try.prog 66 #[PT D.d 0] w fun e w' => e = .returned (.int .i64 0) ∧ DOk w' D.tick ∧ Chg D.bl w w' := (count_f D w h hk).mono fun e w' hh => ⟨by rw [hh.1, hno]; rfl, hh.2⟩
  have htm : t.size ≤ maxLen := by unfold maxLen; omega
  clear h
  go_enter Try.func22, Try.ntmps22
  go_wp2_with (first
    | (go_at_call 66; refine hc0.mono ?_; rintro e w1 ⟨rfl, h1, hc1⟩; have HD : Hid (DOk w1 D.tick) := h1; clear h1)
    | (go_at_call 67; refine (named_is hn w1).mono ?_; rintro e w2 ⟨rfl, hb2⟩)
    | (go_at_call 74; refine (quiet_f_hit D.tick s hs f w2 (HD.out.below hb2) hl ho).mono ?_; rintro e w3 ⟨rfl, hb3⟩; have H3 : Hid (DOk w3 D.tick) := HD.out.below (bel_on hb2 hb3); have hc3 : Chg D.bl w w3 := hc1.below (bel_on hb2 hb3); obtain ⟨X, x1, x2, x3, cD0, hmd⟩ := ren_pre H3.out; have cD : w3.cell? ⟨D.d, 0, none⟩ = some (.map (some D.mb)) := cD0; clear cD0)
    | (at_delete; refine wpList_delete_own _ rfl _ _ 39 9 rfl 111 (Maps.string_keyed Try.underlying9) Try.underlying39 RF D.mb _ X rfl x1 _ (ky s) rfl (WideMaps.keyOf_string_mk Try.underlying9 hs) ?_; intro w4 hown4 hturn4)
    | (go_at_call 71; refine (put_any D.d D.mb D.rb f.g _ t ht (fun u => DOk u (D.tick.ren f s t) ∧ Chg D.bl w u) w4 (hmd w4 hturn4) (fun u u' q hb => ⟨q.1.below hb, q.2.below hb⟩) (fun u hb => ren_put H3.out hc3 hl htm x2 x3 hown4 hturn4.grown hb (by have := H3.out.n64; have : D.fs.length ≤ 64 := this; unfold maxLen; exact Nat.lt_of_le_of_lt this (by decide)) (show D.mb ∈ D.bl by unfold Dq.bl; simp))).mono ?_; rintro e w5 ⟨rfl, hD5, hc5⟩)
    | go_in)
  go_ret
  refine ⟨rfl, hD5, hc5, fun x hx => .inl ?_⟩
  unfold Dq.bl at hx
  simp only [List.mem_cons, List.mem_flatMap] at hx
  rcases hx with e | e | e | ⟨y, hy, e⟩
  · unfold Dq.bl; rw [e]; exact List.mem_cons_self ..
  · unfold Dq.bl; rw [e]; exact List.mem_cons_of_mem _ (List.mem_cons_self ..)
  · unfold Dq.bl; rw [e]; exact List.mem_cons_of_mem _ (List.mem_cons_of_mem _ (List.mem_cons_self ..))
  · rcases List.mem_append.1 hy with q | q
    · exact Dq.fbl (List.mem_filter.1 q).1 x e
    · rw [List.mem_singleton.1 q] at e
      exact Dq.fbl (lk_mem hl).1 x e
end Wi
end Rg
end Go.Proofs.Ytidicdlfjdlpnaa
end
section
/-
  DERIVED: THE SHELF's CONTRACTS AT THIS DUMP, IN PLAIN WORDS (tools/lay-plain.mjs out of 'YtidicdlfjdlpnaaSq.lean', which tools/lay-shelf.mjs wrote): THE SAME DECLARATIONS UNDER THE SAME NAMES: 'import', 'namespace', 'open', 'def', 'theorem' AND NOTHING ELSE: no command of the shelf's: FOR A HAND-IN. Each laying: the table of numbers ('.._ren') and one theorem, a field a fact of the dump's own or the kernel's comparison; each contract: ONE APPLICATION.
-/
namespace Go.Proofs
open Go.Shelf
def Try.keys80_ren : Go.Shelf.Ren := ⟨fun | 7 => 80 | 10 => 108 | n => n, fun | 23 => 39 | 26 => 9 | 3 => 111 | 28 => 131 | 0 => 0 | 27 => 130 | 33 => 84 | 4 => 4 | n => n, fun | n => n⟩
theorem Try.keys80 : Go.Proofs.SlLaysZ.n7 Try.prog Try.keys80_ren := {
  mixed := by kernel_rfl
  f7 := ⟨Try.f80.name, by decide, Try.func80.trans (congrArg some (by kernel_rfl))⟩
  f10 := ⟨Try.f108.name, by decide, Try.func108.trans (congrArg some (by kernel_rfl))⟩
  t0 := Try.underlying0
  a0 := Try.isAgg0
  z0 := Try.sizeOf0
  v0 := Try.zeroValue0
  t4 := Try.underlying4
  a4 := Try.isAgg4
  z4 := Try.sizeOf4
  v4 := Try.zeroValue4
  t23 := Try.underlying39
  a23 := Try.isAgg39
  z23 := Try.sizeOf39
  v23 := Try.zeroValue39
  t26 := Try.underlying9
  a26 := Try.isAgg9
  z26 := Try.sizeOf9
  v26 := Try.zeroValue9
  t27 := Try.underlying130
  a27 := Try.isAgg130
  z27 := Try.sizeOf130
  v27 := Try.zeroValue130
  t28 := Try.underlying131
  a28 := Try.isAgg131
  z28 := Try.sizeOf131
  v28 := Try.zeroValue131
  t33 := Try.underlying84
  a33 := Try.isAgg84
  z33 := Try.sizeOf84
  v33 := Try.zeroValue84 }
def Try.sorted79_ren : Go.Shelf.Ren := ⟨fun | 6 => 79 | 8 => 106 | 9 => 107 | 11 => 117 | 13 => 119 | 12 => 118 | 23 => 130 | 24 => 131 | 14 => 121 | 15 => 122 | 16 => 123 | 17 => 124 | 18 => 125 | 19 => 126 | 20 => 127 | 21 => 128 | 22 => 129 | 25 => 132 | 26 => 133 | 27 => 134 | 28 => 135 | 29 => 136 | 30 => 137 | 31 => 138 | n => n, fun | 26 => 9 | 28 => 131 | 24 => 51 | 0 => 0 | 3 => 3 | 37 => 136 | 48 => 72 | 50 => 179 | 4 => 4 | 40 => 170 | 39 => 169 | 45 => 175 | 5 => 5 | 9 => 9 | 51 => 180 | 55 => 184 | 57 => 186 | 58 => 187 | 33 => 84 | n => n, fun | n => n⟩
def Try.sort107_ren : Go.Shelf.Ren := ⟨fun | 6 => 107 | 8 => 119 | 9 => 118 | 19 => 130 | 20 => 131 | 21 => 121 | 22 => 122 | 23 => 123 | 24 => 124 | 25 => 125 | 26 => 126 | 27 => 127 | 28 => 128 | 29 => 129 | 36 => 132 | 31 => 133 | 32 => 134 | 37 => 135 | 38 => 136 | 39 => 137 | 41 => 138 | n => n, fun | 27 => 51 | 29 => 9 | 3 => 3 | 32 => 136 | 26 => 51 | 0 => 0 | 44 => 72 | 46 => 179 | 4 => 4 | 36 => 170 | 35 => 169 | 41 => 175 | 5 => 5 | 9 => 9 | 53 => 180 | 57 => 184 | 63 => 186 | 64 => 187 | n => n, fun | n => n⟩
theorem Try.sort107 : Go.Proofs.SlLaysM.n6 Try.prog Try.sort107_ren := {
  mixed := by kernel_rfl
  f6 := ⟨Try.f107.name, by decide, Try.func107.trans (congrArg some (by kernel_rfl))⟩
  f8 := Try.func119.trans (congrArg some (by kernel_rfl))
  f9 := ⟨Try.f118.name, by decide, Try.func118.trans (congrArg some (by kernel_rfl))⟩
  f19 := Try.func130.trans (congrArg some (by kernel_rfl))
  f20 := Try.func131.trans (congrArg some (by kernel_rfl))
  f21 := ⟨Try.f121.name, by decide, Try.func121.trans (congrArg some (by kernel_rfl))⟩
  f22 := ⟨Try.f122.name, by decide, Try.func122.trans (congrArg some (by kernel_rfl))⟩
  f23 := ⟨Try.f123.name, by decide, Try.func123.trans (congrArg some (by kernel_rfl))⟩
  f24 := ⟨Try.f124.name, by decide, Try.func124.trans (congrArg some (by kernel_rfl))⟩
  f25 := ⟨Try.f125.name, by decide, Try.func125.trans (congrArg some (by kernel_rfl))⟩
  f26 := ⟨Try.f126.name, by decide, Try.func126.trans (congrArg some (by kernel_rfl))⟩
  f27 := ⟨Try.f127.name, by decide, Try.func127.trans (congrArg some (by kernel_rfl))⟩
  f28 := ⟨Try.f128.name, by decide, Try.func128.trans (congrArg some (by kernel_rfl))⟩
  f29 := ⟨Try.f129.name, by decide, Try.func129.trans (congrArg some (by kernel_rfl))⟩
  f31 := Try.func133.trans (congrArg some (by kernel_rfl))
  f32 := Try.func134.trans (congrArg some (by kernel_rfl))
  f36 := ⟨Try.f132.name, by decide, Try.func132.trans (congrArg some (by kernel_rfl))⟩
  f37 := ⟨Try.f135.name, by decide, Try.func135.trans (congrArg some (by kernel_rfl))⟩
  f38 := ⟨Try.f136.name, by decide, Try.func136.trans (congrArg some (by kernel_rfl))⟩
  f39 := ⟨Try.f137.name, by decide, Try.func137.trans (congrArg some (by kernel_rfl))⟩
  f41 := ⟨Try.f138.name, by decide, Try.func138.trans (congrArg some (by kernel_rfl))⟩
  t0 := Try.underlying0
  a0 := Try.isAgg0
  z0 := Try.sizeOf0
  v0 := Try.zeroValue0
  t3 := Try.underlying3
  a3 := Try.isAgg3
  z3 := Try.sizeOf3
  v3 := Try.zeroValue3
  t4 := Try.underlying4
  a4 := Try.isAgg4
  z4 := Try.sizeOf4
  v4 := Try.zeroValue4
  t5 := Try.underlying5
  a5 := Try.isAgg5
  z5 := Try.sizeOf5
  v5 := Try.zeroValue5
  t9 := Try.underlying9
  a9 := Try.isAgg9
  z9 := Try.sizeOf9
  v9 := Try.zeroValue9
  t26 := Try.underlying51
  a26 := Try.isAgg51
  z26 := Try.sizeOf51
  v26 := Try.zeroValue51
  t27 := Try.underlying51
  a27 := Try.isAgg51
  z27 := Try.sizeOf51
  v27 := Try.zeroValue51
  t29 := Try.underlying9
  a29 := Try.isAgg9
  z29 := Try.sizeOf9
  v29 := Try.zeroValue9
  t32 := Try.underlying136
  a32 := Try.isAgg136
  z32 := Try.sizeOf136
  v32 := Try.zeroValue136
  t35 := Try.underlying169
  a35 := Try.isAgg169
  z35 := Try.sizeOf169
  v35 := Try.zeroValue169
  t36 := Try.underlying170
  a36 := Try.isAgg170
  z36 := Try.sizeOf170
  v36 := Try.zeroValue170
  t41 := Try.underlying175
  a41 := Try.isAgg175
  z41 := Try.sizeOf175
  v41 := Try.zeroValue175
  t44 := Try.underlying72
  a44 := Try.isAgg72
  z44 := Try.sizeOf72
  v44 := Try.zeroValue72
  t46 := Try.underlying179
  a46 := Try.isAgg179
  z46 := Try.sizeOf179
  v46 := Try.zeroValue179
  t53 := Try.underlying180
  a53 := Try.isAgg180
  z53 := Try.sizeOf180
  v53 := Try.zeroValue180
  t57 := Try.underlying184
  a57 := Try.isAgg184
  z57 := Try.sizeOf184
  v57 := Try.zeroValue184
  t63 := Try.underlying186
  a63 := Try.isAgg186
  z63 := Try.sizeOf186
  v63 := Try.zeroValue186
  t64 := Try.underlying187
  a64 := Try.isAgg187
  z64 := Try.sizeOf187
  v64 := Try.zeroValue187 }
end Go.Proofs
end
section
namespace Go.Proofs.Ytidicdlfjdlpnaa
open Go.RowKit
namespace Rg
namespace Wi
set_option maxRecDepth 100000
open Go.Shelf Go.Maps Go.Sort
attribute [local go_sem] Oper.semAt_some
theorem sorts79 (m : Nat) : AnyZ.SortsIn Try.prog Try.sorted79_ren Fence.wide m :=
  ⟨fun blk off cap ss W hH hblk hsz => callsIn_wide.2 (AnyM.slices_Sort_string Try.sort107 blk off cap ss W hH hblk hsz),
   fun p cap W => callsIn_wide.2 (AnyM.slices_Sort_string_none Try.sort107 p cap W)⟩
theorem maps_Keys_80 (mb : Option Nat) (W : World) : CallsIn Fence.wide 5 Try.prog 80 #[.map mb] W fun e w' => e = .returned (.func (.func 108) #[] #[.pointer (some ⟨W.heap.size, 0, none⟩)]) ∧ w' = W.alloc (.cells #[.map mb] 39) :=
  AnyZ.keys_in Try.keys80 Fence.wide 5 trivial rfl mb W
theorem names_perm {w : World} {b n : Nat} {X : DataW Nat} {fs : List Fq} (h : w.ownsMap Try.prog 9 RF b n X) (hh : ∀ s, Maps.has X (ky s) = (lk fs s).isSome) (un : (fs.map Fq.nm).Nodup) : (strKeys X).Perm (fs.map fun f => f.nm.data.toList) := by
  obtain ⟨es, rfl, hap, hks⟩ := h.entries (Maps.string_keyed Try.underlying9)
  have hst : ∀ p ∈ es, ∃ s, p.1 = ky s := fun p hp => by
    obtain ⟨es0, clock, _, F, _, e⟩ := h
    injection e with e
    rw [e] at hp
    obtain ⟨x, hx, rfl⟩ := List.mem_map.1 (mem_sorted.1 hp)
    obtain ⟨y, hy⟩ := F.reads x hx
    rw [WideElems.rg_of hy]
    obtain ⟨s, _, e2, _⟩ := key_string (WideElems.rd_key hy)
    exact ⟨s, e2⟩
  have hnd : (es.map Prod.fst).Nodup := List.pairwise_map.2 hap
  have hnf : (fs.map fun f => ky f.nm).Nodup := by
    have : (fs.map fun f => ky f.nm) = (fs.map Fq.nm).map ky := by rw [List.map_map]; rfl
    rw [this]
    exact List.pairwise_map.2 (un.imp (fun hne e => hne (ky_inj e)))
  have hp : (es.map Prod.fst).Perm (fs.map fun f => ky f.nm) := (List.perm_ext_iff_of_nodup hnd hnf).2 (fun a => by
    constructor
    · intro ha
      obtain ⟨p, hp, rfl⟩ := List.mem_map.1 ha
      obtain ⟨s, e⟩ := hst p hp
      have h1 : Maps.has (.map es) (ky s) = true := by
        rw [← e]
        exact List.any_eq_true.2 ⟨p, hp, WideAt.sameKey_self (hks p hp)⟩
      rw [hh] at h1
      obtain ⟨f, hf⟩ := Option.isSome_iff_exists.1 h1
      obtain ⟨h2, h3⟩ := lk_mem hf
      exact List.mem_map.2 ⟨f, h2, by rw [h3, e]⟩
    · intro ha
      obtain ⟨f, hf, rfl⟩ := List.mem_map.1 ha
      have h1 : (lk fs f.nm).isSome = true := by
        unfold lk
        rw [List.find?_isSome]
        exact ⟨f, hf, decide_eq_true rfl⟩
      rw [← hh] at h1
      obtain ⟨p, hp, h2⟩ := List.any_eq_true.1 h1
      exact List.mem_map.2 ⟨p, hp, WideAt.sameKey_eq h2⟩)
  have h2 := hp.map strOf
  rw [List.map_map, List.map_map] at h2
  exact h2
end Wi
end Rg
end Go.Proofs.Ytidicdlfjdlpnaa
end
section
namespace Go.Proofs.Ytidicdlfjdlpnaa
open Go.RowKit
namespace Rg
namespace Wi
set_option maxRecDepth 100000
/-- A disk, all of which is new since w0. -/
structure Dn (w0 : World) (D : Dq) (u : World) : Prop where
  b : Below w0.heap.size w0 u
  dk : DOk u D
  lo : ∀ x ∈ D.bl, w0.heap.size ≤ x
theorem Dn.step {w0 u u' : World} {D : Dq} (h : Dn w0 D u) (hb : Below u.heap.size u u') : Dn w0 D u' := ⟨h.b.trans (hb.mono h.b.size), h.dk.below hb, h.lo⟩
theorem Dn.dw {w0 u u' : World} {D D' : Dq} (h : Dn w0 D u) (hw : Dw u D D' u') : Dn w0 D' u' := ⟨h.b.trans (hw.2.1.toBelow h.lo h.b.size), hw.1, fun x hx => (hw.2.2 x hx).elim (h.lo x) (Nat.le_trans h.b.size)⟩
end Wi
end Rg
end Go.Proofs.Ytidicdlfjdlpnaa
end
