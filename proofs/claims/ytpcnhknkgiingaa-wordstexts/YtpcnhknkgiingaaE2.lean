/- reliquarykit.CopyBytes. -/
import Derived.Test.YtpcnhknkgiingaaE1
import Derived.Laws.Append
import Derived.OwnWalk
import Derived.Laws.AppendOwn
namespace Go.Proofs.Ytpcnhknkgiingaa
open Go.RowKit

theorem info_byte : ∃ i, Try.prog.info? 5 = some i ∧ i.zero = some (.int .u8 0) ∧ i.size = 1 ∧ i.bytes = 1 := by
  have h : (Try.prog.info? 5).map (fun i => (i.zero, i.size, i.bytes)) = some (some (.int .u8 0), 1, 1) := by kernel_rfl
  cases hi : Try.prog.info? 5 with
  | none => rw [hi] at h; simp at h
  | some i =>
    rw [hi] at h
    simp at h
    exact ⟨i, rfl, h.1, h.2.1, h.2.2⟩
theorem wpList_append_run {P : Program} {w w' : World} {ops : Array Oper} {rest : List Oper} {o : Oper} {a : Act} {Q : Exit → Act → World → Prop} (hgd : o.guard = none) (s x : Operand) (t : TypeId) {v : Value}
    (ho : o.op = .call { callee := .builtin .append, args := #[s, x], argTypes := #[t, t] }) (hr : (Builtin.append_ #[t, t] o.type #[a.eval s, a.eval x]).run P w = .ok v w')
    (h : wpList P ops Q rest (a.put o.dst v) w') : wpList P ops Q (o :: rest) a w :=
  wpList_plain hgd fun _ hK => by
    unfold Oper.wp execOp
    simp only [ho, resolve, invoke, builtin, Sem.run_bind, Sem.run_pure, Result.andThen_ok, List.map_toArray, List.map_cons, List.map_nil, hr]
    exact hK _ _ h
set_option maxHeartbeats 1000000 in
set_option maxRecDepth 100000 in
theorem copy_any (g n c : Nat) (h0 : 0 < n) (hn : n ≤ 140737488355328) (f : Nat → Int) (w : World) (hg : g < w.heap.size) (hr : ∀ j, j < n → w.cell? ⟨g, j, none⟩ = some (.int .u8 (f j))) :
    Calls Try.prog 52 #[.slice (some ⟨g, 0, none⟩) n c] w fun e w' => ∃ c', e = .returned (.slice (some ⟨w.heap.size + 1, 0, none⟩) n c') ∧ n ≤ c' ∧ w.heap.size + 1 < w'.heap.size ∧ (∀ j, j < n → w'.cell? ⟨w.heap.size + 1, j, none⟩ = some (.int .u8 (f j))) ∧ Below w.heap.size w w' := by
  obtain ⟨i, hi, hz, hs, hb⟩ := info_byte
  have hap := fun ty => run_append_grow (P := Try.prog) (w := w.alloc (.cells #[] 5)) 38 ty 5 i (.int .u8 0) (by kernel_rfl) hi hz ⟨w.heap.size, 0, none⟩ 0 0 [] (by simp) (by simp) ⟨g, 0, none⟩ n c ((List.range n).map fun j => .int .u8 (f j)) (by simp [hs]) (fun j v hj => by
    have hjn : j < n := by
      rcases Nat.lt_or_ge j n with h | h
      · exact h
      · simp [h] at hj
    simp [hjn] at hj
    subst hj
    have e : (⟨g, 0, none⟩ : Addr).add j = ⟨g, j, none⟩ := by unfold Addr.add; split <;> simp_all
    rw [e, World.cell?_alloc_past _ _ _ hg]
    exact hr j hjn) (by omega) (by omega) (by rw [nextslicecap_zero (by omega), hb]; omega)
  simp only [Nat.zero_add] at hap
  have hge := grownCap_ge (w.alloc (.cells #[] 5)) n 0 5
  generalize grownCap (w.alloc (.cells #[] 5)) n 0 5 = c' at hap hge
  have HGE : Hid _ := hge
  have HAP : Hid _ := hap
  clear hap hi hz hs hb hr hge
  go_enter Try.func52, Try.ntmps52
  go_wp2_with (at_builtin; refine wpList_append_run rfl (.tmp 3) (.tmp 4) 38 rfl (HAP.out _) ?_)
  go_ret
  refine ⟨c', by simp, HGE.out, by simp, fun j hj => ?_, ?_⟩
  · rw [World.cell?_drew, World.cell?_alloc_at _ _ _ _ (by simp)]
    rw [Array.getElem?_append_left (by simpa using hj)]
    simp [hj]
  · exact (((Below.refl _ _).alloc (Nat.le_refl _) _).alloc (by simp) _).drew
end Go.Proofs.Ytpcnhknkgiingaa
