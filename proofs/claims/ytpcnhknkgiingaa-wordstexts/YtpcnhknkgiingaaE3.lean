/- reliquarykit.LentBytes. -/
import Derived.Test.YtpcnhknkgiingaaE2
import Derived.Laws.IdiomCopy
import Derived.Deep.OwnRows
namespace Go.Proofs.Ytpcnhknkgiingaa
open Go.RowKit

theorem wpList_copy_run {P : Program} {w w' : World} {ops : Array Oper} {rest : List Oper} {o : Oper} {a : Act} {Q : Exit → Act → World → Prop} (hgd : o.guard = none) (s x : Operand) (t : TypeId) {v : Value}
    (ho : o.op = .call { callee := .builtin .copy, args := #[s, x], argTypes := #[t, t] }) (hr : (Builtin.copy_ #[t, t] o.type #[a.eval s, a.eval x]).run P w = .ok v w')
    (h : wpList P ops Q rest (a.put o.dst v) w') : wpList P ops Q (o :: rest) a w :=
  wpList_plain hgd fun _ hK => by
    unfold Oper.wp execOp
    simp only [ho, resolve, invoke, builtin, Sem.run_bind, Sem.run_pure, Result.andThen_ok, List.map_toArray, List.map_cons, List.map_nil, hr]
    exact hK _ _ h
/-- The bytes of a list that is lent, and the marks behind it. -/
def lent (xs : List Int) (j : Nat) : Int := if j < xs.length then xs.getD j 0 else 160 + (j : Int) % 90
def lentk (xs : List Int) (k j : Nat) : Int := if j < k then lent xs j else 0
theorem lentk_step (xs : List Int) (k j : Nat) : upd (lentk xs k) k (lent xs k) j = lentk xs (k + 1) j := by
  unfold upd lentk
  by_cases h : j = k
  · subst h; rw [if_pos rfl, if_pos (by omega)]
  · rw [if_neg h]
    by_cases h2 : j < k
    · rw [if_pos h2, if_pos (by omega)]
    · rw [if_neg h2, if_neg (by omega)]
theorem lent_bd (xs : List Int) (hx : ∀ x ∈ xs, 0 ≤ x ∧ x < 256) (j : Nat) : 0 ≤ lent xs j ∧ lent xs j < 256 := by
  unfold lent
  split
  · rename_i h
    have : xs.getD j 0 = xs[j] := by simp [h]
    rw [this]
    exact hx _ (List.getElem_mem _)
  · omega
set_option maxHeartbeats 2000000 in
set_option maxRecDepth 100000 in
/-- From behind the copy on. -/
theorem lent_any (xs : List Int) (c : Nat) (v : Value) (hn : xs.length ≤ 1048576) (w : World) (h : BSl w xs c v) :
    Calls Try.prog 27 #[v] w fun e w' => e = .returned (.slice (some ⟨w.heap.size, 0, none⟩) xs.length (xs.length + 3)) ∧ w.heap.size < w'.heap.size ∧ Row8 w' w.heap.size (xs.length + 3) (lent xs) ∧ Below w.heap.size w w' := by
  obtain ⟨n, hnx⟩ : ∃ n, n = xs.length := ⟨_, rfl⟩
  have hmk := run_make_row' (P := Try.prog) 38 5 (.int .u8 0) 1 (by kernel_rfl) (by kernel_rfl) rfl .i64 .i64 (n + 3) (by omega) (by omega)
  have e3 : ((n + 3 : Nat) : Int) = (n : Int) + 3 := by omega
  rw [e3] at hmk
  have ew : IntKind.i64.wrap ((n : Int) + 3) = (n : Int) + 3 := by rw [IntKind.wrap_i64]; omega
  have hsz : (Try.prog.info? 5).map (·.size) = some 1 := by kernel_rfl
  -- the world behind the copy
  have hcp : ∃ w2, (∀ ty, (Builtin.copy_ #[38, 38] ty #[.slice (some ⟨w.heap.size, 0, none⟩) (n + 3) (n + 3), v]).run Try.prog (w.alloc (.cells (madeCells #[.int .u8 0] (n + 3)) 5)) = .ok (goInt n) w2) ∧ Row8 w2 w.heap.size (n + 3) (lentk xs n) ∧ w.heap.size < w2.heap.size ∧ Below w.heap.size w w2 := by
    have hmade := Row8.made w (n + 3) 5
    have hbel : Below w.heap.size w (w.alloc (.cells (madeCells #[.int .u8 0] (n + 3)) 5)) := (Below.refl _ _).alloc (Nat.le_refl _) _
    cases h using BSl.each with
    | full g o hg hc hcell =>
      rw [← hnx]
      refine ⟨(w.alloc (.cells (madeCells #[.int .u8 0] (n + 3)) 5)).setCells w.heap.size 0 (xs.map fun x => .int .u8 x), fun ty => ?_, ?_, ?_, ?_⟩
      · have := run_copy_cells (P := Try.prog) (w.alloc (.cells (madeCells #[.int .u8 0] (n + 3)) 5)) 38 38 ty 5 w.heap.size 0 (n + 3) (n + 3) ⟨g, o, none⟩ n c (xs.map fun x => .int .u8 x) (by kernel_rfl) hsz (by simp [hnx])
          (fun j u hj => by
            have hjn : j < xs.length := by
              rcases Nat.lt_or_ge j xs.length with h | h
              · exact h
              · simp [h] at hj
            have e : (⟨g, o, none⟩ : Addr).add j = ⟨g, o + j, none⟩ := by unfold Addr.add; split <;> simp_all
            rw [e, World.cell?_alloc_past _ _ _ hg, hcell j hjn]
            simp [hjn] at hj
            rw [← hj]
            simp [hjn])
          (fun j hj => by
            rw [Nat.zero_add, (hmade j (by simp at hj; omega)).1]; rfl)
          (fun j hj => by
            rw [Nat.zero_add]; exact (hmade j (by simp at hj; omega)).2)
          (fun u hu => by
            obtain ⟨x, _, rfl⟩ := List.mem_map.1 hu
            rfl)
        simp only [List.length_map, ← hnx] at this
        exact this
      · intro j hj
        refine ⟨?_, by rw [World.frozen?_setCells]; exact (hmade j hj).2⟩
        unfold lentk lent
        by_cases hjn : j < n
        · have := World.cell?_setCells_in w.heap.size (xs.map fun x => Value.int .u8 x) 0 (w.alloc (.cells (madeCells #[.int .u8 0] (n + 3)) 5)) (fun i hi => by
            rw [Nat.zero_add, (hmade i (by simp at hi; omega)).1]; rfl) j (by simp; omega)
          rw [Nat.zero_add] at this
          rw [this, if_pos hjn, if_pos (by omega)]
          simp [show j < xs.length by omega]
        · rw [if_neg hjn, World.cell?_setCells_out _ _ _ _ _ (fun _ _ => Or.inr (by simp; omega))]
          exact (hmade j hj).1
      · rw [size_setCells]; simp
      · exact below_setCells _ (Nat.le_refl _) _ _ _ hbel
    | void p hx =>
      subst hx
      simp at hnx
      subst hnx
      refine ⟨_, fun ty => run_copy_none (P := Try.prog) _ 38 38 ty 5 _ _ _ _ _ _ (by kernel_rfl) hsz (by simp), hmade.congr (fun j _ => by unfold lentk; rw [if_neg (by omega)]), by simp, hbel⟩
  obtain ⟨w2, hcopy, hR2, hs2, hb2⟩ := hcp
  have HM2 : Hid (_ ∧ _ ∧ _) := ⟨hR2, hs2, hb2⟩
  obtain ⟨p, hv⟩ : ∃ p, v = .slice p n c := by
    cases h using BSl.each with
    | full g o hg hc hcell => rw [← hnx]; exact ⟨_, rfl⟩
    | void p hx => subst hx; simp at hnx; subst hnx; exact ⟨p, rfl⟩
  subst hv
  clear h hR2 hs2 hb2 hsz e3
  rw [← hnx]
  have HX : Hid (n = xs.length ∧ n ≤ 1048576) := ⟨hnx, by omega⟩
  have b1 : (0 : Int) ≤ (n : Int) + 3 := by omega
  clear hnx hn
  go_enter Try.func27, Try.ntmps27
  go_wp2
  clear hcopy hmk
  go_loopw [4] (fun i wr => ∃ k : Nat, n ≤ k ∧ k ≤ n + 3 ∧ i = .int .i64 k ∧ Row8 wr w.heap.size (n + 3) (lentk xs k) ∧ w.heap.size < wr.heap.size ∧ Below w.heap.size w wr) (fun i _ => n + 3 - (intOf i).toNat)
  case atStart => exact ⟨n, by omega, by omega, rfl, HM2.out⟩
  case round =>
    clear HM2
    obtain ⟨k, hk0, hk, rfl, hR, hs, hw⟩ := hrel
    have hXn := HX.out
    by_cases hlt : k < n + 3
    · have hd : decide ((k : Int) < (n : Int) + 3) = true := decide_eq_true (by omega)
      obtain ⟨r1, r2⟩ := hR k hlt
      have em : IntKind.i64.wrap (160 + (k : Int) % 90) = 160 + (k : Int) % 90 := by rw [IntKind.wrap_i64]; omega
      have eb : IntKind.u8.wrap (160 + (k : Int) % 90) = 160 + (k : Int) % 90 := by simp [IntKind.wrap, IntKind.signed, IntKind.bits]; omega
      have HL : Hid (160 + (k : Int) % 90 = lent xs k) := by
        show _ = _
        unfold lent
        rw [if_neg (by omega)]
      have HM : Hid (_ ∧ _ ∧ _) := ⟨hR, hs, hw⟩
      have hkb : k < 9000000 := by omega
      clear hR hs hw hXn
      go_wp2
      go_roundw
      case rel =>
        obtain ⟨hR, hs, hw⟩ := HM.out
        refine ⟨k + 1, by omega, by omega, by go_num, ?_, by simpa using hs, hw.setCell (by simp) _⟩
        rw [HL.out]
        exact (hR.set _).congr (fun j _ => lentk_step xs k j)
      case measure => simp [intOf] <;> omega
    · have hk3 : k = n + 3 := by omega
      subst hk3
      have hd : decide (((n + 3 : Nat) : Int) < (n : Int) + 3) = false := decide_eq_false (by omega)
      have HM : Hid (_ ∧ _ ∧ _) := ⟨hR, hs, hw⟩
      clear hR hs hw hXn
      go_wp2
      go_ret
      exact ⟨rfl, HM.out.2.1, HM.out.1.congr (fun j hj => by unfold lentk; rw [if_pos hj]), HM.out.2.2⟩
end Go.Proofs.Ytpcnhknkgiingaa
