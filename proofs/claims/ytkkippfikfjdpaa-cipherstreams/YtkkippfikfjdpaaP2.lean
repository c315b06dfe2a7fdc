/- Texts of the proof, joined. -/
import Derived.Test.YtkkippfikfjdpaaP1
import Derived.ChangeKeysEq
import Derived.Laws.Build
import Derived.Laws.Pointers
import Derived.Laws.AppendOwn
import Derived.Laws.OwnMore
import Derived.Laws.BytesArg
import Derived.Laws.IdiomCopy
import Derived.Deep.OwnRows
import Derived.Deep.RegionHeld3
import Derived.WalkKit
import Derived.WalkSmall
import Derived.WalkSpells
import Derived.BigQuiet
import Derived.Lib.Walk
import Derived.Lib.Small
import Derived.Lib.Slices
import Derived.Lib.Strings
import Derived.Below
import Derived.Laws.Bits64b
import Derived.Laws.NewBlocks
import Derived.Laws.Shifts
import Derived.Laws.Unary
import Derived.Lib.Bytes
import Derived.Lib.SliceRun
import Derived.LoopN
import Derived.Maps.AppendAt
import Derived.Orders
import Derived.RegionTactic
section
namespace Go.Proofs.Ytkkippfikfjdpaa
open Go.RowKit
namespace Rg
section
variable {P : Program} {ops : Array Oper} {ks : List Kind} {a₀ : Act} {w₀ : World} {Q : Exit → Act → World → Prop}
theorem first_value {full : Array Oper} {n p : Nat} {op : Oper} {d : Nat} (hO : Orderly ops ks n) (hn : n = a₀.tmps.size) (hL : LaidOk ks ks) {S : World → Prop} (hS : ∀ w, Below w₀.heap.size w₀ w → S w)
    (hp : ops.size = p) (hpf : p + 1 ≤ full.size) (hfull : ∀ i, i < p → full[i]? = ops[i]?) (hgd : ∀ {i : Nat} {o : Oper} {g : Nat} {b : Bool}, ops[i]? = some o → o.guard = some (g, b) → g < p)
    (hup : ∀ {i : Nat} {o : Oper}, full[i]? = some o → ∀ e ∈ o.after, Region.binds .any e = true → e.on < i)
    (hop : full[p]? = some op) (hdst : op.dst = some d) (hdn : d < n) (hdo : ∀ (j : Nat) (oj : Oper), ops[j]? = some oj → oj.dst ≠ some d) (hgu : op.guard = none) (hsel : ∀ cs b, op.op ≠ .select cs b)
    {late : List Nat} (hwp : ∀ j, j < p → waitsT full 12 op j = true ∨ j ∈ late) (hlook : ∀ d ∈ op.looksAt full, ∀ j oj, ops[j]? = some oj → oj.dst = some d → waitsT full 12 op j = true)
    (hwt : ∀ {i : Nat} {o : Oper}, full[i]? = some o → p + 1 ≤ i → ∀ j, j < i → waitsT full 12 o j = true)
    (hlate : ∀ v, LateOk P ops ks (fun γ => fill γ 0 ops.toList ks (a₀.put (some d) v)) late)
    (hops : AllOk P ops S (fun γ => fill γ 0 ops.toList ks a₀) ops.toList ks)
    (hend : ∀ γ w l, Mem ks w₀ l γ w → (∀ i, i < p → l.getD i false = true) → ∃ (v : Value) (w' : World), (execOp (fill γ 0 ops.toList ks a₀).eval op).run P w = .ok (.value v) w' ∧ wpOps P full Q (List.range' (p + 1) (full.size - (p + 1))) (fill γ 0 ops.toList ks (a₀.put (some d) v)) w') :
    ∀ (fuel : Nat) (l : Array Bool) (γ : Nat → Nat) (a : Act) (w : World), l.size = full.size → l.toList.count false ≤ fuel → Closed full l → (∀ i, p ≤ i → i < full.size → l.getD i true = false) → Agree ops ks a₀ l γ a → Mem ks w₀ l γ w → wpAny P .any full Q fuel l a w := by
  intro fuel
  induction fuel with
  | zero =>
    intro l γ a w hsz hc hcl ht hA hM
    have := count_set (ht p (Nat.le_refl _) (by omega))
    omega
  | succ fuel ih =>
    intro l γ a w hsz hc hcl ht hA hM
    have hpu := ht p (Nat.le_refl _) (by omega)
    refine ⟨fun hr => ?_, fun i hi => ?_⟩
    · have := ready_all hup hsz hr p (by omega)
      rw [(getD_same hpu).1] at this
      cases this
    · obtain ⟨hun, o, ho, hedge⟩ := mem_ready.1 hi
      have hilt : i < full.size := (Array.getElem?_eq_some_iff.1 ho).1
      have hc' := count_set hun
      have hip1 : i < p + 1 := by
        rcases Nat.lt_or_ge i (p + 1) with h' | h'
        · exact h'
        · have := waitsT_spec hcl 12 o (hwt ho h' p (by omega)) hedge
          rw [(getD_same hpu).1] at this
          cases this
      by_cases hip : i = p
      · subst hip
        have ho2 := ho
        rw [hop] at ho
        injection ho with ho
        subst ho
        have hbefore : ∀ j, j < i → j ∉ late → l.getD j false = true := fun j hj hnl => by
          rcases hwp j hj with h | h
          · exact waitsT_spec hcl 12 _ h hedge
          · exact absurd h hnl
        obtain ⟨l', hM', hs', hl1, hl2⟩ := mem_late (hlate undef) hM
        have hfin : ∀ j, j < i → l'.getD j false = true := fun j hj => by
          by_cases h : j ∈ late
          · exact hl2 j h (by omega)
          · exact hl1 j (hbefore j hj h)
        obtain ⟨v, w1, hx, hQ⟩ := hend γ w l' hM' hfin
        have he := see_all (full := full) hA hsel (fun d hd j oj hj hdj => waitsT_spec hcl 12 _ (hlook d hd j oj hj hdj) hedge)
        refine wpOp_step hop (fun K' hK => ?_)
        have hwn : Region.wanted op (yielded full a.tmps) = true := by unfold Region.wanted; rw [hgu]
        rw [if_pos hwn]
        unfold Oper.wp
        rw [he, hx]
        have hA' : Agree ops ks (a₀.put (some d) v) (l.setIfInBounds i true) γ (a.put op.dst v) := by
          rw [hdst]
          refine ⟨by rw [put_defers', put_defers']; exact hA.defers, by rw [put_size, put_size]; exact hA.size, fun t ht => ?_⟩
          by_cases e : t = d
          · subst e
            rw [fill_off γ t ops.toList ks _ 0 (fun j' oj hj => hdo j' oj (by simpa using hj))]
            simp only [Act.put, Array.getElem?_setIfInBounds]
            rw [if_pos trivial, if_pos trivial, hA.size]
          · have h0 := hA.slots t (fun j oj hj hdj => by
              have h1 := ht j oj hj hdj
              have hj' : j < i := by rw [← hp]; exact (Array.getElem?_eq_some_iff.1 hj).1
              rwa [getD_set_ne false (by omega)] at h1)
            rw [fill_put γ d v ops.toList ks a₀ 0 (fun j' oj hj => hdo j' oj (by simpa using hj))]
            simp only [Act.put, Array.getElem?_setIfInBounds]
            rw [if_neg (fun h => e h.symm), if_neg (fun h => e h.symm)]
            exact h0
        refine hK _ _ (after_putU (a₀ := a₀.put (some d) v) hO (by rw [put_size]; exact hn) hp hpf hfull hgd hup hwt (hlate v) hQ fuel _ _ (by simp [hsz]) (by omega) (hcl.step ho2 hedge) (fun j hj hj2 => ?_) (fun j hj hj2 => ?_) hA')
        · by_cases e : i = j
          · subst e
            have hi' : i < l.size := by omega
            simp [hi'] at hj2
          · rw [getD_set_ne true e] at hj2
            apply Classical.byContradiction
            intro hnl
            have := hbefore j (by omega) hnl
            rw [(getD_same hj2).1] at this
            cases this
        · rw [getD_set_ne true (by omega)]
          exact ht j (by omega) hj2
      · have hlt : i < p := by omega
        have ho' : ops[i]? = some o := by rw [← hfull i hlt]; exact ho
        refine kind_step hO hn hL hS hfull hgd hops hA hM hlt ho' hun hedge (fun γ' a' w' hA' hM' => ?_)
        exact ih _ γ' a' w' (by simp [hsz]) (by omega) (hcl.step ho hedge) (fun j hj hj2 => by rw [getD_set_ne true (by omega)]; exact ht j hj hj2) hA' hM'
theorem walk_value {full : Array Oper} {a : Act} {w : World} {id : Nat} (hm : P.follows .mixedOrders = true) (p : Nat) (late : List Nat) (ks : List Kind) (S : World → Prop) (pre : List Oper) (F : (Nat → Nat) → Act) (F' : Value → (Nat → Nat) → Act) (op : Oper) (d : Nat) (hpre : full.toList.take p = pre)
    (hF : ∀ γ, fill γ 0 pre ks a = F γ) (hF' : ∀ v γ, fill γ 0 pre ks (a.put (some d) v) = F' v γ) (hor : (orderly pre.toArray ks a.tmps.size && guarded pre.toArray p && enterly full p d a.tmps.size late) = true) (hop : full[p]? = some op) (hL : LaidOk ks ks) (hS : ∀ w', Below w.heap.size w w' → S w')
    (hops : AllOk P pre.toArray S F pre ks) (hlate : ∀ v, LateOk P pre.toArray ks (F' v) late)
    (hend : ∀ γ w' l, Mem ks w l γ w' → (∀ i, i < p → l.getD i false = true) → ∃ (v : Value) (w'' : World), (execOp (F γ).eval op).run P w' = .ok (.value v) w'' ∧ wpOps P full Q (List.range' (p + 1) (full.size - (p + 1))) (F' v γ) w'') :
    (Code.region id full true).wp P Q a w := by
  subst hpre
  obtain rfl : (fun γ => fill γ 0 (full.toList.take p) ks a) = F := funext hF
  obtain rfl : (fun v γ => fill γ 0 (full.toList.take p) ks (a.put (some d) v)) = F' := funext fun v => funext (hF' v)
  simp only [Bool.and_eq_true] at hor
  obtain ⟨⟨h1, h2⟩, h3⟩ := hor
  unfold enterly at h3
  rw [hop] at h3
  simp only [Bool.and_eq_true, decide_eq_true_eq, Option.isNone_iff_eq_none, beq_iff_eq] at h3
  obtain ⟨⟨⟨⟨⟨⟨h5, h6⟩, h7⟩, ⟨⟨h8, h9⟩, h10⟩, h11⟩, h12⟩, h13⟩, h14⟩ := h3
  have hsz : (full.toList.take p).toArray.size = p := by simp; omega
  have hfu : ∀ i, i < p → full[i]? = (full.toList.take p).toArray[i]? := fun i hi => by rw [← take_arr]; exact first_full hi
  refine wp_region_any hm (first_value (ops := (full.toList.take p).toArray) (Orderly.of h1) rfl hL hS hsz h6 hfu (fun ho hg => guarded_spec h2 ho hg) (fun ho e he hb => ?_) hop h8 h13 (fun j oj hj => ?_) h9 (fun cs b => Region.noSelect_spec h7 p op cs b hop) (late := late) (fun j hj => ?_) (fun d hd j oj hj hdj => ?_) (fun ho hi j hj => ?_) hlate hops hend full.size _ (fun _ => 0) a w.drew (by simp) (by simp) (Closed.none _ _) (fun i _ hi => none_listed' hi) (start_agree _ _) (start_mem _ _ (Below.refl _ _).drew))
  · have := Array.all_eq_true_iff_forall_mem.1 (eachOp_spec h5 ho) e he
    simpa [hb] using this
  · have hj' : j < p := by rw [← hsz]; exact (Array.getElem?_eq_some_iff.1 hj).1
    have := eachOp_spec h14 (by rw [hfu j hj']; exact hj)
    simp only [Bool.or_eq_true, decide_eq_true_eq, bne_iff_ne, ne_eq] at this
    rcases this with h | h
    · omega
    · exact h
  · have := List.all_eq_true.1 h10 j (List.mem_range.2 hj)
    simpa using this
  · have hj' : j < p := by rw [← hsz]; exact (Array.getElem?_eq_some_iff.1 hj).1
    have := eachOp_spec (List.all_eq_true.1 h11 d hd) (by rw [hfu j hj']; exact hj)
    simp only [hdj, bne_self_eq_false, Bool.false_or, Bool.or_eq_true, decide_eq_true_eq] at this
    rcases this with h | h
    · exact h
    · omega
  · have := eachOp_spec h12 ho
    simp only [Bool.or_eq_true, decide_eq_true_eq] at this
    rcases this with h | h
    · omega
    · exact List.all_eq_true.1 h j (List.mem_range.2 hj)
end
end Rg
end Go.Proofs.Ytkkippfikfjdpaa
end
section
namespace Go.Proofs.Ytkkippfikfjdpaa
open Go.RowKit
namespace Rg
section
variable {P : Program} {ops : Array Oper} {ks : List Kind} {a₀ : Act} {w₀ : World} {Q : Exit → Act → World → Prop}
/-- An operation that the store need not wait for: it tells its value behind it. -/
def LateAt (P : Program) (ops : Array Oper) (ks : List Kind) (a : Act) (w : World) : List Nat → Prop
  | [] => True
  | i :: r => (∃ o v, ops[i]? = some o ∧ ks[i]? = some (.quiet v) ∧ Region.wanted o (yielded ops a.tmps) = true ∧ (execOp a.eval o).run P w = .ok (.value v) w) ∧ LateAt P ops ks a w r
theorem LateAt.at {a : Act} {w : World} : ∀ {late : List Nat}, LateAt P ops ks a w late → ∀ {i : Nat}, i ∈ late → ∃ o v, ops[i]? = some o ∧ ks[i]? = some (.quiet v) ∧ Region.wanted o (yielded ops a.tmps) = true ∧ (execOp a.eval o).run P w = .ok (.value v) w
  | [], _, _, h => by cases h
  | j :: r, hl, i, h => by
    rcases List.mem_cons.1 h with e | h
    · subst e; exact hl.1
    · exact hl.2.at h
end
end Rg
end Go.Proofs.Ytkkippfikfjdpaa
end
section
namespace Go.Proofs.Ytkkippfikfjdpaa
open Go.RowKit
namespace Rg
section
variable {P : Program} {ops : Array Oper} {a₀ : Act} {Q : Exit → Act → World → Prop}
/-- Others than the first one do not hang on what it will answer. -/
theorem Agree.other {n : Nat} {v v' : Value} {qs : List Kind} (hO : Orderly ops (.call v :: qs) n) (hO' : Orderly ops (.call v' :: qs) n) (hn : n = a₀.tmps.size) {l : Array Bool} {γ : Nat → Nat} {a : Act} (h : Agree ops (.call v :: qs) a₀ l γ a) (h0 : l.getD 0 false = false) : Agree ops (.call v' :: qs) a₀ l γ a := by
  refine ⟨h.defers, h.size, fun d hd => ?_⟩
  rw [h.slots d hd]
  by_cases hw : ∃ (j : Nat) (oj : Oper), ops[j]? = some oj ∧ oj.dst = some d
  · obtain ⟨j, oj, hj, hdj⟩ := hw
    have hl := hd j oj hj hdj
    cases j with
    | zero => rw [h0] at hl; cases hl
    | succ j =>
      obtain ⟨kj, hkj⟩ := kind_at hO hj
      have hkj' : (Kind.call v' :: qs)[j + 1]? = some kj := by simpa using hkj
      rw [fill_one hO hn γ hj hkj hdj, fill_one hO' hn γ hj hkj' hdj]
  · have hno : ∀ o' ∈ ops.toList, o'.dst ≠ some d := fun o' ho' hd' => by
      obtain ⟨j, hj, ej⟩ := List.getElem_of_mem ho'
      exact hw ⟨j, o', by rw [← Array.getElem?_toList, List.getElem?_eq_getElem hj, ej], hd'⟩
    rw [fill_other γ d 0 _ _ _ hno, fill_other γ d 0 _ _ _ hno]
end
end Rg
end Go.Proofs.Ytkkippfikfjdpaa
end
section
namespace Go.Proofs.Ytkkippfikfjdpaa
open Go.RowKit
namespace Rg
set_option maxRecDepth 100000
section
variable {ρ : Operand → Value} {o : Oper} {x y : Operand} {g off j n : Nat} {w : World}
theorem ex_mk48 (ho : o.op = .alloc 48) : (execOp ρ o).run Try.prog w = .ok (.value (.pointer (some ⟨w.heap.size, 0, none⟩))) (w.alloc (.cells (ints .u8 (fun _ => 0) 64).toArray 48)) := by
  simp only [execOp, ho]
  go_simp
  rfl
theorem ex_ix_48 (ho : o.op = .indexAddr 48 x y) (hx : ρ x = PT g off) (hy : ρ y = .int .i64 ((j : Nat) : Int)) (hj : j < 64) : (execOp ρ o).run Try.prog w = .ok (.value (PT g (off + j))) w := by
  have h1 : (j : Int) < 64 := by omega
  simp only [execOp, ho, hx, hy]
  clear ho hx hy
  go_simp
theorem ex_ix0_48 (ho : o.op = .indexAddr 48 x y) (hx : ρ x = PT g 0) (hy : ρ y = .int .i64 ((j : Nat) : Int)) (hj : j < 64) : (execOp ρ o).run Try.prog w = .ok (.value (PT g j)) w := by
  have h := ex_ix_48 (w := w) ho hx hy hj
  rw [Nat.zero_add] at h
  exact h
theorem ex_mk49 (ho : o.op = .alloc 49) : (execOp ρ o).run Try.prog w = .ok (.value (.pointer (some ⟨w.heap.size, 0, none⟩))) (w.alloc (.cells (ints .u32 (fun _ => 0) 16).toArray 49)) := by
  simp only [execOp, ho]
  go_simp
  rfl
theorem ex_ix_49 (ho : o.op = .indexAddr 49 x y) (hx : ρ x = PT g off) (hy : ρ y = .int .i64 ((j : Nat) : Int)) (hj : j < 16) : (execOp ρ o).run Try.prog w = .ok (.value (PT g (off + j))) w := by
  have h1 : (j : Int) < 16 := by omega
  simp only [execOp, ho, hx, hy]
  clear ho hx hy
  go_simp
theorem ex_ix0_49 (ho : o.op = .indexAddr 49 x y) (hx : ρ x = PT g 0) (hy : ρ y = .int .i64 ((j : Nat) : Int)) (hj : j < 16) : (execOp ρ o).run Try.prog w = .ok (.value (PT g j)) w := by
  have h := ex_ix_49 (w := w) ho hx hy hj
  rw [Nat.zero_add] at h
  exact h
theorem ex_mk82 (ho : o.op = .alloc 82) : (execOp ρ o).run Try.prog w = .ok (.value (.pointer (some ⟨w.heap.size, 0, none⟩))) (w.alloc (.cells (ints .i64 (fun _ => 0) 34).toArray 82)) := by
  simp only [execOp, ho]
  go_simp
  rfl
theorem ex_ix_82 (ho : o.op = .indexAddr 82 x y) (hx : ρ x = PT g off) (hy : ρ y = .int .i64 ((j : Nat) : Int)) (hj : j < 34) : (execOp ρ o).run Try.prog w = .ok (.value (PT g (off + j))) w := by
  have h1 : (j : Int) < 34 := by omega
  simp only [execOp, ho, hx, hy]
  clear ho hx hy
  go_simp
theorem ex_ix0_82 (ho : o.op = .indexAddr 82 x y) (hx : ρ x = PT g 0) (hy : ρ y = .int .i64 ((j : Nat) : Int)) (hj : j < 34) : (execOp ρ o).run Try.prog w = .ok (.value (PT g j)) w := by
  have h := ex_ix_82 (w := w) ho hx hy hj
  rw [Nat.zero_add] at h
  exact h
theorem ex_mk89 (ho : o.op = .alloc 89) : (execOp ρ o).run Try.prog w = .ok (.value (.pointer (some ⟨w.heap.size, 0, none⟩))) (w.alloc (.cells (ints .i64 (fun _ => 0) 68).toArray 89)) := by
  simp only [execOp, ho]
  go_simp
  rfl
theorem ex_ix_89 (ho : o.op = .indexAddr 89 x y) (hx : ρ x = PT g off) (hy : ρ y = .int .i64 ((j : Nat) : Int)) (hj : j < 68) : (execOp ρ o).run Try.prog w = .ok (.value (PT g (off + j))) w := by
  have h1 : (j : Int) < 68 := by omega
  simp only [execOp, ho, hx, hy]
  clear ho hx hy
  go_simp
theorem ex_ix0_89 (ho : o.op = .indexAddr 89 x y) (hx : ρ x = PT g 0) (hy : ρ y = .int .i64 ((j : Nat) : Int)) (hj : j < 68) : (execOp ρ o).run Try.prog w = .ok (.value (PT g j)) w := by
  have h := ex_ix_89 (w := w) ho hx hy hj
  rw [Nat.zero_add] at h
  exact h
theorem ex_mk90 (ho : o.op = .alloc 90) : (execOp ρ o).run Try.prog w = .ok (.value (.pointer (some ⟨w.heap.size, 0, none⟩))) (w.alloc (.cells (ints .i64 (fun _ => 0) 70).toArray 90)) := by
  simp only [execOp, ho]
  go_simp
  rfl
theorem ex_bz90 (ho : o.op = .build 90 #[]) : (execOp ρ o).run Try.prog w = .ok (.value (V (ints .i64 (fun _ => 0) 70))) w := by
  simp only [execOp, ho]
  go_simp
  rfl
theorem ex_ix_90 (ho : o.op = .indexAddr 90 x y) (hx : ρ x = PT g off) (hy : ρ y = .int .i64 ((j : Nat) : Int)) (hj : j < 70) : (execOp ρ o).run Try.prog w = .ok (.value (PT g (off + j))) w := by
  have h1 : (j : Int) < 70 := by omega
  simp only [execOp, ho, hx, hy]
  clear ho hx hy
  go_simp
theorem ex_ix0_90 (ho : o.op = .indexAddr 90 x y) (hx : ρ x = PT g 0) (hy : ρ y = .int .i64 ((j : Nat) : Int)) (hj : j < 70) : (execOp ρ o).run Try.prog w = .ok (.value (PT g j)) w := by
  have h := ex_ix_90 (w := w) ho hx hy hj
  rw [Nat.zero_add] at h
  exact h
theorem ex_mk50 (ho : o.op = .alloc 50) : (execOp ρ o).run Try.prog w = .ok (.value (.pointer (some ⟨w.heap.size, 0, none⟩))) (w.alloc (.cells (ints .u32 (fun _ => 0) 16).toArray 50)) := by
  simp only [execOp, ho]
  go_simp
  rfl
theorem ex_ix_50 (ho : o.op = .indexAddr 50 x y) (hx : ρ x = PT g off) (hy : ρ y = .int .i64 ((j : Nat) : Int)) (hj : j < 16) : (execOp ρ o).run Try.prog w = .ok (.value (PT g (off + j))) w := by
  have h1 : (j : Int) < 16 := by omega
  simp only [execOp, ho, hx, hy]
  clear ho hx hy
  go_simp
theorem ex_ix0_50 (ho : o.op = .indexAddr 50 x y) (hx : ρ x = PT g 0) (hy : ρ y = .int .i64 ((j : Nat) : Int)) (hj : j < 16) : (execOp ρ o).run Try.prog w = .ok (.value (PT g j)) w := by
  have h := ex_ix_50 (w := w) ho hx hy hj
  rw [Nat.zero_add] at h
  exact h
theorem ex_mk65 (ho : o.op = .alloc 65) : (execOp ρ o).run Try.prog w = .ok (.value (.pointer (some ⟨w.heap.size, 0, none⟩))) (w.alloc (.cells (ints .u8 (fun _ => 0) 16).toArray 65)) := by
  simp only [execOp, ho]
  go_simp
  rfl
theorem ex_ix_65 (ho : o.op = .indexAddr 65 x y) (hx : ρ x = PT g off) (hy : ρ y = .int .i64 ((j : Nat) : Int)) (hj : j < 16) : (execOp ρ o).run Try.prog w = .ok (.value (PT g (off + j))) w := by
  have h1 : (j : Int) < 16 := by omega
  simp only [execOp, ho, hx, hy]
  clear ho hx hy
  go_simp
theorem ex_ix0_65 (ho : o.op = .indexAddr 65 x y) (hx : ρ x = PT g 0) (hy : ρ y = .int .i64 ((j : Nat) : Int)) (hj : j < 16) : (execOp ρ o).run Try.prog w = .ok (.value (PT g j)) w := by
  have h := ex_ix_65 (w := w) ho hx hy hj
  rw [Nat.zero_add] at h
  exact h
theorem ex_laidI {ik : IntKind} {f f' : Nat → Nat} {t : TypeId} (hb : Blk w g (ints ik f n)) (hs : ∀ w, (sizeOf t).run Try.prog w = .ok n w) (ho : o.op = .store t x y) (hx : ρ x = .pointer (some ⟨g, 0, none⟩)) (hy : ρ y = .agg (ints ik f' n).toArray) : (execOp ρ o).run Try.prog w = .ok .skip (w.setCells g 0 (ints ik f' n)) :=
  ex_laidT hb (by rw [ints_len, ints_len]) (ints_all _ _ _) (by rw [ints_len]; exact hs) ho hx hy
end
structure Rs (gb o n : Nat) (f : Nat → Nat) (w : World) : Prop where
  lt : 0 < n → gb < w.heap.size
  at_ : ∀ i, i < n → w.cell? ⟨gb, o + i, none⟩ = some (Z8 (f i))
theorem Rs.below {gb o n : Nat} {f : Nat → Nat} {w w' : World} (h : Rs gb o n f w) (hb : Below w.heap.size w w') : Rs gb o n f w' :=
  ⟨fun hn => Nat.lt_of_lt_of_le (h.lt hn) hb.size, fun i hi => by rw [hb.cell (p := ⟨gb, o + i, none⟩) (h.lt (by omega))]; exact h.at_ i hi⟩
section
variable {ρ : Operand → Value} {o : Oper} {x y : Operand} {g off m c j k n : Nat} {f : Nat → Nat} {w : World}
theorem ex_ixS22 (ho : o.op = .indexAddr 22 x y) (hx : ρ x = .slice (some ⟨g, off, none⟩) m c) (hy : ρ y = .int .i64 ((j : Nat) : Int)) (h : j < m) : (execOp ρ o).run Try.prog w = .ok (.value (PT g (off + j))) w := by
  simp only [execOp, ho, hx, hy]
  clear ho hx hy
  go_simp
theorem ex_ldR (h : Rs g off n f w) (hk : k < n) (ho : o.op = .load 5 x) (hx : ρ x = PT g (off + k)) : (execOp ρ o).run Try.prog w = .ok (.value (Z8 (f k))) w := by
  have c0 := h.at_ k hk
  have ha : ∀ w, (isAgg 5).run Try.prog w = .ok false w := Try.isAgg5
  clear h
  simp only [execOp, ho, hx]
  go_simp
end
section
variable {ρ : Operand → Value} {o : Oper} {x y : Operand} {a b : Nat} {w : World}
theorem ex_quo3 (h : 0 < b) (ha : a < 4611686018427387904) (ho : o.op = .binOp .quo 3 x y 3) (hx : ρ x = .int .i64 ((a : Nat) : Int)) (hy : ρ y = .int .i64 ((b : Nat) : Int)) : (execOp ρ o).run Try.prog w = .ok (.value (.int .i64 ((a / b : Nat) : Int))) w := by
  have hle : a / b ≤ a := Nat.div_le_self _ _
  simp only [execOp, ho, hx, hy]
  clear ho hx hy
  have hw : IntKind.i64.wrap ((a : Int) / (b : Int)) = (a : Int) / (b : Int) := by
    rw [← Int.natCast_ediv]
    generalize a / b = k at hle ⊢
    rw [IntKind.wrap_i64]
    omega
  go_simp
  omega
theorem ex_rem3 (h : 0 < b) (ha : a < 4611686018427387904) (ho : o.op = .binOp .rem 3 x y 3) (hx : ρ x = .int .i64 ((a : Nat) : Int)) (hy : ρ y = .int .i64 ((b : Nat) : Int)) : (execOp ρ o).run Try.prog w = .ok (.value (.int .i64 ((a % b : Nat) : Int))) w := by
  have _ := ha
  simp only [execOp, ho, hx, hy]
  clear ho hx hy
  go_simp
  rw [if_neg (by omega), Int.tmod_eq_emod_of_nonneg (by omega)]
end
theorem Rs.add {g o n : Nat} {f : Nat → Nat} {w : World} (h : Rs g o n f w) (j : Nat) (hj : j < n) : w.cell? ((⟨g, o, none⟩ : Addr).add j) = some (Z8 (f j)) := by
  rw [show (⟨g, o, none⟩ : Addr).add j = ⟨g, o + j, none⟩ by unfold Addr.add; split <;> simp_all]
  exact h.at_ j hj
/-- A slice on its way: i of n bytes are taken. -/
def Bv (gb o n cp i : Nat) (v : Value) : Prop := (i < n → v = .slice (some ⟨gb, o + i, none⟩) (n - i) (cp - i)) ∧ (i = n → ∃ p c, v = .slice p 0 c)
section
variable {ρ : Operand → Value} {o : Oper} {x y : Operand} {g off m c j a : Nat} {w : World}
theorem ex_ixP22 {p : Option Addr} (he : p = some ⟨g, off, none⟩) (ho : o.op = .indexAddr 22 x y) (hx : ρ x = .slice p m c) (hy : ρ y = .int .i64 ((j : Nat) : Int)) (h : j < m) : (execOp ρ o).run Try.prog w = .ok (.value (PT g (off + j))) w := by
  subst he
  simp only [execOp, ho, hx, hy]
  clear ho hx hy
  go_simp
end
theorem info_byte : ∃ i, Try.prog.info? 5 = some i ∧ i.zero = some (.int .u8 0) ∧ i.size = 1 ∧ i.bytes = 1 := by
  have h : (Try.prog.info? 5).map (fun i => (i.zero, i.size, i.bytes)) = some (some (.int .u8 0), 1, 1) := by kernel_rfl
  cases hi : Try.prog.info? 5 with
  | none => rw [hi] at h; simp at h
  | some i =>
    rw [hi] at h
    simp at h
    exact ⟨i, rfl, h.1, h.2.1, h.2.2⟩
/-- A row, and another behind its first n. -/
def ct (P : Nat → Nat) (n : Nat) (Q : Nat → Nat) : Nat → Nat := fun j => if j < n then P j else Q (j - n)
theorem ints_cat (P Q : Nat → Nat) (n m : Nat) : ints .u8 P n ++ ints .u8 Q m = ints .u8 (ct P n Q) (n + m) := by
  apply List.ext_getElem?
  intro j
  unfold ct
  by_cases h : j < n
  · rw [List.getElem?_append_left (by rw [ints_len]; exact h), ints_get _ _ h, ints_get _ _ (by omega), if_pos h]
  · rw [List.getElem?_append_right (by rw [ints_len]; omega), ints_len]
    by_cases h2 : j < n + m
    · rw [ints_get _ _ (by omega), ints_get _ _ h2, if_neg h]
    · rw [ints_none _ _ (by omega), ints_none _ _ (by omega)]
theorem ct_snoc {P P' Q : Nat → Nat} {n : Nat} (h : Q 0 = P' n) (e : ∀ j, j < n → P j = P' j := by intro j _; rfl) (j : Nat) (hj : j < n + 1) : ct P n Q j = P' j := by
  unfold ct
  by_cases hn : j < n
  · rw [if_pos hn, e j hn]
  · rw [if_neg hn, show j = n by omega, Nat.sub_self, h]
/-- A slice of the call's own, n bytes long, beside blocks l. -/
structure Zo (w : World) (B : Nat) (l : List (Nat × List Value)) (vv : Value) (n : Nat) (P : Nat → Nat) (w' : World) : Prop where
  b : Below w.heap.size w w'
  lo : w.heap.size ≤ B
  hi : B ≤ w'.heap.size
  m : Mm w' l
  lt : ∀ p ∈ l, p.1 < B
  own : w'.ownsRow B 5 1 vv n (ints .u8 P n)
section
variable {w w1 w2 : World} {B n : Nat} {l : List (Nat × List Value)} {vv : Value} {P P' : Nat → Nat}
theorem Zo.size (h : Zo w B l vv n P w1) : w.heap.size ≤ w1.heap.size := h.b.size
theorem Zo.step (h : Zo w B l vv n P w1) (hb : Below w1.heap.size w1 w2) : Zo w B l vv n P w2 := by
  refine ⟨h.b.trans (hb.mono h.b.size), h.lo, Nat.le_trans h.hi hb.size, h.m.below hb, h.lt, h.own.1, ?_⟩
  rcases h.own.2 with ⟨h1, h2⟩ | ⟨g, cap, cur, h1, h2, h3, h4⟩
  · exact .inl ⟨h1, h2⟩
  · refine .inr ⟨g, cap, cur, h1, h2, ?_, h4⟩
    rw [hb.block g (Array.getElem?_eq_some_iff.1 h3).1]
    exact h3
theorem Zo.cg (h : Zo w B l vv n P w1) (e : ∀ j, j < n → P j = P' j) : Zo w B l vv n P' w1 := by
  have := h.own
  rw [ints_congr e] at this
  exact ⟨h.b, h.lo, h.hi, h.m, h.lt, this⟩
theorem Zo.form (h : Zo w B l vv n P w1) (hn : 0 < n) : ∃ g cap, vv = .slice (some ⟨g, 0, none⟩) n cap := by
  rcases h.own.2 with ⟨_, h2⟩ | ⟨g, cap, cur, h1, _⟩
  · omega
  · exact ⟨g, cap, h1⟩
theorem Zo.nil (P : Nat → Nat) (w : World) : Zo w w.heap.size [] (.slice none 0 0) 0 P w := ⟨Below.refl _ _, Nat.le_refl _, Nat.le_refl _, Mm.nil w, fun p hp => (by cases hp), World.ownsRow_nil _ _ _ _⟩
theorem Zo.made (P : Nat → Nat) (hm : Mm w1 l) (hb : Below w.heap.size w w1) : Zo w w1.heap.size l (.slice (some ⟨w1.heap.size, 0, none⟩) 0 0) 0 P (w1.alloc (.cells #[] 5)) :=
  ⟨hb.alloc hb.size _, hb.size, by simp, hm.below ((Below.refl _ _).alloc (Nat.le_refl _) _), fun p hp => (hm.blk p hp).1, by simp [ints], .inr ⟨w1.heap.size, 0, #[], rfl, Nat.le_refl _, heap_alloc_new _ _, Nat.le_refl _, by unfold maxLen; omega, rfl, rfl⟩⟩
theorem Zo.app (h : Zo w B l vv n P w1) {a : Addr} (m c : Nat) (Q : Nat → Nat) (hr : ∀ j, j < m → w1.cell? (a.add j) = some (Z8 (Q j))) (hb : n + m ≤ 2097152) (ty : TypeId) :
    ∃ v' w2, (Builtin.append_ #[22, 22] ty #[vv, .slice (some a) m c]).run Try.prog w1 = .ok v' w2 ∧ Zo w B l v' (n + m) (ct P n Q) w2 := by
  obtain ⟨i0, hi, hz0, hz1, hz2⟩ := info_byte
  obtain ⟨v', w2, h1, h2, h3, _⟩ := run_append_own (P := Try.prog) w1 B 22 ty 5 i0 (.int .u8 0) 1 1 Try.underlying22 hi hz0 hz1 hz2 rfl (by decide) vv n _ h.own a m c (ints .u8 Q m) (by rw [ints_len]; omega)
    (fun j u hj => by
      have hjm : j < m := by
        have := (List.getElem?_eq_some_iff.1 hj).1
        rwa [ints_len] at this
      rw [ints_get _ _ hjm] at hj
      rw [hr j hjm]
      exact hj) (List.all_eq_true.1 (ints_all _ _ _)) (by unfold maxLen; omega) (by omega) h.hi
  have hb2 : Below B w1 w2 := (Below.refl _ _).grown h3 h.hi (fun k hk => (World.ownsRow.lt h.own k hk).1)
  rw [ints_cat] at h2
  exact ⟨v', w2, h1, h.b.trans (hb2.mono h.lo), h.lo, Nat.le_trans h.hi hb2.size, ⟨fun p hp => ⟨Nat.lt_of_lt_of_le (h.m.blk p hp).1 hb2.size, (h.m.blk p hp).2.below hb2 (h.lt p hp)⟩, h.m.nd⟩, h.lt, h2⟩
theorem Zo.app0 (h : Zo w B l vv n P w1) (ty : TypeId) : (Builtin.append_ #[22, 22] ty #[vv, .slice none 0 0]).run Try.prog w1 = .ok vv w1 := by
  obtain ⟨i0, hi, _, _, _⟩ := info_byte
  exact run_append_owned_none (P := Try.prog) (w := w1) B 22 ty 5 i0 1 Try.underlying22 hi vv n _ h.own
theorem Zo.rs {g cap : Nat} (h : Zo w B l (.slice (some ⟨g, 0, none⟩) n cap) n P w1) : Rs g 0 n P w1 := by
  have hc := World.ownsRow.cells h.own (g := g) rfl
  refine ⟨fun _ => (World.ownsRow.lt h.own g rfl).2, fun i hi => ?_⟩
  have := hc i _ (ints_get .u8 P hi)
  rw [show (⟨g, 0, none⟩ : Addr).add i = ⟨g, 0 + i, none⟩ by unfold Addr.add; split <;> simp_all] at this
  exact this
end
section
variable {ρ : Operand → Value} {o : Oper} {x y : Operand} {a : Nat} {w w2 : World} {vv sv v' : Value}
theorem ex_app (ho : o.op = .call { callee := .builtin .append, args := #[x, y], argTypes := #[22, 22] }) (hx : ρ x = vv) (hy : ρ y = sv) (hr : (Builtin.append_ #[22, 22] o.type #[vv, sv]).run Try.prog w = .ok v' w2) : (execOp ρ o).run Try.prog w = .ok (.value v') w2 := by
  unfold execOp
  simp only [ho, resolve, invoke, builtin, Sem.run_bind, Sem.run_pure, Result.andThen_ok, List.map_toArray, List.map_cons, List.map_nil, hx, hy, hr]
theorem ex_bs0 (ho : o.op = .buildSlice 22 0 #[]) : (execOp ρ o).run Try.prog w = .ok (.value (.slice (some ⟨w.heap.size, 0, none⟩) 0 0)) (w.alloc (.cells #[] 5)) := by
  simp only [execOp, ho]
  kernel_rfl
end
end Rg
end Go.Proofs.Ytkkippfikfjdpaa
end
section
namespace Go.Proofs.Ytkkippfikfjdpaa
open Go.RowKit
def upd (f : Nat → Int) (k : Nat) (v : Int) (j : Nat) : Int := if j = k then v else f j
namespace Rg
/-- Bytes that can be read: n of them, from o on, in block g. -/
structure Rd (g o n : Nat) (f : Nat → Nat) (w : World) : Prop where
  lt : g < w.heap.size
  at_ : ∀ i, i < n → w.cell? ⟨g, o + i, none⟩ = some (.int .u8 ((f i : Nat) : Int))
theorem Rd.below {g o n : Nat} {f : Nat → Nat} {w w' : World} (h : Rd g o n f w) (hb : Below w.heap.size w w') : Rd g o n f w' :=
  ⟨Nat.lt_of_lt_of_le h.lt hb.size, fun i hi => by rw [hb.cell (p := ⟨g, o + i, none⟩) h.lt]; exact h.at_ i hi⟩
theorem Rd.sub {g o n : Nat} {f : Nat → Nat} {w : World} (h : Rd g o n f w) (a m : Nat) (hm : a + m ≤ n) : Rd g (o + a) m (fun i => f (a + i)) w :=
  ⟨h.lt, fun i hi => by rw [Nat.add_assoc]; exact h.at_ (a + i) (by omega)⟩
end Rg
/-- v is a slice whose bytes are xs, with room for c. -/
structure BSl (w : World) (xs : List Int) (c : Nat) (v : Value) : Prop where
  or : (∃ g o, v = .slice (some ⟨g, o, none⟩) xs.length c ∧ g < w.heap.size ∧ xs.length ≤ c ∧ ∀ i, i < xs.length → w.cell? ⟨g, o + i, none⟩ = some (.int .u8 (xs.getD i 0))) ∨ ∃ p, v = .slice p 0 c ∧ xs = []
theorem BSl.full {w : World} {xs : List Int} {c : Nat} (g o : Nat) (hg : g < w.heap.size) (hc : xs.length ≤ c) (h : ∀ i, i < xs.length → w.cell? ⟨g, o + i, none⟩ = some (.int .u8 (xs.getD i 0))) : BSl w xs c (.slice (some ⟨g, o, none⟩) xs.length c) := ⟨.inl ⟨g, o, rfl, hg, hc, h⟩⟩
theorem BSl.void {w : World} {xs : List Int} {c : Nat} (p : Option Addr) (hx : xs = []) : BSl w xs c (.slice p 0 c) := ⟨.inr ⟨p, rfl, hx⟩⟩
theorem BSl.each {w : World} {xs : List Int} {c : Nat} {M : (v : Value) → BSl w xs c v → Prop} (full : ∀ (g o : Nat) (hg : g < w.heap.size) (hc : xs.length ≤ c) (h : ∀ i, i < xs.length → w.cell? ⟨g, o + i, none⟩ = some (.int .u8 (xs.getD i 0))), M (.slice (some ⟨g, o, none⟩) xs.length c) (BSl.full g o hg hc h)) (void : ∀ (p : Option Addr) (hx : xs = []), M (.slice p 0 c) (BSl.void p hx)) {v : Value} (h : BSl w xs c v) : M v h := by
  rcases h with ⟨⟨g, o, rfl, hg, hc, h⟩ | ⟨p, rfl, hx⟩⟩
  · exact full g o hg hc h
  · exact void p hx
theorem BSl.below {w w' : World} {xs : List Int} {c : Nat} {v : Value} (h : BSl w xs c v) (hb : Below w.heap.size w w') : BSl w' xs c v := by
  cases h using BSl.each with
  | full g o hg hc h => exact .full g o (Nat.lt_of_lt_of_le hg hb.size) hc (fun i hi => by rw [hb.cell (p := ⟨g, o + i, none⟩) hg]; exact h i hi)
  | void p hx => exact .void p hx
theorem BSl.drew {w : World} {xs : List Int} {c : Nat} {v : Value} (h : BSl w xs c v) : BSl w.drew xs c v := h.below ((Below.refl _ _).drew)
theorem BSl.alloc {w : World} {xs : List Int} {c : Nat} {v : Value} (h : BSl w xs c v) (o : Obj) : BSl (w.alloc o) xs c v := h.below ((Below.refl _ _).alloc (Nat.le_refl _) _)
theorem BSl.text {w : World} {xs : List Int} {c : Nat} {v : Value} (h : BSl w xs c v) : (convert 22 9 v).run Try.prog w = .ok (.string (strOfNums xs)) w := by
  cases h using BSl.each with
  | full g o hg hc h => exact run_convert_bytes_arg (P := Try.prog) w 22 5 (by kernel_rfl) (by kernel_rfl) g o xs.length c xs rfl h 9 (by kernel_rfl)
  | void p hx =>
    subst hx
    cases p with
    | none => exact run_convert_bytes_nil (P := Try.prog) w 22 5 (by kernel_rfl) (by kernel_rfl) 0 c 9 (by kernel_rfl)
    | some a =>
      have hl : (loadCells a 0).run Try.prog w = .ok (([] : List Int).map (Value.int .u8)).toArray w := by simpa using run_loadCells_list (P := Try.prog) w a [] (by simp)
      rw [run_convert_bytes_string w 22 9 5 _ 0 c (by kernel_rfl) (by kernel_rfl) (by kernel_rfl), run_bytesToString w _ 0 c [] hl, foldl_push_bytes]
      rfl
set_option maxHeartbeats 400000 in
theorem same_any {xs : List Int} {c c' : Nat} {v v' : Value} (w : World) (h : BSl w xs c v) (h' : BSl w xs c' v') :
    Calls Try.prog 15 #[v, v'] w fun e w' => e = .returned (.bool true) ∧ w' = w := by
  have h1 := h.text
  have h2 := h'.text
  clear h h'
  go_enter Try.func15, Try.ntmps15
  go_wp2
  go_ret
  exact ⟨rfl, rfl⟩
namespace Rg
theorem Rd.bsl {g o n c : Nat} {f : Nat → Nat} {w : World} (h : Rd g o n f w) (hc : n ≤ c) : BSl w ((List.range n).map fun i => ((f i : Nat) : Int)) c (.slice (some ⟨g, o, none⟩) n c) := by
  have hl : ((List.range n).map fun i => ((f i : Nat) : Int)).length = n := by simp
  have hb := BSl.full (w := w) (xs := (List.range n).map fun i => ((f i : Nat) : Int)) (c := c) g o h.lt (by rw [hl]; exact hc) (fun i hi => by
    rw [hl] at hi
    rw [h.at_ i hi]
    simp [List.getD, hi])
  rw [hl] at hb
  exact hb
end Rg
def Row8 (w : World) (g n : Nat) (f : Nat → Int) : Prop := ∀ j, j < n → w.cell? ⟨g, j, none⟩ = some (.int .u8 (f j)) ∧ w.frozen? ⟨g, j, none⟩ = false
theorem Row8.congr {w : World} {g n : Nat} {f f' : Nat → Int} (h : Row8 w g n f) (e : ∀ j, j < n → f j = f' j) : Row8 w g n f' := fun j hj => by rw [← e j hj]; exact h j hj
theorem Row8.set {w : World} {g n : Nat} {f : Nat → Int} (h : Row8 w g n f) {k : Nat} (v : Int) : Row8 (w.setCell ⟨g, k, none⟩ (.int .u8 v)) g n (upd f k v) := by
  intro j hj
  obtain ⟨h1, h2⟩ := h j hj
  refine ⟨?_, by rw [World.frozen?_setCell]; exact h2⟩
  unfold upd
  by_cases e : j = k
  · subst e; rw [if_pos rfl]; exact World.cell?_setCell_same _ _ _ h1
  · rw [if_neg e, World.cell?_setCell_other _ _ _ _ (by intro h; injection h with h1 h2; exact e h2.symm)]; exact h1
theorem Row8.made (w : World) (m t : Nat) : Row8 (w.alloc (.cells (madeCells #[.int .u8 0] m) t)) w.heap.size m (fun _ => 0) := by
  intro j hj
  refine ⟨?_, World.frozen?_alloc_at _ _ _ _ rfl⟩
  rw [World.cell?_alloc_at _ _ _ _ rfl]
  simp [madeCells, hj, Nat.mod_one]
theorem Row8.below {wr w1 : World} {g n : Nat} {f : Nat → Int} (h : Row8 wr g n f) {B : Nat} (hb : Below B wr w1) (hg : g < B) : Row8 w1 g n f :=
  fun j hj => ⟨by rw [hb.cell (p := ⟨g, j, none⟩) hg]; exact (h j hj).1, by rw [hb.frozen (p := ⟨g, j, none⟩) hg]; exact (h j hj).2⟩
theorem Row8.alloc {wr : World} {g n : Nat} {f : Nat → Int} (h : Row8 wr g n f) (hg : g < wr.heap.size) (o : Obj) : Row8 (wr.alloc o) g n f :=
  h.below ((Below.refl _ _).alloc (Nat.le_refl _) o) hg
theorem Row8.drew {wr : World} {g n : Nat} {f : Nat → Int} (h : Row8 wr g n f) : Row8 wr.drew g n f := h
/-- The bytes of a list that is lent, and the marks behind it. -/
def lent (xs : List Int) (j : Nat) : Int := if j < xs.length then xs.getD j 0 else 160 + (j : Int) % 90
def lentk (xs : List Int) (k j : Nat) : Int := if j < k then lent xs j else 0
theorem lentk_step (xs : List Int) (k j : Nat) : upd (lentk xs k) k (lent xs k) j = lentk xs (k + 1) j := by
  unfold upd lentk
  by_cases h : j = k
  · subst h; rw [if_pos rfl, if_pos (by omega)]
  · rw [if_neg h]
    by_cases h2 : j < k
    · rw [if_pos h2, if_pos (by omega)]
    · rw [if_neg h2, if_neg (by omega)]
theorem lent_bd (xs : List Int) (hx : ∀ x ∈ xs, 0 ≤ x ∧ x < 256) (j : Nat) : 0 ≤ lent xs j ∧ lent xs j < 256 := by
  unfold lent
  split
  · rename_i h
    have : xs.getD j 0 = xs[j] := by simp [h]
    rw [this]
    exact hx _ (List.getElem_mem _)
  · omega
def lentl (xs : List Int) : List Int := (List.range (xs.length + 3)).map (lent xs)
theorem BSl.row {w : World} {g n : Nat} {f : Nat → Int} (hg : g < w.heap.size) (hr : ∀ j, j < n → w.cell? ⟨g, j, none⟩ = some (.int .u8 (f j))) (c : Nat) (hc : n ≤ c) : BSl w ((List.range n).map f) c (.slice (some ⟨g, 0, none⟩) n c) := by
  have h : BSl w ((List.range n).map f) c (.slice (some ⟨g, 0, none⟩) ((List.range n).map f).length c) := .full g 0 hg (by simpa using hc) (fun i hi => by
    have hi' : i < n := by simpa using hi
    rw [Nat.zero_add, hr i hi']
    simp [hi'])
  simpa using h
end Go.Proofs.Ytkkippfikfjdpaa
end
section
namespace Go.Proofs.Ytkkippfikfjdpaa
open Go.RowKit
namespace Rg
section
variable {ρ : Operand → Value} {o : Oper} {x y : Operand} {a b k : Nat} {w : World}
end
/-- A hash, cell by cell. -/
def hs (m : Bool) (s r : Nat → Nat) (c : Nat) : List Value := .bool m :: (ints .u32 s 8 ++ (ints .u8 r 64 ++ [U c]))
set_option maxRecDepth 100000
/-- Eight numbers, as a row. -/
def ei (a b c d e f g h : Nat) (j : Nat) : Nat := [a, b, c, d, e, f, g, h].getD j 0
section
variable {ρ : Operand → Value} {o : Oper} {x y : Operand} {g off j n : Nat} {w : World}
end
/-- A number turned to the right. -/
def ro (x k : Nat) : Nat := ou (sl x (32 - k)) (sr x k)
def sA (x : Nat) : Nat := xo (xo (ro x 7) (ro x 18)) (sr x 3)
def sB' (x : Nat) : Nat := xo (xo (ro x 17) (ro x 19)) (sr x 10)
def gA (x : Nat) : Nat := xo (xo (ro x 2) (ro x 13)) (ro x 22)
def gB (x : Nat) : Nat := xo (xo (ro x 6) (ro x 11)) (ro x 25)
section
variable {ρ : Operand → Value} {o : Oper} {x y : Operand} {k : Nat} {w : World}
end
set_option maxRecDepth 100000
/-- The tables. -/
def kT (j : Nat) : Nat := [1116352408, 1899447441, 3049323471, 3921009573, 961987163, 1508970993, 2453635748, 2870763221, 3624381080, 310598401, 607225278, 1426881987, 1925078388, 2162078206, 2614888103, 3248222580, 3835390401, 4022224774, 264347078, 604807628, 770255983, 1249150122, 1555081692, 1996064986, 2554220882, 2821834349, 2952996808, 3210313671, 3336571891, 3584528711, 113926993, 338241895, 666307205, 773529912, 1294757372, 1396182291, 1695183700, 1986661051, 2177026350, 2456956037, 2730485921, 2820302411, 3259730800, 3345764771, 3516065817, 3600352804, 4094571909, 275423344, 430227734, 506948616, 659060556, 883997877, 958139571, 1322822218, 1537002063, 1747873779, 1955562222, 2024104815, 2227730452, 2361852424, 2428436474, 2756734187, 3204031479, 3329325298].getD j 0
def fT (j : Nat) : Nat := ei 1779033703 3144134277 1013904242 2773480762 1359893119 2600822924 528734635 1541459225 j
/-- The words of a block. -/
def wd (x : Nat → Nat) (t : Nat) : Nat := ou (ou (ou (sl (c32 (x (4 * t))) 24) (sl (c32 (x (4 * t + 1))) 16)) (sl (c32 (x (4 * t + 2))) 8)) (c32 (x (4 * t + 3)))
def w0 (x : Nat → Nat) : Nat → Nat → Nat
  | 0 => fun _ => 0
  | n + 1 => up (w0 x n) n (wd x n)
def ws (v : Nat → Nat) : Nat → Nat → Nat
  | 0 => v
  | n + 1 => up (ws v n) (16 + n) (ad (ad (ad (sB' (ws v n (16 + n - 2))) (ws v n (16 + n - 7))) (sA (ws v n (16 + n - 15)))) (ws v n (16 + n - 16)))
/-- The eight numbers on their way. -/
structure St where
  a : Nat
  b : Nat
  c : Nat
  d : Nat
  e : Nat
  f : Nat
  g : Nat
  h : Nat
def pp (K w : Nat) (s : St) : Nat := ad (ad (ad (ad s.h (gB s.e)) (xo (an s.e s.f) (an (nt s.e) s.g))) K) w
def qq (s : St) : Nat := ad (gA s.a) (xo (xo (an s.a s.b) (an s.a s.c)) (an s.b s.c))
def stp (K w : Nat) (s : St) : St := ⟨ad (pp K w s) (qq s), s.a, s.b, s.c, ad s.d (pp K w s), s.e, s.f, s.g⟩
def rn (s w : Nat → Nat) : Nat → St
  | 0 => ⟨s 0, s 1, s 2, s 3, s 4, s 5, s 6, s 7⟩
  | t + 1 => stp (kT t) (w t) (rn s w t)
def mw (s w : Nat → Nat) : Nat → Nat := ei (ad (s 0) (rn s w 64).a) (ad (s 1) (rn s w 64).b) (ad (s 2) (rn s w 64).c) (ad (s 3) (rn s w 64).d) (ad (s 4) (rn s w 64).e) (ad (s 5) (rn s w 64).f) (ad (s 6) (rn s w 64).g) (ad (s 7) (rn s w 64).h)
/-- The eight numbers with one more block. -/
def mx (s x : Nat → Nat) : Nat → Nat := mw s (ws (w0 x 16) 48)
set_option maxRecDepth 100000
/-- The eight bytes of a number, the highest first. -/
def e8 (x : Nat) : Nat → Nat → Nat
  | 0 => fun _ => 0
  | n + 1 => up (e8 x n) n (sr x (56 - 8 * n) % 256)
/-- The bytes of the eight numbers. -/
def bo (s : Nat → Nat) : Nat → Nat → Nat
  | 0 => fun _ => 0
  | n + 1 => up (up (up (up (bo s n) (4 * n) (sr (s n) 24 % 256)) (4 * n + 1) (sr (s n) 16 % 256)) (4 * n + 2) (sr (s n) 8 % 256)) (4 * n + 3) (s n % 256)
theorem rounds_in {P : Program} {c : Code} {Q : Exit → Act → World → Prop} {n : Nat} {a : Act} {w : World} (h : c.wp P (Exit.then (Code.rounds P c Q n) Q) a w) : Code.rounds P c Q (n + 1) a w := h
section
variable {ρ : Operand → Value} {o : Oper} {x y : Operand} {g : Nat} {f f' : Nat → Nat} {t : Bool} {w : World}
end
set_option maxRecDepth 100000
/-- Bytes put behind those that are there. -/
def pr8 (r : Nat → Nat) (k m : Nat) (F : Nat → Nat) : Nat → Nat := fun j => if k ≤ j ∧ j < k + m then F (j - k) else r j
/-- Bytes that can be read while block g changes. -/
structure Src (g gb o n : Nat) (f : Nat → Nat) (w : World) : Prop where
  lt : 0 < n → gb < w.heap.size
  ne : 0 < n → gb ≠ g
  at_ : ∀ i, i < n → w.cell? ⟨gb, o + i, none⟩ = some (Z8 (f i))
theorem Src.kp {g gb o n : Nat} {f : Nat → Nat} {w w' : World} (h : Src g gb o n f w) (k : Kp g w w') (i : Nat) (hi : i < n) : w'.cell? ⟨gb, o + i, none⟩ = some (Z8 (f i)) := by
  have e := k.block gb (h.lt (by omega)) (h.ne (by omega))
  rw [World.cell?_of_block (w := w) (a := ⟨gb, o + i, none⟩) e]
  exact h.at_ i hi
section
variable {ρ : Operand → Value} {o : Oper} {x y : Operand} {g off k l n c : Nat} {w : World}
end
set_option maxRecDepth 100000
def cl (r : Nat → Nat) (k : Nat) : Nat → Nat := fun j => if k ≤ j then 0 else r j
section
variable {ρ : Operand → Value} {o : Oper} {x : Operand} {g k c : Nat} {w : World}
end
/-- The digest that a hash comes to. -/
def fz (s r : Nat → Nat) (c : Nat) : Nat → Nat := if c % 64 < 56 then bo (mx s (pr8 (cl (up r (c % 64) 128) ((c % 64) + 1)) 56 8 (e8 (c64 (8 * c)) 8))) 8 else if c % 64 < 63 then bo (mx (mx s (cl (up r (c % 64) 128) ((c % 64) + 1))) (pr8 (fun _ => 0) 56 8 (e8 (c64 (8 * c)) 8))) 8 else bo (mx (mx s (up r (c % 64) 128)) (pr8 (fun _ => 0) 56 8 (e8 (c64 (8 * c)) 8))) 8
set_option maxRecDepth 100000
/-- A text of n letters. -/
def st (f : Nat → Nat) (n : Nat) : ByteArray := strOfNums ((List.range n).map fun j => (f j : Int))
section
variable {ρ : Operand → Value} {o : Oper} {x y : Operand} {g j a b : Nat} {f : Nat → Nat} {w : World}
end
set_option maxRecDepth 100000
section
variable {ρ : Operand → Value} {o : Oper} {x y : Operand} {j a b n : Nat} {f : Nat → Nat} {w : World}
end
set_option maxRecDepth 100000
section
variable {ρ : Operand → Value} {o : Oper} {x y : Operand} {g off m c j k n : Nat} {f : Nat → Nat} {w : World}
end
/-- A word's bytes, one by one. -/
def iw (v : Nat → Nat) (t : Nat) (y : Nat → Nat) : Nat → Nat → Nat
  | 0 => v
  | i + 1 => up (iw v t y i) t (ou (sl (iw v t y i t) 8) (c32 (y i)))
/-- The words of a block, as the document makes them. -/
def dw (P : Nat → Nat) (ap : Nat) : Nat → Nat → Nat
  | 0 => fun _ => 0
  | k + 1 => if k < 16 then iw (dw P ap k) k (fun i => P ((ap + (4 * k)) + i)) 4 else up (dw P ap k) k (ad (ad (ad (sB' (dw P ap k (k - 2))) (dw P ap k (k - 7))) (sA (dw P ap k (k - 15)))) (dw P ap k (k - 16)))
def xp (K W : Nat) (x : Nat → Nat) : Nat := ad (ad (ad (ad (x 7) (gB (x 4))) (xo (an (x 4) (x 5)) (an (nt (x 4)) (x 6)))) K) W
def xq (x : Nat → Nat) : Nat := ad (gA (x 0)) (xo (xo (an (x 0) (x 1)) (an (x 0) (x 2))) (an (x 1) (x 2)))
def xs (h K W : Nat → Nat) : Nat → Nat → Nat
  | 0 => h
  | k + 1 => ei (ad (xp (K k) (W k) (xs h K W k)) (xq (xs h K W k))) (xs h K W k 0) (xs h K W k 1) (xs h K W k 2) (ad (xs h K W k 3) (xp (K k) (W k) (xs h K W k))) (xs h K W k 4) (xs h K W k 5) (xs h K W k 6)
def hv (h x : Nat → Nat) : Nat → Nat → Nat
  | 0 => h
  | k + 1 => up (hv h x k) k (ad (hv h x k k) (x k))
/-- The eight numbers behind a block, as the document has it. -/
def db (h K P : Nat → Nat) (ap : Nat) : Nat → Nat := hv h (xs h K (dw P ap 64) 64) 8
set_option maxRecDepth 100000
section
variable {w w1 w2 : World} {B n : Nat} {l : List (Nat × List Value)} {vv : Value} {P P' : Nat → Nat}
end
section
variable {ρ : Operand → Value} {o : Oper} {x y : Operand} {a : Nat} {w w2 : World} {vv sv v' : Value}
end
/-- A number's bytes, the highest first. -/
def b8 (x : Nat) (j : Nat) : Nat := sr x (56 - 8 * j) % 256
set_option maxRecDepth 100000
section
variable {ρ : Operand → Value} {o : Oper} {x y : Operand} {a b : Nat} {w : World}
end
/-- Bytes at an address. -/
structure Ra (a : Addr) (n : Nat) (f : Nat → Nat) (w : World) : Prop where
  lt : 0 < n → a.block < w.heap.size
  at_ : ∀ j, j < n → w.cell? (a.add j) = some (Z8 (f j))
theorem add_block (a : Addr) (j : Nat) : (a.add j).block = a.block := by unfold Addr.add; split <;> rfl
theorem Ra.below {a : Addr} {n : Nat} {f : Nat → Nat} {w w' : World} (h : Ra a n f w) (hb : Below w.heap.size w w') : Ra a n f w' :=
  ⟨fun hn => Nat.lt_of_lt_of_le (h.lt hn) hb.size, fun j hj => by rw [hb.cell (p := a.add j) (by rw [add_block]; exact h.lt (by omega))]; exact h.at_ j hj⟩
/-- The message with its ending, as the document has it. -/
def zc (n : Nat) : Nat := (120 - (n + 1) % 64) % 64
def pn (n : Nat) : Nat := n + 1 + zc n + 8
def nb (n : Nat) : Nat := pn n / 64
def pz (f : Nat → Nat) (n : Nat) : Nat → Nat := fun j => if j < n then f j else if j = n then 128 else 0
def pd (f : Nat → Nat) (n : Nat) : Nat → Nat := ct (pz f n) (n + 1 + zc n) (b8 (c64 (8 * c64 n)))
def hd (P : Nat → Nat) : Nat → Nat → Nat
  | 0 => fT
  | k + 1 => db (hd P k) kT P (64 * k)
def ob (h : Nat → Nat) : Nat → Nat → Nat
  | 0 => fun _ => 0
  | i + 1 => up (ob h i) i (sr (h (i / 4)) (24 - (8 * (i % 4))) % 256)
/-- The digest of n bytes, as the document has it. -/
def ds (f : Nat → Nat) (n : Nat) : Nat → Nat := ob (hd (pd f n) (nb n)) 32
set_option maxRecDepth 100000
/-- The bytes of a list that is lent. -/
def lf (xs : List Int) (j : Nat) : Nat := (lent xs j).toNat
theorem lf_int {xs : List Int} (hx : ∀ x ∈ xs, 0 ≤ x ∧ x < 256) (j : Nat) : ((lf xs j : Nat) : Int) = lent xs j := Int.toNat_of_nonneg (lent_bd xs hx j).1
theorem lf_lt {xs : List Int} (hx : ∀ x ∈ xs, 0 ≤ x ∧ x < 256) (j : Nat) : lf xs j < 256 := by
  have := lent_bd xs hx j
  unfold lf
  omega
theorem Mm.row8 {w : World} {l : List (Nat × List Value)} {xs : List Int} {g : Nat} (hx : ∀ x ∈ xs, 0 ≤ x ∧ x < 256) (h : Mm w l) (k : Nat) (hk : l[k]? = some (g, ints .u8 (lf xs) (xs.length + 3))) : g < w.heap.size ∧ Row8 w g (xs.length + 3) (lent xs) := by
  have hb := h.blk _ (List.mem_of_getElem? hk)
  refine ⟨hb.1, fun j hj => ?_⟩
  have := hb.2 j _ (ints_get .u8 (lf xs) hj)
  rw [lf_int hx] at this
  exact this
theorem Mm.rs {w : World} {l : List (Nat × List Value)} {f : Nat → Nat} {g m n : Nat} (h : Mm w l) (k : Nat) (hk : l[k]? = some (g, ints .u8 f m)) (hn : n ≤ m) : Rs g 0 n f w := by
  have hb := h.blk _ (List.mem_of_getElem? hk)
  exact ⟨fun _ => hb.1, fun i hi => by rw [Nat.zero_add]; exact (hb.2 i _ (ints_get .u8 f (by omega))).1⟩
theorem Bv.start (gb o n cp : Nat) : Bv gb o n cp 0 (.slice (some ⟨gb, o, none⟩) n cp) := ⟨fun _ => rfl, fun h => ⟨some ⟨gb, o, none⟩, cp, by rw [← h]⟩⟩
set_option maxRecDepth 100000
theorem Kp.join {g : Nat} {a b c : World} (h : Kp g a b) (k : Kp g b c) : Kp g a c :=
  ⟨k.os.trans h.os, k.tape.trans h.tape, k.output.trans h.output, Nat.le_trans h.size k.size, fun i hi hg => (k.block i (Nat.lt_of_lt_of_le hi h.size) hg).trans (h.block i hi hg)⟩
theorem Src.void (g gb o : Nat) (f : Nat → Nat) (w : World) : Src g gb o 0 f w := ⟨fun h => absurd h (by decide), fun h => absurd h (by decide), fun i hi => absurd hi (by omega)⟩
theorem Bv.void (gb o cp : Nat) (p : Option Addr) (c : Nat) : Bv gb o 0 cp 0 (.slice p 0 c) := ⟨fun h => absurd h (by decide), fun _ => ⟨p, c, rfl⟩⟩
set_option maxRecDepth 100000
theorem Mm.over {u w : World} {l : List (Nat × List Value)} {g : Nat} {cs : List Value} (h0 : Mm u l) (hge : u.heap.size ≤ g) (h1 : Mm w l) (hb : Blk w g cs) (hlt : g < w.heap.size) : Mm w ((g, cs) :: l) :=
  h1.cons hb hlt (fun p hp => by have := (h0.blk p hp).1; omega)
theorem Rs.void (g o : Nat) (f : Nat → Nat) (w : World) : Rs g o 0 f w := ⟨fun h => absurd h (by decide), fun i hi => absurd hi (by omega)⟩
def n3 (j : Nat) : Nat := [51, 98, 48, 99, 52, 52, 50, 57, 56, 102, 99, 49, 99, 49, 52, 57, 97, 102, 98, 102, 52, 99, 56, 57, 57, 54, 102, 98, 57, 50, 52, 50, 55, 97, 101, 52, 49, 101, 52, 54, 52, 57, 98, 57, 51, 52, 99, 97, 52, 57, 53, 57, 57, 49, 98, 55, 56, 53, 50, 98, 56, 53, 53].getD j 0
def b3 : ByteArray := ⟨#[51, 98, 48, 99, 52, 52, 50, 57, 56, 102, 99, 49, 99, 49, 52, 57, 97, 102, 98, 102, 52, 99, 56, 57, 57, 54, 102, 98, 57, 50, 52, 50, 55, 97, 101, 52, 49, 101, 52, 54, 52, 57, 98, 57, 51, 52, 99, 97, 52, 57, 53, 57, 57, 49, 98, 55, 56, 53, 50, 98, 56, 53, 53]⟩
section
variable {ρ : Operand → Value} {o : Oper} {x y : Operand} {g : Nat} {w : World}
end
set_option maxRecDepth 100000
/-- The numbers of a list that is handed in. -/
def Cz (p : Option Addr) (zs : List Int) (w : World) : Prop := ∀ g o, p = some ⟨g, o, none⟩ → ∀ i, i < zs.length → g < w.heap.size ∧ w.cell? ⟨g, o + i, none⟩ = some (.int .i64 (zs.getD i 0))
theorem Cz.below {p : Option Addr} {zs : List Int} {w w' : World} (h : Cz p zs w) (hb : Below w.heap.size w w') : Cz p zs w' := fun g o e i hi => by
  obtain ⟨h1, h2⟩ := h g o e i hi
  exact ⟨Nat.lt_of_lt_of_le h1 hb.size, by rw [hb.cell (p := ⟨g, o + i, none⟩) h1]; exact h2⟩
theorem Bv.len {gb o n cp i : Nat} {v : Value} (h : Bv gb o n cp i v) (hi : i ≤ n) : ∃ p c, v = .slice p (n - i) c := by
  by_cases e : i < n
  · exact ⟨_, _, h.1 e⟩
  · obtain ⟨p, c, e2⟩ := h.2 (by omega)
    exact ⟨p, c, by rw [e2, show n - i = 0 by omega]⟩
section
variable {ρ : Operand → Value} {o : Oper} {x y : Operand} {g off m c j : Nat} {w : World}
theorem ex_slH22 {l : Nat} (ho : o.op = .slice 22 x none (some y) none) (hx : ρ x = .slice (some ⟨g, off, none⟩) m c) (hy : ρ y = .int .i64 ((l : Nat) : Int)) (hh : l ≤ c) : (execOp ρ o).run Try.prog w = .ok (.value (.slice (some ⟨g, off, none⟩) l c)) w := by
  simp only [execOp, ho, hx, hy, Option.map_some, Option.map_none]
  clear ho hx hy
  go_simp
theorem ex_slH0 {p : Option Addr} (ho : o.op = .slice 22 x none (some y) none) (hx : ρ x = .slice p 0 c) (hy : ρ y = .int .i64 0) : (execOp ρ o).run Try.prog w = .ok (.value (.slice p 0 c)) w := by
  simp only [execOp, ho, hx, hy, Option.map_some, Option.map_none]
  clear ho hx hy
  cases p <;> go_simp
end
set_option maxRecDepth 100000
/-- A part handed in: its slice, and where its bytes lie. -/
structure Pt8 where
  gb : Nat
  o : Nat
  n : Nat
  cp : Nat
  p : Option Addr
  f : Nat → Nat
/-- m parts lie in the list that pl begins. -/
def Ls (pl : Option Addr) (P : Nat → Pt8) (m : Nat) (w : World) : Prop := ∀ g o, pl = some ⟨g, o, none⟩ → ∀ i, i < m → g < w.heap.size ∧ w.cell? ⟨g, o + i, none⟩ = some (.slice (P i).p (P i).n (P i).cp) ∧ Rs (P i).gb (P i).o (P i).n (P i).f w
theorem Ls.below {pl : Option Addr} {P : Nat → Pt8} {m : Nat} {w w' : World} (h : Ls pl P m w) (hb : Below w.heap.size w w') : Ls pl P m w' := fun g o e i hi => by
  obtain ⟨h1, h2, h3⟩ := h g o e i hi
  exact ⟨Nat.lt_of_lt_of_le h1 hb.size, by rw [hb.cell h1]; exact h2, h3.below hb⟩
section
variable {ρ : Operand → Value} {o : Oper} {x y : Operand} {g off m c j : Nat} {w : World}
theorem ex_ixP29 {p : Option Addr} (he : p = some ⟨g, off, none⟩) (ho : o.op = .indexAddr 37 x y) (hx : ρ x = .slice p m c) (hy : ρ y = .int .i64 ((j : Nat) : Int)) (h : j < m) : (execOp ρ o).run Try.prog w = .ok (.value (PT g (off + j))) w := by
  subst he
  simp only [execOp, ho, hx, hy]
  clear ho hx hy
  go_simp
end
set_option maxRecDepth 100000
theorem call39 : ∀ args w, (callFunc 39 args).run Try.prog w = .ok (.enter 39 args) w := by intro args w; go_simp
theorem call25 : ∀ args w, (callFunc 25 args).run Try.prog w = .ok (.enter 25 args) w := by intro args w; go_simp
theorem call15 : ∀ args w, (callFunc 15 args).run Try.prog w = .ok (.enter 15 args) w := by intro args w; go_simp
section
variable {ρ : Operand → Value} {o : Oper} {x y : Operand} {g off j n a b c : Nat} {w : World}
/-- Bytes, bit by bit: unlike. -/
def x8 (a b : Nat) : Nat := (a ^^^ b) % 256
theorem bits8x (a b : Nat) : bits .xor .u8 (a : Int) (b : Int) = ((x8 a b : Nat) : Int) := by
  have h1 : ∀ k : Nat, (BitVec.ofInt 8 (k : Int)).toNat = k % 256 := fun k => by rw [BitVec.ofInt_natCast, BitVec.toNat_ofNat]
  show IntKind.u8.wrap ((BitVec.ofInt 8 (a : Int) ^^^ BitVec.ofInt 8 (b : Int)).toNat : Int) = _
  rw [BitVec.toNat_xor, h1, h1, ← Nat.xor_mod_two_pow (n := 8)]
  unfold x8
  simp [IntKind.wrap, IntKind.bits, IntKind.signed]
theorem ex_xor8 (ho : o.op = .binOp .xor 5 x y 5) (hx : ρ x = Z8 a) (hy : ρ y = Z8 b) : (execOp ρ o).run Try.prog w = .ok (.value (Z8 (x8 a b))) w := by
  have e := bits8x a b
  simp only [execOp, ho, hx, hy]
  clear ho hx hy
  go_simp
  first | done | exact e
end
set_option maxRecDepth 100000
/-- A block with its first i bytes xor x. -/
def mr (K : Nat → Nat) (x : Nat) : Nat → Nat → Nat
  | 0 => K
  | i + 1 => up (mr K x i) i (x8 (mr K x i i) x)
theorem mr_ge (K : Nat → Nat) (x : Nat) : ∀ i j, i ≤ j → mr K x i j = K j
  | 0, _, _ => rfl
  | i + 1, j, h => by
    show up (mr K x i) i _ j = _
    unfold up
    rw [if_neg (by omega), mr_ge K x i j (by omega)]
theorem mr_lt (K : Nat → Nat) (x : Nat) : ∀ i j, j < i → mr K x i j = x8 (K j) x
  | 0, _, h => absurd h (by omega)
  | i + 1, j, h => by
    show up (mr K x i) i _ j = _
    unfold up
    by_cases e : j = i
    · rw [if_pos e, mr_ge K x i i (Nat.le_refl _), e]
    · rw [if_neg e, mr_lt K x i j (by omega)]
/-- A block, each byte xor x. -/
def mk8 (K : Nat → Nat) (x : Nat) : Nat → Nat := fun j => x8 (K j) x
set_option maxRecDepth 100000
/-- How many bytes k parts have. -/
def tn (P : Nat → Pt8) : Nat → Nat
  | 0 => 0
  | k + 1 => tn P k + (P k).n
/-- What a list of parts wants: where it lies, and each part's slice. -/
structure Lw (pl : Option Addr) (P : Nat → Pt8) (m : Nat) : Prop where
  p2 : 0 < m → ∃ g o, pl = some ⟨g, o, none⟩
  bv : ∀ i, i < m → Bv (P i).gb (P i).o (P i).n (P i).cp 0 (.slice (P i).p (P i).n (P i).cp) ∧ (P i).n ≤ (P i).cp
  tl : ∀ i, i < m → 64 + tn P i + (P i).n < 4611686018427387904
  ml : m ≤ 1048576
theorem Ls.mk {w : World} {l : List (Nat × List Value)} {gs : Nat} {vs : List Value} {P : Nat → Pt8} {m : Nat} (h : Mm w l) (k : Nat) (hk : l[k]? = some (gs, vs)) (hv : ∀ i, i < m → vs[i]? = some (.slice (P i).p (P i).n (P i).cp)) (hr : ∀ i, i < m → Rs (P i).gb (P i).o (P i).n (P i).f w) : Ls (some ⟨gs, 0, none⟩) P m w := fun g o e i hi => by
  injection e with e
  injection e with e1 e2
  subst e1 e2
  have hb := h.blk _ (List.mem_of_getElem? hk)
  exact ⟨hb.1, by rw [Nat.zero_add]; exact (hb.2 i _ (hv i hi)).1, hr i hi⟩
theorem Ls.one {w : World} {l : List (Nat × List Value)} {gs : Nat} {q : Pt8} (h : Mm w l) (k : Nat) (hk : l[k]? = some (gs, [.slice q.p q.n q.cp])) (hr : Rs q.gb q.o q.n q.f w) : Ls (some ⟨gs, 0, none⟩) (fun _ => q) 1 w :=
  Ls.mk h k hk (fun i hi => by
    obtain rfl : i = 0 := by omega
    rfl) (fun _ _ => hr)
/-- A part that is a whole row. -/
def pw (g n : Nat) (f : Nat → Nat) : Pt8 := ⟨g, 0, n, n, some ⟨g, 0, none⟩, f⟩
theorem pw_bv (g n : Nat) (f : Nat → Nat) : Bv (pw g n f).gb (pw g n f).o (pw g n f).n (pw g n f).cp 0 (.slice (pw g n f).p (pw g n f).n (pw g n f).cp) ∧ (pw g n f).n ≤ (pw g n f).cp := ⟨Bv.start _ _ _ _, Nat.le_refl _⟩
theorem Lw.one (gs g n : Nat) (f : Nat → Nat) (hn : n ≤ 1048576) : Lw (some ⟨gs, 0, none⟩) (fun _ => pw g n f) 1 :=
  ⟨fun _ => ⟨gs, 0, rfl⟩, fun _ _ => pw_bv g n f, fun i hi => by
    obtain rfl : i = 0 := by omega
    show 64 + 0 + n < _
    omega, by decide⟩
section
variable {ρ : Operand → Value} {o : Oper} {x : Operand} {w : World}
end
set_option maxRecDepth 100000
/-- A part handed in is a slice. -/
structure Pok (q : Pt8) : Prop where
  bv : Bv q.gb q.o q.n q.cp 0 (.slice q.p q.n q.cp)
  le : q.n ≤ q.cp
abbrev Pt8.rs (q : Pt8) (w : World) : Prop := Rs q.gb q.o q.n q.f w
theorem Lw.of (gs : Nat) {q : Pt8} (h : Pok q) (hn : q.n ≤ 1048576) : Lw (some ⟨gs, 0, none⟩) (fun _ => q) 1 :=
  ⟨fun _ => ⟨gs, 0, rfl⟩, fun _ _ => ⟨h.bv, h.le⟩, fun i hi => by
    obtain rfl : i = 0 := by omega
    show 64 + 0 + q.n < _
    omega, by decide⟩
theorem Pok.at {q : Pt8} (h : Pok q) (hn : 0 < q.n) : q.p = some ⟨q.gb, q.o, none⟩ := by
  have e := h.bv.1 hn
  injection e
section
variable {ρ : Operand → Value} {o : Oper} {x y : Operand} {g off m c j a : Nat} {w : World}
end
set_option maxRecDepth 100000
/-- A part that can be read, while nothing old is changed. -/
structure Bq (q : Pt8) (w w' : World) : Prop where
  b : Below w.heap.size w w'
  r : q.rs w'
theorem Bq.grow {q : Pt8} {w w1 w2 : World} (h : Bq q w w1) (hb : Below w1.heap.size w1 w2) : Bq q w w2 := ⟨h.b.trans (hb.mono h.b.size), h.r.below hb⟩
theorem Bq.size {q : Pt8} {w w1 : World} (h : Bq q w w1) : w.heap.size ≤ w1.heap.size := h.b.size
theorem ct_zero (f g : Nat → Nat) : ct f 0 g = g := by
  funext j
  unfold ct
  rw [if_neg (by omega), Nat.sub_zero]
section
variable {ρ : Operand → Value} {o : Oper} {x y z : Operand} {a c : Nat} {w : World}
end
set_option maxRecDepth 100000
theorem Zo.blk {w w1 : World} {B n g cap : Nat} {l : List (Nat × List Value)} {P : Nat → Nat} (h : Zo w B l (.slice (some ⟨g, 0, none⟩) n cap) n P w1) : B ≤ g ∧ g < w1.heap.size ∧ n ≤ cap ∧ Blk w1 g (ints .u8 P n) := by
  have hl := World.ownsRow.lt h.own g rfl
  refine ⟨hl.1, hl.2, ?_, fun j v hj => ?_⟩
  · rcases h.own.2 with ⟨h1, _⟩ | ⟨g', cap', cur, h1, _, _, h2, _⟩
    · cases h1
    · injection h1 with _ _ e
      rw [e]
      exact h2
  · have hjn : j < n := by
      have := (List.getElem?_eq_some_iff.1 hj).1
      rwa [ints_len] at this
    refine ⟨?_, World.ownsRow.frozenAt h.own j⟩
    rw [World.ownsRow.cellAt h.own j (by omega)]
    exact hj
section
variable {ρ : Operand → Value} {o : Oper} {x y : Operand} {z : Int} {w : World}
end
theorem nums_inj {xs ys : List Int} (hx : ∀ x ∈ xs, 0 ≤ x ∧ x < 256) (hy : ∀ x ∈ ys, 0 ≤ x ∧ x < 256) (e : (xs.map fun n => UInt8.ofNat n.toNat) = ys.map fun n => UInt8.ofNat n.toNat) : xs = ys := by
  have hl : xs.length = ys.length := by
    have := congrArg List.length e
    simpa using this
  apply List.ext_getElem hl
  intro i h1 h2
  have e1 := congrArg (fun l => l[i]?) e
  simp [h1, h2] at e1
  have a1 := hx _ (List.getElem_mem h1)
  have a2 := hy _ (List.getElem_mem h2)
  have e2 := congrArg UInt8.toNat e1
  rw [UInt8.toNat_ofNat', UInt8.toNat_ofNat'] at e2
  omega
set_option maxHeartbeats 400000 in
theorem same_all {xs ys : List Int} {c c' : Nat} {v v' : Value} (hx : ∀ x ∈ xs, 0 ≤ x ∧ x < 256) (hy : ∀ x ∈ ys, 0 ≤ x ∧ x < 256) (w : World) (h : BSl w xs c v) (h' : BSl w ys c' v') :
    Calls Try.prog 15 #[v, v'] w fun e w' => e = .returned (.bool (decide (xs = ys))) ∧ w' = w := by
  have h1 := h.text
  have h2 := h'.text
  have hb : ∀ l : List Int, (strOfNums l).toList = l.map (fun n => UInt8.ofNat n.toNat) := fun l => by
    rw [Lib.strOfNums_toList]
    rfl
  have h3 : ((strOfNums xs).toList == (strOfNums ys).toList) = decide (xs = ys) := by
    rw [hb, hb]
    by_cases e : xs = ys
    · rw [e]; simp
    · rw [decide_eq_false e]
      exact beq_eq_false_iff_ne.2 (fun e2 => e (nums_inj hx hy e2))
  rw [← h3]
  clear h h' h3 hx hy hb
  go_enter Try.func15, Try.ntmps15
  go_wp2
  go_ret
  exact ⟨rfl, rfl⟩
set_option maxRecDepth 100000
/-- A part with room behind it. -/
def pc (g n c : Nat) (f : Nat → Nat) : Pt8 := ⟨g, 0, n, c, some ⟨g, 0, none⟩, f⟩
theorem pc_ok (g n x : Nat) (f : Nat → Nat) : Pok (pc g n (n + x) f) := ⟨Bv.start _ _ _ _, Nat.le_add_right _ _⟩
section
variable {ρ : Operand → Value} {o : Oper} {x y : Operand} {a b : Nat} {w : World}
end
set_option maxRecDepth 100000
theorem Mm.bsl {w : World} {l : List (Nat × List Value)} {g m n c : Nat} {f : Nat → Nat} (h : Mm w l) (k : Nat) (hk : l[k]? = some (g, ints .u8 f m)) (hn : n ≤ m) (hc : n ≤ c) : BSl w ((List.range n).map fun i => ((f i : Nat) : Int)) c (.slice (some ⟨g, 0, none⟩) n c) :=
  Rd.bsl ⟨(h.blk _ (List.mem_of_getElem? hk)).1, (h.rs k hk hn).at_⟩ hc
/-- The part that a slice handed in is. -/
theorem bsl_part {w : World} {xs : List Int} {c : Nat} {v : Value} (hx : ∀ x ∈ xs, 0 ≤ x ∧ x < 256) (h : BSl w xs c v) (h0 : v = .slice none 0 0 ∨ ∃ a k c', v = .slice (some a) k c') :
    ∃ q : Pt8, v = .slice q.p q.n q.cp ∧ Pok q ∧ (q.p = none → q.cp = 0) ∧ q.rs w ∧ q.n = xs.length ∧ q.f = lf xs ∧ q.cp = c := by
  cases h using BSl.each with
  | full g o hg hc hcell =>
    refine ⟨⟨g, o, xs.length, c, some ⟨g, o, none⟩, lf xs⟩, rfl, ⟨Bv.start _ _ _ _, hc⟩, (fun e => by cases e), ⟨fun _ => hg, fun i hi => ?_⟩, rfl, rfl, rfl⟩
    rw [hcell i hi]
    have e := lf_int hx i
    show some (Value.int .u8 (xs.getD i 0)) = some (Value.int .u8 ((lf xs i : Nat) : Int))
    rw [e]
    unfold lent
    rw [if_pos hi]
  | void p hx' =>
    subst hx'
    refine ⟨⟨0, 0, 0, c, p, lf []⟩, rfl, ⟨Bv.void _ _ _ _ _, Nat.zero_le _⟩, fun e => ?_, Rs.void _ _ _ _, rfl, rfl, rfl⟩
    have e' : p = none := e
    subst e'
    rcases h0 with h0 | ⟨a, k, c', h0⟩
    · injection h0
    · injection h0 with h1
      cases h1
set_option maxRecDepth 100000
section
variable {ρ : Operand → Value} {o : Oper} {x y : Operand} {a b : Nat} {w : World}
end
set_option maxRecDepth 100000
def Dv (v : Value) (n : Nat) (f : Nat → Nat) (w : World) : Prop := (v = .slice none 0 0 ∧ n = 0) ∨ ∃ a cp, v = .slice (some a) n cp ∧ Ra a n f w
theorem Dv.below {v : Value} {n : Nat} {f : Nat → Nat} {w w' : World} (h : Dv v n f w) (hb : Below w.heap.size w w') : Dv v n f w' := by
  rcases h with h | ⟨a, cp, e, h⟩
  · exact .inl h
  · exact .inr ⟨a, cp, e, h.below hb⟩
set_option maxRecDepth 100000
/-- Two slices of the call's own, beside blocks l. -/
structure Z2 (w : World) (B : Nat) (l : List (Nat × List Value)) (v1 : Value) (n1 : Nat) (P1 : Nat → Nat) (v2 : Value) (n2 : Nat) (P2 : Nat → Nat) (w' : World) : Prop where
  b : Below w.heap.size w w'
  lo : w.heap.size ≤ B
  hi : B ≤ w'.heap.size
  m : Mm w' l
  lt : ∀ p ∈ l, p.1 < B
  o1 : w'.ownsRow B 5 1 v1 n1 (ints .u8 P1 n1)
  o2 : w'.ownsRow B 5 1 v2 n2 (ints .u8 P2 n2)
  ne : v1.ownBlock = none ∨ v1.ownBlock ≠ v2.ownBlock
theorem own_step {w1 w2 : World} {B n : Nat} {vv : Value} {P : Nat → Nat} (h : w1.ownsRow B 5 1 vv n (ints .u8 P n)) (hb : Below w1.heap.size w1 w2) : w2.ownsRow B 5 1 vv n (ints .u8 P n) := by
  refine ⟨h.1, ?_⟩
  rcases h.2 with ⟨h1, h2⟩ | ⟨g, cap, cur, h1, h2, h3, h4⟩
  · exact .inl ⟨h1, h2⟩
  · refine .inr ⟨g, cap, cur, h1, h2, ?_, h4⟩
    rw [hb.block g (Array.getElem?_eq_some_iff.1 h3).1]
    exact h3
theorem own_cg {w1 : World} {B n : Nat} {vv : Value} {P P' : Nat → Nat} (h : w1.ownsRow B 5 1 vv n (ints .u8 P n)) (e : ∀ j, j < n → P j = P' j) : w1.ownsRow B 5 1 vv n (ints .u8 P' n) := by
  rw [ints_congr e] at h
  exact h
theorem own_app {w1 : World} {B n : Nat} {vv : Value} {P : Nat → Nat} (h : w1.ownsRow B 5 1 vv n (ints .u8 P n)) (hB : B ≤ w1.heap.size) {a : Addr} (m c : Nat) (Q : Nat → Nat) (hr : ∀ j, j < m → w1.cell? (a.add j) = some (Z8 (Q j))) (hb : n + m ≤ 2097152) (ty : TypeId) :
    ∃ v' w2, (Builtin.append_ #[22, 22] ty #[vv, .slice (some a) m c]).run Try.prog w1 = .ok v' w2 ∧ w2.ownsRow B 5 1 v' (n + m) (ints .u8 (ct P n Q) (n + m)) ∧ w1.grownBy w2 vv.ownBlock ∧ (v'.ownBlock = vv.ownBlock ∨ v'.ownBlock = some w1.heap.size) := by
  obtain ⟨i0, hi, hz0, hz1, hz2⟩ := info_byte
  obtain ⟨v', w2, h1, h2, h3, _, h5⟩ := run_append_own_at (P := Try.prog) w1 B 22 ty 5 i0 (.int .u8 0) 1 1 Try.underlying22 hi hz0 hz1 hz2 rfl (by decide) vv n _ h a m c (ints .u8 Q m) (by rw [ints_len]; omega)
    (fun j u hj => by
      have hjm : j < m := by
        have := (List.getElem?_eq_some_iff.1 hj).1
        rwa [ints_len] at this
      rw [ints_get _ _ hjm] at hj
      rw [hr j hjm]
      exact hj) (List.all_eq_true.1 (ints_all _ _ _)) (by unfold maxLen; omega) (by omega) hB
  rw [ints_cat] at h2
  exact ⟨v', w2, h1, h2, h3, h5⟩
section
variable {w w1 w2 : World} {B n1 n2 : Nat} {l : List (Nat × List Value)} {v1 v2 : Value} {P1 P2 P' : Nat → Nat}
theorem Z2.size (h : Z2 w B l v1 n1 P1 v2 n2 P2 w1) : w.heap.size ≤ w1.heap.size := h.b.size
theorem Z2.step (h : Z2 w B l v1 n1 P1 v2 n2 P2 w1) (hb : Below w1.heap.size w1 w2) : Z2 w B l v1 n1 P1 v2 n2 P2 w2 :=
  ⟨h.b.trans (hb.mono h.b.size), h.lo, Nat.le_trans h.hi hb.size, h.m.below hb, h.lt, own_step h.o1 hb, own_step h.o2 hb, h.ne⟩
theorem Z2.nil (hm : Mm w1 l) (hb : Below w.heap.size w w1) (P1 P2 : Nat → Nat) : Z2 w w1.heap.size l (.slice none 0 0) 0 P1 (.slice none 0 0) 0 P2 w1 :=
  ⟨hb, hb.size, Nat.le_refl _, hm, fun p hp => (hm.blk p hp).1, World.ownsRow_nil _ _ _ _, World.ownsRow_nil _ _ _ _, .inl rfl⟩
end
/-- A slice of the call's own, apart from the blocks L. -/
structure Ow (w : World) (L : List Nat) (vv : Value) (n : Nat) (P : Nat → Nat) (w' : World) : Prop where
  b : Below w.heap.size w w'
  own : w'.ownsRow w.heap.size 5 1 vv n (ints .u8 P n)
  ne : ∀ g ∈ L, some g ≠ vv.ownBlock
section
variable {w w1 w2 : World} {B n n2 : Nat} {L : List Nat} {l : List (Nat × List Value)} {vv v2 : Value} {P P' P2 : Nat → Nat}
theorem Ow.size (h : Ow w L vv n P w1) : w.heap.size ≤ w1.heap.size := h.b.size
theorem Ow.step (h : Ow w L vv n P w1) (hb : Below w1.heap.size w1 w2) : Ow w L vv n P w2 := ⟨h.b.trans (hb.mono h.b.size), own_step h.own hb, h.ne⟩
theorem Ow.cg (h : Ow w L vv n P w1) (e : ∀ j, j < n → P j = P' j) : Ow w L vv n P' w1 := ⟨h.b, own_cg h.own e, h.ne⟩
theorem Ow.alloc (h : Ow w L vv n P w1) (o : Obj) : Ow w (w1.heap.size :: L) vv n P (w1.alloc o) :=
  ⟨h.b.trans (((Below.refl _ _).alloc (Nat.le_refl _) _).mono h.b.size), own_step h.own ((Below.refl _ _).alloc (Nat.le_refl _) _), fun g hg e => by
    rcases List.mem_cons.1 hg with rfl | hg
    · have := (World.ownsRow.lt h.own _ e.symm).2
      omega
    · exact h.ne g hg e⟩
theorem Ow.put (h : Ow w L vv n P w1) {g off : Nat} {vs : List Value} (hg : g ∈ L) (ho : w.heap.size ≤ g) : Ow w L vv n P (w1.setCells g off vs) := by
  refine ⟨below_setCells _ ho _ _ _ h.b, ⟨h.own.1, ?_⟩, h.ne⟩
  rcases h.own.2 with h1 | ⟨k, cap, cur, h1, h2, h3, h4⟩
  · exact .inl h1
  · refine .inr ⟨k, cap, cur, h1, h2, ?_, h4⟩
    have hk : k ≠ g := fun e => h.ne g hg (by rw [h1, ← e]; rfl)
    rw [heap_setCells0 g k hk]
    exact h3
theorem Ow.app (h : Ow w L vv n P w1) (hm : Mm w1 l) (hl : l.map Prod.fst = L) {a : Addr} (m c : Nat) (Q : Nat → Nat) (hr : ∀ j, j < m → w1.cell? (a.add j) = some (Z8 (Q j))) (hb : n + m ≤ 2097152) (ty : TypeId) :
    ∃ v' w2, (Builtin.append_ #[22, 22] ty #[vv, .slice (some a) m c]).run Try.prog w1 = .ok v' w2 ∧ Ow w L v' (n + m) (ct P n Q) w2 ∧ Mm w2 l := by
  obtain ⟨v', w2, h1, h2, h3, h5⟩ := own_app h.own h.b.size m c Q hr hb ty
  have hb2 : Below w.heap.size w1 w2 := (Below.refl _ _).grown h3 h.b.size (fun k hk => (World.ownsRow.lt h.own k hk).1)
  have hne : ∀ p ∈ l, some p.1 ≠ vv.ownBlock := fun p hp => h.ne p.1 (by rw [← hl]; exact List.mem_map_of_mem hp)
  refine ⟨v', w2, h1, ⟨h.b.trans hb2, h2, fun g hg e => ?_⟩, ⟨fun p hp => ?_, hm.nd⟩⟩
  · rcases h5 with e5 | e5
    · exact h.ne g hg (e.trans e5)
    · rw [e5] at e
      rw [← hl] at hg
      obtain ⟨p, hp, e6⟩ := List.mem_map.1 hg
      have := (hm.blk p hp).1
      injection e with e
      omega
  · have hlt := (hm.blk p hp).1
    have hblk := h3.block p.1 hlt (hne p hp)
    refine ⟨Nat.lt_of_lt_of_le hlt hb2.size, fun j v hj => ?_⟩
    have := (hm.blk p hp).2 j v hj
    rw [World.cell?_of_block (a := ⟨p.1, j, none⟩) hblk, World.frozen?_of_block (a := ⟨p.1, j, none⟩) hblk]
    exact this
end
/-- A key's block, as the document fills it. -/
def kz (f : Nat → Nat) (n : Nat) : Nat → Nat := fun j => if j < n then f j else 0
set_option maxRecDepth 100000
/-- A key's block, as the document has it. -/
def kd (f : Nat → Nat) (n : Nat) : Nat → Nat := if 64 < n then kz (ds f n) 32 else kz f n
set_option maxRecDepth 100000
/-- A slice handed in: its bytes, its part. -/
structure Ar (xs : List Int) (a : Pt8) : Prop where
  ok : Pok a
  nn : a.p = none → a.cp = 0
  len : a.n = xs.length
  f : a.f = lf xs
  by_ : ∀ x ∈ xs, 0 ≤ x ∧ x < 256
abbrev Pt8.bs (a : Pt8) (xs : List Int) (w : World) : Prop := BSl w xs a.cp (.slice a.p a.n a.cp) ∧ a.rs w
theorem Pt8.bs.below {a : Pt8} {xs : List Int} {w w' : World} (h : a.bs xs w) (hb : Below w.heap.size w w') : a.bs xs w' := ⟨BSl.below h.1 hb, Rs.below h.2 hb⟩
section
variable {ρ : Operand → Value} {o : Oper} {x y : Operand} {t : Bool} {w : World}
end
set_option maxRecDepth 100000
theorem Ow.nil (P : Nat → Nat) (w : World) : Ow w [] (.slice none 0 0) 0 P w := ⟨Below.refl _ _, World.ownsRow_nil _ _ _ _, fun g hg => by cases hg⟩
theorem Ow.rs {w w1 : World} {L : List Nat} {n g c : Nat} {P : Nat → Nat} (h : Ow w L (.slice (some ⟨g, 0, none⟩) n c) n P w1) : Rs g 0 n P w1 := by
  refine ⟨fun _ => (World.ownsRow.lt h.own g rfl).2, fun i hi => ?_⟩
  have := World.ownsRow.cells h.own (g := g) rfl i _ (ints_get .u8 P hi)
  rw [show (⟨g, 0, none⟩ : Addr).add i = ⟨g, 0 + i, none⟩ by unfold Addr.add; split <;> simp_all] at this
  exact this
theorem Ow.less {w w1 : World} {L : List Nat} {n : Nat} {vv : Value} {P : Nat → Nat} (h : Ow w L vv n P w1) : Ow w [] vv n P w1 := ⟨h.b, h.own, fun g hg => by cases hg⟩
/-- The outer slice, and a part that can be read. -/
structure Oq (q : Pt8) (w : World) (vv : Value) (n : Nat) (P : Nat → Nat) (w' : World) : Prop where
  o : Ow w [] vv n P w'
  r : q.rs w'
theorem Oq.step {q : Pt8} {w w1 w2 : World} {vv : Value} {n : Nat} {P : Nat → Nat} (h : Oq q w vv n P w1) (hb : Below w1.heap.size w1 w2) : Oq q w vv n P w2 := ⟨h.o.step hb, h.r.below hb⟩
theorem Oq.size {q : Pt8} {w w1 : World} {vv : Value} {n : Nat} {P : Nat → Nat} (h : Oq q w vv n P w1) : w.heap.size ≤ w1.heap.size := h.o.b.size
section
variable {ρ : Operand → Value} {o : Oper} {x y : Operand} {a : Nat} {w : World}
end
set_option maxRecDepth 100000
def setO (j : Nat) (v : Value) : Obj → Obj
  | .cells c elem frozen => .cells (c.setIfInBounds j v) elem frozen
  | o => o
theorem heap_set {w : World} {g j : Nat} {v : Value} {o : Obj} (h : w.heap[g]? = some o) : (w.setCells g j [v]).heap[g]? = some (setO j v o) := by
  show (World.setCell w ⟨g, j, none⟩ v).heap[g]? = _
  unfold World.setCell
  show (Array.modify _ _ _)[g]? = _
  rw [Array.getElem?_modify, if_pos rfl, h]
  cases o <;> rfl
/-- Two blocks alike but in their first c cells. -/
def Sm (c : Nat) (o o' : Obj) : Prop := o' = o ∨ ∃ cur cur' t fz, o = .cells cur t fz ∧ o' = .cells cur' t fz ∧ cur'.size = cur.size ∧ ∀ j, c ≤ j → cur'[j]? = cur[j]?
theorem Sm.trans {c : Nat} {a b d : Obj} (h : Sm c a b) (k : Sm c b d) : Sm c a d := by
  rcases h with rfl | ⟨x, y, t, fz, rfl, rfl, h1, h2⟩
  · exact k
  · rcases k with rfl | ⟨x2, y2, t2, fz2, e, rfl, h3, h4⟩
    · exact .inr ⟨x, y, t, fz, rfl, rfl, h1, h2⟩
    · injection e with e1 e2 e3
      subst e1 e2 e3
      exact .inr ⟨x, y2, _, _, rfl, rfl, h3.trans h1, fun j hj => (h4 j hj).trans (h2 j hj)⟩
/-- Block g may have changed, in its first c cells alone. -/
structure Ov (c g : Nat) (w w' : World) : Prop where
  k : Kp g w w'
  lt : g < w.heap.size
  ob : ∀ o, w.heap[g]? = some o → ∃ o', w'.heap[g]? = some o' ∧ Sm c o o'
theorem Ov.refl {c g : Nat} {w : World} (h : g < w.heap.size) : Ov c g w w := ⟨Kp.refl g w, h, fun o e => ⟨o, e, .inl rfl⟩⟩
theorem Ov.size {c g : Nat} {w w' : World} (h : Ov c g w w') : w.heap.size ≤ w'.heap.size := h.k.size
theorem Ov.grow {c g : Nat} {w w1 w2 : World} (h : Ov c g w w1) (hb : Below w1.heap.size w1 w2) : Ov c g w w2 :=
  ⟨h.k.trans hb, h.lt, fun o e => by
    obtain ⟨o', e', h1⟩ := h.ob o e
    exact ⟨o', by rw [hb.block g (Nat.lt_of_lt_of_le h.lt h.k.size)]; exact e', h1⟩⟩
theorem Ov.join {c g : Nat} {w w1 w2 : World} (h : Ov c g w w1) (k : Ov c g w1 w2) : Ov c g w w2 :=
  ⟨h.k.join k.k, h.lt, fun o e => by
    obtain ⟨o', e', h1⟩ := h.ob o e
    obtain ⟨o2, e2, h2⟩ := k.ob o' e'
    exact ⟨o2, e2, h1.trans h2⟩⟩
theorem Ov.put {c g j : Nat} {v : Value} {w w1 : World} (h : Ov c g w w1) (hj : j < c) : Ov c g w (w1.setCells g j [v]) :=
  ⟨h.k.put (Or.inl rfl), h.lt, fun o e => by
    obtain ⟨o', e', h1⟩ := h.ob o e
    refine ⟨_, heap_set e', h1.trans ?_⟩
    cases o' with
    | cells cur t fz => exact .inr ⟨cur, _, t, fz, rfl, rfl, by simp, fun i hi => by rw [Array.getElem?_setIfInBounds, if_neg (by omega)]⟩
    | _ => exact .inl rfl⟩
/-- Where the first c cells are what they were, nothing has changed. -/
theorem Ov.same {c g : Nat} {w w' : World} {vs : List Value} (h : Ov c g w w') (hm : Mm w [(g, vs)]) (hm' : Mm w' [(g, vs)]) (hl : vs.length = c) : Below w.heap.size w w' := by
  refine ⟨h.k.os, h.k.tape, h.k.output, h.k.size, fun k hk => ?_⟩
  by_cases e : k = g
  · subst e
    obtain ⟨o', e', h1⟩ := h.ob _ (Array.getElem?_eq_getElem hk)
    rw [e', Array.getElem?_eq_getElem hk]
    rcases h1 with rfl | ⟨cur, cur', t, fz, ho, rfl, h1, h2⟩
    · rfl
    · rw [ho]
      congr 2
      apply Array.ext_getElem?
      intro j
      by_cases hj : j < c
      · have b1 := (hm.blk _ (List.mem_singleton.2 rfl)).2 j _ (List.getElem?_eq_getElem (by rw [hl]; exact hj))
        have b2 := (hm'.blk _ (List.mem_singleton.2 rfl)).2 j _ (List.getElem?_eq_getElem (by rw [hl]; exact hj))
        have c1 := b1.1
        have c2 := b2.1
        unfold World.cell? at c1 c2
        simp [Array.getElem?_eq_getElem hk, ho] at c1
        simp [e'] at c2
        rw [c1, c2]
      · exact h2 j (by omega)
  · exact h.k.block k hk e
theorem mr_succ (K : Nat → Nat) (x i : Nat) : mr K x (i + 1) = up (mr K x i) i (x8 (mr K x i i) x) := rfl
theorem x8_twice {a : Nat} (x : Nat) (h : a < 256) (hx : x < 256) : x8 (x8 a x) x = a := by
  unfold x8
  have h1 : a ^^^ x < 2 ^ 8 := Nat.xor_lt_two_pow h hx
  rw [Nat.mod_eq_of_lt h1, Nat.xor_assoc, Nat.xor_self, Nat.xor_zero, Nat.mod_eq_of_lt h]
section
variable {ρ : Operand → Value} {o : Oper} {x y : Operand} {n c : Nat} {w : World} {p : Option Addr}
theorem ex_cap22 (ho : o.op = .call { callee := .builtin .cap, args := #[x], argTypes := #[22] }) (hx : ρ x = .slice p n c) : (execOp ρ o).run Try.prog w = .ok (.value (.int .i64 ((c : Nat) : Int))) w := by
  have hr : (Builtin.cap_ #[22] o.type #[.slice p n c]).run Try.prog w = .ok (.int .i64 ((c : Nat) : Int)) w := by
    simp [Builtin.cap_, goInt]
  unfold execOp
  simp only [ho, resolve, invoke, builtin, Sem.run_bind, Sem.run_pure, Result.andThen_ok, List.map_toArray, List.map_cons, List.map_nil, hx, hr]
end
set_option maxHeartbeats 1000000 in
set_option maxRecDepth 100000 in
theorem Over_some (g n c : Nat) (f : Nat → Nat) (hc : c ≤ 1048576) (w : World) (hm : Mm w [(g, ints .u8 f c)]) :
    Calls Try.prog 39 #[.slice (some ⟨g, 0, none⟩) n c] w fun e w' => e = .returned (.tuple #[]) ∧ Mm w' [(g, ints .u8 (mk8 f 90) c)] ∧ Ov c g w w' := by
  have H0 : Hid (_ ∧ _) := ⟨hm, Ov.refl (c := c) (g := g) (hm.blk _ (List.mem_singleton.2 rfl)).1⟩
  clear hm
  go_enter Try.func39, Try.ntmps39
  refine wp_seq ?_
  refine walk_seqA 5 [.quiet (.slice (some ⟨g, 0, none⟩) n c), .quiet (.slice (some ⟨g, 0, none⟩) n c), .quiet (.int .i64 ((c : Nat) : Int)), .quiet (.slice (some ⟨g, 0, none⟩) c c), .quiet (.slice (some ⟨g, 0, none⟩) c c)] (sB H0) ?ho1 ?he1
  case ho1 => exact ak (fun _ => ⟨rfl, fun _ _ => rfl⟩) (ak (fun _ => ⟨rfl, fun _ _ => rfl⟩) (ak (fun γ => ⟨rfl, fun w' _ => ex_cap22 rfl rfl⟩) (ak (fun γ => ⟨rfl, fun w' _ => ex_slH22 (l := c) rfl rfl rfl (Nat.le_refl _)⟩) (ak (fun _ => ⟨rfl, fun _ _ => rfl⟩) trivial))))
  intro γ w1 l hM hl
  have M1 : Mm w1 [(g, ints .u8 f c)] := H0.out.1.grow hM (Nat.le_refl _) hl [] rfl (by decide)
  have B1 : Ov c g w w1 := H0.out.2.grow (hM.below)
  clear hM hl l
  clear γ
  have H1 : Hid (_ ∧ _) := ⟨M1, B1⟩
  clear M1 B1
  refine rest0 rfl (then_normal (wp_seq ?_))
  refine walk_seqA 1 [.quiet (.int .i64 0)] (sB H1) ?ho2 ?he2
  case ho2 => exact ak (fun _ => ⟨rfl, fun _ _ => rfl⟩) trivial
  intro γ w2 l hM hl
  have M2 : Mm w2 [(g, ints .u8 f c)] := H1.out.1.grow hM (Nat.le_refl _) hl [] rfl (by decide)
  have B2 : Ov c g w w2 := H1.out.2.grow (hM.below)
  clear hM hl l H1
  clear γ
  have H2 : Hid (_ ∧ _) := ⟨M2, B2⟩
  clear M2 B2
  refine rest0 rfl (then_normal (wp_block ?_))
  refine loop_ghost (α := Nat) (fun k a' w' => ∃ s0 : Nat → Value, a' = ⟨#[.slice (some ⟨g, 0, none⟩) n c, undef, .slice (some ⟨g, 0, none⟩) c c, .int .i64 ((k : Nat) : Int), .slice (some ⟨g, 0, none⟩) n c, .slice (some ⟨g, 0, none⟩) n c, .int .i64 ((c : Nat) : Int), .slice (some ⟨g, 0, none⟩) c c, s0 8, s0 9, s0 10, s0 11, s0 12, s0 13, s0 14, s0 15, s0 16, s0 17, s0 18, s0 19, s0 20, s0 21], []⟩ ∧ (Mm w' [(g, ints .u8 (mr f 90 k) c)] ∧ Ov c g w w') ∧ k ≤ c) (fun k => c - k) 0 ?st0 ?rd0
  case st0 => exact ⟨(slotfn [undef, undef, undef, undef, undef, undef, undef, undef, undef, undef, undef, undef, undef, undef, undef, undef, undef, undef, undef, undef, undef, undef]), rfl, ⟨H2.out.1, H2.out.2⟩, by omega⟩
  intro k a' w3 hI
  obtain ⟨s0, rfl, hMB, hk0⟩ := hI
  have H3 : Hid (_ ∧ _) := hMB
  clear hMB H2
  by_cases hltk : k < c
  · have hrd : True := trivial
    clear hrd
    refine wp_seq (wp_seq ?_)
    refine walk_seqA 4 [.quiet (.int .i64 ((k : Nat) : Int)), .quiet (.slice (some ⟨g, 0, none⟩) c c), .quiet (.int .i64 ((c : Nat) : Int)), .quiet (.bool true)] (sB H3) ?ho3 ?he3
    case ho3 => exact ak (fun _ => ⟨rfl, fun _ _ => rfl⟩) (ak (fun _ => ⟨rfl, fun _ _ => rfl⟩) (ak (by refine fun γ => ⟨rfl, fun w' h => ?_⟩; clear h; go_simp) (ak (by refine fun γ => ⟨rfl, fun w' h => ?_⟩; clear h; go_simp <;> omega) trivial)))
    intro γ w4 l hM hl
    have M4 : Mm w4 [(g, ints .u8 (mr f 90 k) c)] := H3.out.1.grow hM (Nat.le_refl _) hl [] rfl (by decide)
    have B4 : Ov c g w w4 := H3.out.2.grow (hM.below)
    clear hM hl l H3
    clear γ
    have H4 : Hid (_ ∧ _) := ⟨M4, B4⟩
    clear M4 B4
    refine rest0 rfl (then_normal (wp_cond_true rfl ?_))
    refine wp_skip (then_normal ?_)
    refine wp_seq (wp_block ?_)
    refine walk_seqA 8 [.quiet (.slice (some ⟨g, 0, none⟩) c c), .quiet (.int .i64 ((k : Nat) : Int)), .quiet (.slice (some ⟨g, 0, none⟩) c c), .quiet (.int .i64 ((k : Nat) : Int)), .quiet (PT g (0 + k)), .quiet (Z8 ((mr f 90 k) (0 + k))), .quiet (Z8 (x8 ((mr f 90 k) (0 + k)) 90)), .quiet (PT g (0 + k))] (sB H4) ?ho4 ?he4
    case ho4 => exact ak (fun _ => ⟨rfl, fun _ _ => rfl⟩) (ak (fun _ => ⟨rfl, fun _ _ => rfl⟩) (ak (fun _ => ⟨rfl, fun _ _ => rfl⟩) (ak (fun _ => ⟨rfl, fun _ _ => rfl⟩) (ak (fun γ => ⟨rfl, fun w' _ => ex_ixS22 (m := c) (j := k) rfl rfl rfl (by omega)⟩) (ak (fun γ => ⟨rfl, fun w' h => ex_loadC h 0 rfl rfl rfl Try.isAgg5 (ints_get _ _ (by omega))⟩) (ak (fun γ => ⟨rfl, fun w' _ => ex_xor8 rfl rfl rfl⟩) (ak (fun γ => ⟨rfl, fun w' _ => ex_ixS22 (m := c) (j := k) rfl rfl rfl (by omega)⟩) trivial)))))))
    intro γ w5 l hM hl
    have M5 : Mm w5 [(g, ints .u8 (mr f 90 k) c)] := H4.out.1.grow hM (Nat.le_refl _) hl [] rfl (by decide)
    have B5 : Ov c g w w5 := H4.out.2.grow (hM.below)
    clear hM hl l H4
    clear γ
    have H5 : Hid (_ ∧ _) := ⟨M5, B5⟩
    clear M5 B5
    refine rest_at (l := [8]) rfl ?_
    refine rest_store rfl rfl rfl (ex_storeI H5.out.1 0 rfl rfl Try.sizeOf5 rfl rfl (by rw [ints_len]; omega)) ?_
    have H6 : Hid (Mm (w5.setCells g (0 + k) ([Z8 (x8 ((mr f 90 k) (0 + k)) 90)])) [(g, ints .u8 (mr f 90 (k + 1)) c)] ∧ Ov c g w (w5.setCells g (0 + k) ([Z8 (x8 ((mr f 90 k) (0 + k)) 90)]))) := ⟨by
      have h := H5.out.1.put 0 (off := (0 + k)) (vs := [Z8 (x8 ((mr f 90 k) (0 + k)) 90)]) rfl (by rw [ints_len]; simp only [List.length_cons, List.length_nil]; omega)
      rw [ints_patch _ _ _ _ (by omega), show ints .u8 (up (mr f 90 k) (0 + k) (x8 ((mr f 90 k) (0 + k)) 90)) c = ints .u8 (mr f 90 (k + 1)) c by rw [Nat.zero_add, mr_succ]] at h
      exact h, H5.out.2.put (by omega)⟩
    clear H5
    generalize hgw : World.setCells _ _ _ _ = w6 at H6 ⊢
    clear hgw
    refine rest_nil (block_normal (then_normal ?_))
    refine walk_seqA 2 [.quiet (.int .i64 ((k : Nat) : Int)), .quiet (.int .i64 ((k + 1 : Nat) : Int))] (sB H6) ?ho5 ?he5
    case ho5 => exact ak (fun _ => ⟨rfl, fun _ _ => rfl⟩) (ak (by refine fun γ => ⟨rfl, fun w' h => ?_⟩; clear h; go_simp; rw [IntKind.wrap_i64]; omega) trivial)
    intro γ w7 l hM hl
    have M7 : Mm w7 [(g, ints .u8 (mr f 90 (k + 1)) c)] := H6.out.1.grow hM (Nat.le_refl _) hl [] rfl (by decide)
    have B7 : Ov c g w w7 := H6.out.2.grow (hM.below)
    clear hM hl l H6
    clear γ
    have H7 : Hid (_ ∧ _) := ⟨M7, B7⟩
    clear M7 B7
    refine rest_at (l := [2]) rfl ?_
    refine rest_set (d := 3) rfl rfl rfl rfl ?_
    simp only [Act.put, sa, sz, ss]
    refine rest_nil (then_normal ?_)
    exact ⟨k + 1, ⟨(slotfn [undef, undef, undef, undef, undef, undef, undef, undef, .int .i64 ((k : Nat) : Int), .slice (some ⟨g, 0, none⟩) c c, .int .i64 ((c : Nat) : Int), .bool true, .int .i64 ((k : Nat) : Int), .int .i64 ((k + 1 : Nat) : Int), .slice (some ⟨g, 0, none⟩) c c, .int .i64 ((k : Nat) : Int), .slice (some ⟨g, 0, none⟩) c c, .int .i64 ((k : Nat) : Int), PT g (0 + k), Z8 ((mr f 90 k) (0 + k)), Z8 (x8 ((mr f 90 k) (0 + k)) 90), PT g (0 + k)]), rfl, ⟨H7.out.1, H7.out.2⟩, by omega⟩, by omega⟩
  have hkN : c = k := by omega
  subst hkN
  refine wp_seq (wp_seq ?_)
  refine walk_seqA 4 [.quiet (.int .i64 ((c : Nat) : Int)), .quiet (.slice (some ⟨g, 0, none⟩) c c), .quiet (.int .i64 ((c : Nat) : Int)), .quiet (.bool false)] (sB H3) ?ho6 ?he6
  case ho6 => exact ak (fun _ => ⟨rfl, fun _ _ => rfl⟩) (ak (fun _ => ⟨rfl, fun _ _ => rfl⟩) (ak (by refine fun γ => ⟨rfl, fun w' h => ?_⟩; clear h; go_simp) (ak (by refine fun γ => ⟨rfl, fun w' h => ?_⟩; clear h; go_simp <;> omega) trivial)))
  intro γ w8 l hM hl
  have M8 : Mm w8 [(g, ints .u8 (mr f 90 c) c)] := H3.out.1.grow hM (Nat.le_refl _) hl [] rfl (by decide)
  have B8 : Ov c g w w8 := H3.out.2.grow (hM.below)
  clear hM hl l H3
  clear γ
  have H8 : Hid (_ ∧ _) := ⟨M8, B8⟩
  clear M8 B8
  refine rest0 rfl (then_normal (wp_cond_false rfl ?_))
  refine wp_exit ?_
  repeat refine then_exit ?_
  refine block_exit ?_
  refine bodyPost_end (v := .tuple #[]) (by simp [results, Try.results39, go_sem]) rfl ?_
  have hfin := H8.out.1
  rw [ints_congr (fun j hj => mr_lt f 90 c j hj)] at hfin
  exact ⟨rfl, hfin, H8.out.2⟩
set_option maxRecDepth 100000 in
theorem Over_nil  (w : World) :
    Calls Try.prog 39 #[.slice none 0 0] w fun e w' => e = .returned (.tuple #[]) ∧ Below w.heap.size w w' := by
  have H0 : Hid (_ ∧ _) := ⟨Mm.nil w, Below.refl w.heap.size w⟩
  go_enter Try.func39, Try.ntmps39
  refine wp_seq ?_
  refine walk_seqB 5 [.quiet (.slice none 0 0), .quiet (.slice none 0 0), .quiet (.int .i64 0), .quiet (.slice none 0 0), .quiet (.slice none 0 0)] H0 ?ho1 ?he1
  case ho1 => exact ak (fun _ => ⟨rfl, fun _ _ => rfl⟩) (ak (fun _ => ⟨rfl, fun _ _ => rfl⟩) (ak (fun γ => ⟨rfl, fun w' _ => ex_cap22 rfl rfl⟩) (ak (fun γ => ⟨rfl, fun w' _ => ex_slH0 rfl rfl rfl⟩) (ak (fun _ => ⟨rfl, fun _ _ => rfl⟩) trivial))))
  intro _ w1 H1
  refine rest0 rfl (then_normal (wp_seq ?_))
  refine walk_seqB 1 [.quiet (.int .i64 0)] H1 ?ho2 ?he2
  case ho2 => exact ak (fun _ => ⟨rfl, fun _ _ => rfl⟩) trivial
  intro _ w2 H2
  clear H1
  refine rest0 rfl (then_normal (wp_block ?_))
  refine wp_loop_rounds 1 ?_
  refine rounds_in (n := 0) ?_
  refine wp_seq (wp_seq ?_)
  refine walk_seqB 4 [.quiet (.int .i64 0), .quiet (.slice none 0 0), .quiet (.int .i64 0), .quiet (.bool false)] H2 ?ho3 ?he3
  case ho3 => exact ak (fun _ => ⟨rfl, fun _ _ => rfl⟩) (ak (fun _ => ⟨rfl, fun _ _ => rfl⟩) (ak (by refine fun γ => ⟨rfl, fun w' h => ?_⟩; clear h; go_simp) (ak (by refine fun γ => ⟨rfl, fun w' h => ?_⟩; clear h; go_simp <;> omega) trivial)))
  intro _ w3 H3
  clear H2
  refine rest0 rfl (then_normal (wp_cond_false rfl ?_))
  refine wp_exit ?_
  repeat refine then_exit ?_
  refine block_exit ?_
  refine bodyPost_end (v := .tuple #[]) (by simp [results, Try.results39, go_sem]) rfl ?_
  exact ⟨rfl, H3.out.2⟩
set_option maxRecDepth 100000
theorem Zo.appR {w w1 : World} {B n0 : Nat} {l : List (Nat × List Value)} {vv : Value} {P : Nat → Nat} (h : Zo w B l vv n0 P w1) {q : Pt8} (hq : Pok q) (hN : q.p = none → q.cp = 0) (hR : q.rs w1) (hb : n0 + q.n ≤ 2097152) (hv : vv ≠ .slice none 0 0) (ty : TypeId) :
    ∃ v' w2, (Builtin.append_ #[22, 22] ty #[vv, .slice q.p q.n q.cp]).run Try.prog w1 = .ok v' w2 ∧ Zo w B l v' (n0 + q.n) (ct P n0 q.f) w2 ∧ v' ≠ .slice none 0 0 := by
  obtain ⟨gb, o, n, cp, p, f⟩ := q
  obtain ⟨hB, hle⟩ := hq
  simp only [Pt8.rs] at hB hN hR hb hle ⊢
  cases p with
  | none =>
    have hn : n = 0 := by
      rcases Nat.eq_zero_or_pos n with e | e
      · exact e
      · have := hB.1 e
        simp at this
    have hc := hN rfl
    subst hn hc
    exact ⟨vv, w1, h.app0 ty, h.cg (fun j hj => by unfold ct; rw [if_pos hj]), hv⟩
  | some a =>
    have hr : ∀ j, j < n → w1.cell? (a.add j) = some (Z8 (f j)) := fun j hj => by
      have e := hB.1 (by omega)
      injection e with e1
      injection e1 with e1
      rw [e1]
      exact hR.add j hj
    obtain ⟨i0, hi, hz0, hz1, hz2⟩ := info_byte
    obtain ⟨v', w2, h1, h2, h3, h4⟩ := run_append_own (P := Try.prog) w1 B 22 ty 5 i0 (.int .u8 0) 1 1 Try.underlying22 hi hz0 hz1 hz2 rfl (by decide) vv n0 _ h.own a n cp (ints .u8 f n) (by rw [ints_len]; omega)
      (fun j u hj => by
        have hjm : j < n := by
          have := (List.getElem?_eq_some_iff.1 hj).1
          rwa [ints_len] at this
        rw [ints_get _ _ hjm] at hj
        rw [hr j hjm]
        exact hj) (List.all_eq_true.1 (ints_all _ _ _)) (by unfold maxLen; omega) (by omega) h.hi
    have hb2 : Below B w1 w2 := (Below.refl _ _).grown h3 h.hi (fun k hk => (World.ownsRow.lt h.own k hk).1)
    rw [ints_cat] at h2
    exact ⟨v', w2, h1, ⟨h.b.trans (hb2.mono h.lo), h.lo, Nat.le_trans h.hi hb2.size, ⟨fun p hp => ⟨Nat.lt_of_lt_of_le (h.m.blk p hp).1 hb2.size, (h.m.blk p hp).2.below hb2 (h.lt p hp)⟩, h.m.nd⟩, h.lt, h2⟩, fun e => hv (h4.1 e).1⟩
theorem Zo.form1 {w w1 : World} {B n : Nat} {l : List (Nat × List Value)} {vv : Value} {P : Nat → Nat} (h : Zo w B l vv n P w1) (hv : vv ≠ .slice none 0 0) : ∃ g cap, vv = .slice (some ⟨g, 0, none⟩) n cap := by
  rcases h.own.2 with ⟨h1, _⟩ | ⟨g, cap, cur, h1, _⟩
  · exact absurd h1 hv
  · exact ⟨g, cap, h1⟩
set_option maxHeartbeats 1000000 in
set_option maxRecDepth 100000 in
theorem copy_born (a : Pt8) (ha : Pok a) (hN0 : a.p = none → a.cp = 0) (hna : a.n ≤ 1048576) (w : World) (hRa : a.rs w) :
    Calls Try.prog 25 #[.slice a.p a.n a.cp] w fun e w' => Below w.heap.size w w' ∧ ∃ (g x y : Nat), e = .returned ((fun g x _ => .slice (some ⟨g, 0, none⟩) a.n (a.n + x)) g x y) ∧ w.heap.size ≤ g ∧ g < w'.heap.size ∧ Blk w' g (ints .u8 a.f a.n) := by
  have H0 : Hid (_ ∧ _) := ⟨Mm.nil w, Below.refl w.heap.size w⟩
  have RA : Hid (a.rs w) := hRa
  have hN : Hid _ := hN0
  clear hRa hN0
  go_enter Try.func25, Try.ntmps25
  refine wp_seq ?_
  refine walk_seqB 1 [.quiet (.slice none 0 0)] H0 ?ho1 ?he1
  case ho1 => exact ak (fun _ => ⟨rfl, fun _ _ => rfl⟩) trivial
  intro _ w1 H1
  refine rest0 rfl (then_normal (wp_seq ?_))
  refine walk_seqB 0 [] H1 ?ho2 ?he2
  case ho2 => exact trivial
  intro _ w2 H2
  clear H1
  refine rest_at (l := [0, 1, 2, 3]) rfl ?_
  refine rest_set (d := 3) (v := .slice (some ⟨w2.heap.size, 0, none⟩) 0 0) (w' := (w2.alloc (.cells #[] 5))) rfl rfl rfl (ex_bs0 rfl) ?_
  simp only [Act.put, sa, sz, ss]
  have H3 : Hid (Mm (w2.alloc (.cells #[] 5)) [] ∧ Zo w w2.heap.size [] (.slice (some ⟨w2.heap.size, 0, none⟩) 0 0) 0 a.f (w2.alloc (.cells #[] 5))) := ⟨Mm.nil _, Zo.made a.f H2.out.1 H2.out.2⟩
  clear H2
  generalize hgw : (w2.alloc (.cells #[] 5)) = w3 at H3 ⊢
  clear hgw
  generalize w2.heap.size = γb at H3 ⊢
  refine rest_set (d := 4) (v := .slice a.p a.n a.cp) (w' := w3) rfl rfl rfl rfl ?_
  simp only [Act.put, sa, sz, ss]
  obtain ⟨v4, w4, hr, hZ, hnn⟩ := H3.out.2.appR (q := a) ha hN.out (RA.out.below H3.out.2.b) (by omega) (fun e => by cases e) 22
  rw [Nat.zero_add] at hZ
  refine rest_set (d := 5) (v := v4) (w' := w4) rfl rfl rfl (ex_app rfl rfl rfl hr) ?_
  simp only [Act.put, sa, sz, ss]
  have H4 : Hid (Mm w4 [] ∧ Zo w γb [] v4 a.n a.f w4) := ⟨Mm.nil _, hZ.cg (fun j _ => by rw [ct_zero])⟩
  have NN : Hid _ := hnn
  clear hr hZ hnn H3
  refine rest_set (d := 2) (v := v4) (w' := w4) rfl rfl rfl rfl ?_
  simp only [Act.put, sa, sz, ss]
  refine rest_nil (then_normal (wp_ret ?_))
  repeat (first | refine then_ret ?_ | refine block_ret ?_)
  refine bodyPost_ret (v := v4) (by simp [results, Try.results25, go_sem, *]) rfl ?_
  obtain ⟨g3, cap3, e3⟩ := H4.out.2.form1 NN.out
  rw [e3] at H4 ⊢
  obtain ⟨hf1, hf2, hf3, hf4⟩ := H4.out.2.blk
  exact ⟨H4.out.2.b, g3, cap3 - a.n, 0, by rw [show a.n + (cap3 - a.n) = cap3 by omega], Nat.le_trans H4.out.2.lo hf1, hf2, hf4⟩
/-- A slice that may lie apart: where, how long, its room, the bytes of all its room. -/
structure Ap where
  p : Option Addr
  g : Nat
  n : Nat
  c : Nat
  f : Nat → Nat
def Ap.pt (q : Ap) : Pt8 := ⟨q.g, 0, q.c, q.c, q.p, q.f⟩
structure Ap.Ok (q : Ap) : Prop where
  at_ : q.p = some ⟨q.g, 0, none⟩ ∨ (q.p = none ∧ q.n = 0 ∧ q.c = 0)
  le : q.n ≤ q.c
  mx : q.c ≤ 1048576
  by_ : ∀ j, q.f j < 256
def Ap.row (q : Ap) (f : Nat → Nat) (w : World) : Prop := q.p = none ∨ Mm w [(q.g, ints .u8 f q.c)]
theorem Ap.Ok.pok {q : Ap} (h : q.Ok) : Pok q.pt := by
  refine ⟨?_, Nat.le_refl _⟩
  show Bv q.g 0 q.c q.c 0 (.slice q.p q.c q.c)
  rcases h.at_ with e | ⟨e, _, e2⟩
  · rw [e]; exact Bv.start _ _ _ _
  · rw [e2]; exact Bv.void _ _ _ _ _
theorem Ap.Ok.nil {q : Ap} (h : q.Ok) : q.pt.p = none → q.pt.cp = 0 := fun e => by
  rcases h.at_ with e2 | ⟨_, _, e2⟩
  · exact absurd (e2.symm.trans e) (by simp)
  · exact e2
theorem Ap.row.rs {q : Ap} (h : q.Ok) {w : World} (hr : q.row q.f w) : q.pt.rs w := by
  rcases hr with e | hm
  · rcases h.at_ with e2 | ⟨_, _, e2⟩
    · exact absurd (e2.symm.trans e) (by simp)
    · show Rs q.g 0 q.c q.f w
      rw [e2]
      exact Rs.void _ _ _ _
  · exact hm.rs 0 rfl (Nat.le_refl _)
theorem Ap.row.below {q : Ap} {f : Nat → Nat} {w w' : World} (h : q.row f w) (hb : Below w.heap.size w w') : q.row f w' := by
  rcases h with h | h
  · exact .inl h
  · exact .inr (h.below hb)
theorem Ap.row.bsl {q : Ap} (h : q.Ok) {w : World} (hr : q.row q.f w) : BSl w ((List.range q.c).map fun i => ((q.f i : Nat) : Int)) q.c (.slice q.p q.c q.c) := by
  rcases hr with e | hm
  · rcases h.at_ with e2 | ⟨_, _, e2⟩
    · exact absurd (e2.symm.trans e) (by simp)
    · rw [e2]
      exact .void _ rfl
  · rcases h.at_ with e2 | ⟨_, _, e2⟩
    · rw [e2]
      exact hm.bsl 0 rfl (Nat.le_refl _) (Nat.le_refl _)
    · rw [e2]
      exact .void _ rfl
/-- Slices in a list. -/
def apl (A : Nat → Ap) (m : Nat) : List Value := (List.range m).map fun i => .slice (A i).p (A i).n (A i).c
structure Al (gl : Nat) (A : Nat → Ap) (m : Nat) (w : World) : Prop where
  ls : Mm w [(gl, apl A m)]
  row : ∀ i, i < m → (A i).row (A i).f w
theorem Al.below {gl : Nat} {A : Nat → Ap} {m : Nat} {w w' : World} (h : Al gl A m w) (hb : Below w.heap.size w w') : Al gl A m w' := ⟨h.ls.below hb, fun i hi => (h.row i hi).below hb⟩
structure Aw (gl : Nat) (A : Nat → Ap) (m : Nat) : Prop where
  ok : ∀ i, i < m → (A i).Ok
  ne : ∀ i j, i < m → j < m → i ≠ j → (A i).p ≠ none → (A j).p ≠ none → (A i).g ≠ (A j).g
  nl : ∀ i, i < m → (A i).p ≠ none → (A i).g ≠ gl
  ml : m ≤ 1048576
theorem rmap_get {F : Nat → Value} {m k : Nat} (h : k < m) : ((List.range m).map F)[0 + k]? = some (F k) := by
  rw [Nat.zero_add, List.getElem?_map, List.getElem?_range h]
  rfl
/-- The copies, k of them. -/
def wl (A : Nat → Ap) (G : Nat → Nat × Nat) (k m : Nat) : List Value := (List.range m).map fun j => if j < k then .slice (some ⟨(G j).1, 0, none⟩) (A j).c ((A j).c + (G j).2) else .slice none 0 0
theorem wl_len (A : Nat → Ap) (G : Nat → Nat × Nat) (k m : Nat) : (wl A G k m).length = m := by simp [wl]
theorem wl_get {A : Nat → Ap} {G : Nat → Nat × Nat} {m k : Nat} (h : k < m) : (wl A G m m)[0 + k]? = some (.slice (some ⟨(G k).1, 0, none⟩) (A k).c ((A k).c + (G k).2)) := by
  unfold wl
  rw [rmap_get h, if_pos h]
theorem wl_zero (A : Nat → Ap) (G : Nat → Nat × Nat) (m : Nat) : wl A G 0 m = List.replicate m (.slice none 0 0) := by
  apply List.ext_getElem?
  intro j
  unfold wl
  by_cases h : j < m
  · have e := rmap_get (F := fun j => if j < 0 then .slice (some ⟨(G j).1, 0, none⟩) (A j).c ((A j).c + (G j).2) else .slice none 0 0) h
    rw [Nat.zero_add] at e
    rw [e, List.getElem?_replicate, if_pos h, if_neg (Nat.not_lt_zero _)]
  · rw [List.getElem?_eq_none (by simp; omega), List.getElem?_replicate, if_neg h]
def uG (G : Nat → Nat × Nat) (k : Nat) (v : Nat × Nat) : Nat → Nat × Nat := fun j => if j = k then v else G j
theorem wl_put (A : Nat → Ap) (G : Nat → Nat × Nat) (k m g x : Nat) (h : k < m) : patch (wl A G k m) (0 + k) [.slice (some ⟨g, 0, none⟩) (A k).c ((A k).c + x)] = wl A (uG G k (g, x)) (k + 1) m := by
  apply List.ext_getElem?
  intro j
  rw [patch_get _ _ _ (by rw [wl_len]; simp; omega)]
  by_cases hj : j < m
  · have e1 : (wl A G k m)[j]? = some (if j < k then .slice (some ⟨(G j).1, 0, none⟩) (A j).c ((A j).c + (G j).2) else .slice none 0 0) := by
      have := rmap_get (F := fun j => if j < k then .slice (some ⟨(G j).1, 0, none⟩) (A j).c ((A j).c + (G j).2) else .slice none 0 0) hj
      rw [Nat.zero_add] at this
      exact this
    have e2 : (wl A (uG G k (g, x)) (k + 1) m)[j]? = some (if j < k + 1 then .slice (some ⟨(uG G k (g, x) j).1, 0, none⟩) (A j).c ((A j).c + (uG G k (g, x) j).2) else .slice none 0 0) := by
      have := rmap_get (F := fun j => if j < k + 1 then .slice (some ⟨(uG G k (g, x) j).1, 0, none⟩) (A j).c ((A j).c + (uG G k (g, x) j).2) else .slice none 0 0) hj
      rw [Nat.zero_add] at this
      exact this
    rw [e1, e2]
    unfold uG
    by_cases h1 : j = k
    · subst h1
      rw [if_pos (by simp), if_pos (by omega), if_pos rfl, show j - (0 + j) = 0 by omega]
      rfl
    · rw [if_neg (by simp; omega), if_neg h1]
      by_cases h2 : j < k
      · rw [if_pos h2, if_pos (by omega)]
      · rw [if_neg h2, if_neg (by omega)]
  · rw [if_neg (by simp; omega), List.getElem?_eq_none (by rw [wl_len]; omega), List.getElem?_eq_none (by rw [wl_len]; omega)]
structure Wq (w : World) (gw : Nat) (A : Nat → Ap) (m k : Nat) (G : Nat → Nat × Nat) (w' : World) : Prop where
  b : Below w.heap.size w w'
  lo : w.heap.size ≤ gw
  m_ : Mm w' [(gw, wl A G k m)]
  cp : ∀ j, j < k → gw < (G j).1 ∧ Mm w' [((G j).1, ints .u8 (A j).f (A j).c)]
def Wk (w : World) (gw : Nat) (A : Nat → Ap) (m k : Nat) (w' : World) : Prop := ∃ G, Wq w gw A m k G w'
section
variable {w w1 w2 : World} {gw gl m k i : Nat} {A : Nat → Ap} {G : Nat → Nat × Nat}
theorem Wq.step (h : Wq w gw A m k G w1) (hb : Below w1.heap.size w1 w2) : Wq w gw A m k G w2 := ⟨h.b.trans (hb.mono h.b.size), h.lo, h.m_.below hb, fun j hj => ⟨(h.cp j hj).1, (h.cp j hj).2.below hb⟩⟩
theorem Wq.size (h : Wq w gw A m k G w1) : w.heap.size ≤ w1.heap.size := h.b.size
theorem Wk.step (h : Wk w gw A m k w1) (hb : Below w1.heap.size w1 w2) : Wk w gw A m k w2 := let ⟨G, h⟩ := h; ⟨G, h.step hb⟩
theorem Wk.b (h : Wk w gw A m k w1) : Below w.heap.size w w1 := let ⟨_, h⟩ := h; h.b
theorem Wk.size (h : Wk w gw A m k w1) : w.heap.size ≤ w1.heap.size := h.b.size
theorem Wk.lt (h : Wk w gw A m k w1) : gw < w1.heap.size := let ⟨_, h⟩ := h; (h.m_.blk _ (List.mem_singleton.2 rfl)).1
theorem Wk.start (hb : Below w.heap.size w w1) (A : Nat → Ap) (m : Nat) (t : TypeId) : Wk w w1.heap.size A m 0 (w1.alloc (.cells (List.replicate m (.slice none 0 0) : List Value).toArray t)) :=
  ⟨fun _ => (0, 0), hb.alloc hb.size _, hb.size, by rw [wl_zero]; exact (Mm.nil w1).alloc _ t rfl, fun j hj => absurd hj (Nat.not_lt_zero _)⟩
theorem Mm.kp {w w' : World} {g k : Nat} {cs : List Value} (h : Mm w [(g, cs)]) (hk : Kp k w w') (hne : g ≠ k) : Mm w' [(g, cs)] := by
  refine ⟨fun p hp => ?_, List.pairwise_singleton _ _⟩
  rw [List.mem_singleton.1 hp]
  have hb := h.blk _ (List.mem_singleton.2 rfl)
  have hblk := hk.block g hb.1 hne
  refine ⟨Nat.lt_of_lt_of_le hb.1 hk.size, fun j v hj => ?_⟩
  rw [World.cell?_of_block (a := ⟨g, j, none⟩) hblk, World.frozen?_of_block (a := ⟨g, j, none⟩) hblk]
  exact hb.2 j v hj
theorem Mm.other {w : World} {g g' off : Nat} {cs vs : List Value} (h : Mm w [(g, cs)]) (hg : g ≠ g') : Mm (w.setCells g' off vs) [(g, cs)] := h.kp ((Kp.refl g' w).put (Or.inl rfl)) hg
theorem Wq.store (h : Wq w gw A m k G w1) (hk : k < m) {g x : Nat} (hg : gw < g) (hm : Mm w1 [(g, ints .u8 (A k).f (A k).c)]) : Wk w gw A m (k + 1) (w1.setCells gw (0 + k) [.slice (some ⟨g, 0, none⟩) (A k).c ((A k).c + x)]) := by
  refine ⟨uG G k (g, x), below_setCells _ h.lo _ _ _ h.b, h.lo, ?_, fun j hj => ?_⟩
  · have := h.m_.put 0 (off := 0 + k) (vs := [.slice (some ⟨g, 0, none⟩) (A k).c ((A k).c + x)]) rfl (by rw [wl_len]; simp; omega)
    rw [wl_put A G k m g x hk] at this
    exact this
  · unfold uG
    by_cases e : j = k
    · subst e
      rw [if_pos rfl]
      exact ⟨hg, hm.other (by omega)⟩
    · rw [if_neg e]
      have hc := h.cp j (by omega)
      exact ⟨hc.1, hc.2.other (by omega)⟩
/-- One of the slices is written over. -/
structure Wo (w : World) (gw : Nat) (A : Nat → Ap) (m i : Nat) (G : Nat → Nat × Nat) (w' : World) : Prop where
  lo : w.heap.size ≤ gw
  sz : w.heap.size ≤ w'.heap.size
  m_ : Mm w' [(gw, wl A G m m)]
  cp : ∀ j, j < m → gw < (G j).1 ∧ Mm w' [((G j).1, ints .u8 (A j).f (A j).c)]
  ov : ((A i).p = none ∧ Below w.heap.size w w') ∨ ((A i).p ≠ none ∧ Ov (A i).c (A i).g w w' ∧ Mm w' [((A i).g, ints .u8 (mk8 (A i).f 90) (A i).c)])
theorem Wo.step (h : Wo w gw A m i G w1) (hb : Below w1.heap.size w1 w2) : Wo w gw A m i G w2 :=
  ⟨h.lo, Nat.le_trans h.sz hb.size, h.m_.below hb, fun j hj => ⟨(h.cp j hj).1, (h.cp j hj).2.below hb⟩, by
    rcases h.ov with ⟨e, h1⟩ | ⟨e, h1, h2⟩
    · exact .inl ⟨e, h1.trans (hb.mono h.sz)⟩
    · exact .inr ⟨e, h1.grow hb, h2.below hb⟩⟩
theorem Wo.size (h : Wo w gw A m i G w1) : w.heap.size ≤ w1.heap.size := h.sz
theorem Wq.nil (h : Wq w gw A m m G w1) (hp : (A i).p = none) (hb : Below w1.heap.size w1 w2) : Wo w gw A m i G w2 :=
  let h' := h.step hb
  ⟨h'.lo, h'.b.size, h'.m_, h'.cp, .inl ⟨hp, h'.b⟩⟩
theorem Wq.over (h : Wq w gw A m m G w1) (hp : (A i).p ≠ none) (hlt : (A i).g < w.heap.size) (hm : Mm w2 [((A i).g, ints .u8 (mk8 (A i).f 90) (A i).c)]) (ho : Ov (A i).c (A i).g w1 w2) : Wo w gw A m i G w2 := by
  have hlo := h.lo
  refine ⟨h.lo, Nat.le_trans h.b.size ho.size, h.m_.kp ho.k (by omega), fun j hj => ⟨(h.cp j hj).1, (h.cp j hj).2.kp ho.k (by have := (h.cp j hj).1; omega)⟩, .inr ⟨hp, ((Ov.refl hlt).grow h.b).join ho, hm⟩⟩
/-- The list, and the other slices, meanwhile. -/
theorem Wo.ls (h : Wo w gw A m i G w1) (hA : Al gl A m w) (hW : Aw gl A m) (hi : i < m) : Mm w1 [(gl, apl A m)] := by
  rcases h.ov with ⟨_, h1⟩ | ⟨e, h1, _⟩
  · exact hA.ls.below h1
  · exact hA.ls.kp h1.k (Ne.symm (hW.nl i hi e))
theorem Wo.row (h : Wo w gw A m i G w1) (hA : Al gl A m w) (hW : Aw gl A m) (hi : i < m) (hk : k < m) (hne : k ≠ i) : (A k).row (A k).f w1 := by
  rcases h.ov with ⟨_, h1⟩ | ⟨e, h1, _⟩
  · exact (hA.row k hk).below h1
  · rcases hA.row k hk with e2 | hm
    · exact .inl e2
    · by_cases e3 : (A k).p = none
      · exact .inl e3
      · exact .inr (hm.kp h1.k (hW.ne k i hk hi hne e3 e))
/-- Written over twice, nothing has changed. -/
theorem Wo.nil (h : Wo w gw A m i G w1) (hp : (A i).p = none) (hb : Below w1.heap.size w1 w2) : Below w.heap.size w w2 := by
  rcases h.ov with ⟨_, h1⟩ | ⟨e, _⟩
  · exact h1.trans (hb.mono h.sz)
  · exact absurd hp e
theorem Wo.back (h : Wo w gw A m i G w1) (hA : Al gl A m w) (hW : Aw gl A m) (hi : i < m) (hp : (A i).p ≠ none) (hm : Mm w2 [((A i).g, ints .u8 (mk8 (mk8 (A i).f 90) 90) (A i).c)]) (ho : Ov (A i).c (A i).g w1 w2) : Below w.heap.size w w2 := by
  rcases h.ov with ⟨e, _⟩ | ⟨_, h1, _⟩
  · exact absurd e hp
  · have e : ints .u8 (mk8 (mk8 (A i).f 90) 90) (A i).c = ints .u8 (A i).f (A i).c := ints_congr fun j _ => x8_twice 90 ((hW.ok i hi).by_ j) (by decide)
    rw [e] at hm
    rcases hA.row i hi with e2 | hm0
    · exact absurd e2 hp
    · exact (h1.join ho).same hm0 hm (ints_len _ _ _)
theorem Wo.row2 (h : Wo w gw A m i G w1) (hp : (A i).p ≠ none) : Mm w1 [((A i).g, ints .u8 (mk8 (A i).f 90) (A i).c)] := by
  rcases h.ov with ⟨e, _⟩ | ⟨_, _, h1⟩
  · exact absurd e hp
  · exact h1
end
section
variable {ρ : Operand → Value} {o : Oper} {x y : Operand} {g off n c m : Nat} {w : World} {p : Option Addr}
theorem ex_slC (h : p = none → c = 0) (ho : o.op = .slice 22 x none (some y) none) (hx : ρ x = .slice p n c) (hy : ρ y = .int .i64 ((c : Nat) : Int)) : (execOp ρ o).run Try.prog w = .ok (.value (.slice p c c)) w := by
  cases p with
  | none =>
    obtain rfl := h rfl
    simp only [execOp, ho, hx, hy, Option.map_some, Option.map_none]
    clear ho hx hy h
    go_simp
  | some a =>
    simp only [execOp, ho, hx, hy, Option.map_some, Option.map_none]
    clear ho hx hy h
    go_simp
theorem ex_storeS {n c : Nat} {p : Option Addr} {cs : List Value} {l : List (Nat × List Value)} (h : Mm w l) (k : Nat) (hk : l[k]? = some (g, cs)) (ho : o.op = .store 22 x y) (hx : ρ x = PT g off) (hy : ρ y = .slice p n c) (hc : off < cs.length) :
    (execOp ρ o).run Try.prog w = .ok .skip (w.setCells g off [.slice p n c]) := by
  have hs : ∀ w, (sizeOf 22).run Try.prog w = .ok 1 w := Try.sizeOf22
  have hm := List.mem_of_getElem? hk
  have e : cs[off]? = some (cs[off]'hc) := List.getElem?_eq_getElem _
  have c0 := h.cell hm e
  have f0 := h.free hm e
  clear h hm hk
  simp only [execOp, ho, hx, hy]
  go_simp
  simp [World.setCells]
theorem ex_mkL (hn : m ≤ 1048576) (ho : o.op = .makeSlice 37 x y) (hx : ρ x = .int .i64 ((m : Nat) : Int)) (hy : ρ y = .int .i64 ((m : Nat) : Int)) : (execOp ρ o).run Try.prog w = .ok (.value (.slice (some ⟨w.heap.size, 0, none⟩) m m)) (w.alloc (.cells (List.replicate m (.slice none 0 0) : List Value).toArray 22)) := by
  have hmk := run_make_row' (P := Try.prog) 37 22 (.slice none 0 0) 24 (by kernel_rfl) (by kernel_rfl) rfl .i64 .i64 m (by omega) (by omega) w
  rw [show madeCells #[.slice none 0 0] m = (List.replicate m (.slice none 0 0) : List Value).toArray by apply Array.toList_inj.1; rw [toList_madeCells_one]] at hmk
  simp only [execOp, ho, hx, hy, Sem.run_bind, hmk, Result.andThen_ok, Sem.run_pure]
end
set_option maxRecDepth 100000
theorem Al.glt {gl : Nat} {A : Nat → Ap} {m i : Nat} {w : World} (h : Al gl A m w) (hi : i < m) (hp : (A i).p ≠ none) : (A i).g < w.heap.size := by
  rcases h.row i hi with e | hm
  · exact absurd e hp
  · exact (hm.blk _ (List.mem_singleton.2 rfl)).1
theorem Over_ap {q : Ap} (h : q.Ok) (f : Nat → Nat) (w : World) (hr : q.row f w) : Calls Try.prog 39 #[.slice q.p q.n q.c] w fun e w' => e = .returned (.tuple #[]) ∧ ((q.p = none ∧ Below w.heap.size w w') ∨ (q.p ≠ none ∧ Mm w' [(q.g, ints .u8 (mk8 f 90) q.c)] ∧ Ov q.c q.g w w')) := by
  rcases h.at_ with e | ⟨e, e1, e2⟩
  · rcases hr with e3 | hm
    · exact absurd (e.symm.trans e3) (by simp)
    · rw [e]
      exact Calls.mono (Over_some q.g q.n q.c f h.mx w hm) (fun e' w' hh => ⟨hh.1, .inr ⟨by simp, hh.2⟩⟩)
  · rw [e, e1, e2]
    exact Calls.mono (Over_nil w) (fun e' w' hh => ⟨hh.1, .inl ⟨rfl, hh.2⟩⟩)
theorem same_bb {xs : List Int} {c c' : Nat} {v v' : Value} {w : World} (h : BSl w xs c v) (h' : BSl w xs c' v') : Calls Try.prog 15 #[v, v'] w fun e w' => e = .returned (.bool true) ∧ Below w.heap.size w w' := Calls.mono (same_any w h h') (fun e w' hh => ⟨hh.1, by rw [hh.2]; exact Below.refl _ _⟩)
set_option maxHeartbeats 4000000 in
set_option maxRecDepth 100000 in
theorem apart_any (gl m : Nat) (A : Nat → Ap) (hW0 : Aw gl A m) (w : World) (hA : Al gl A m w) :
    Calls Try.prog 17 #[.slice (some ⟨gl, 0, none⟩) m m] w fun e w' => e = .returned (.bool true) ∧ Below w.heap.size w w' := by
  have H0 : Hid (_ ∧ _) := ⟨Mm.nil w, Below.refl w.heap.size w⟩
  have hml := hW0.ml
  have hW : Hid _ := hW0
  have AL0 : Hid (Al gl A m w) := hA
  clear hA hW0
  obtain ⟨w0, rfl⟩ : ∃ w0, w0 = w := ⟨w, rfl⟩
  go_enter Try.func17, Try.ntmps17
  refine wp_seq ?_
  refine walk_seqB 1 [.quiet (.bool false)] H0 ?ho1 ?he1
  case ho1 => exact ak (fun _ => ⟨rfl, fun _ _ => rfl⟩) trivial
  intro _ w1 H1
  refine rest0 rfl (then_normal (wp_seq (wp_seq ?_)))
  refine walk_seqB 1 [.quiet (.int .i64 0)] H1 ?ho2 ?he2
  case ho2 => exact ak (fun _ => ⟨rfl, fun _ _ => rfl⟩) trivial
  intro _ w2 H2
  clear H1
  refine rest0 rfl (then_normal (wp_block ?_))
  refine loop_ghost (α := Nat) (fun i a' w' => ∃ s0 : Nat → Value, a' = ⟨#[.slice (some ⟨gl, 0, none⟩) m m, undef, s0 2, .int .i64 ((i : Nat) : Int), s0 4, s0 5, s0 6, s0 7, s0 8, s0 9, s0 10, s0 11, s0 12, s0 13, s0 14, s0 15, s0 16, s0 17, s0 18, s0 19, s0 20, s0 21, s0 22, s0 23, s0 24, s0 25, s0 26, s0 27, s0 28, s0 29, s0 30, s0 31, s0 32, s0 33, s0 34, s0 35, s0 36, s0 37, s0 38, s0 39, s0 40, s0 41, s0 42, s0 43, s0 44, s0 45, s0 46, s0 47, s0 48, s0 49, s0 50, s0 51, s0 52, s0 53, s0 54, s0 55, s0 56, s0 57, s0 58, s0 59, s0 60, s0 61, s0 62, s0 63, s0 64, s0 65, s0 66, s0 67, s0 68, s0 69, s0 70, s0 71, s0 72], []⟩ ∧ (Mm w' [] ∧ Below w0.heap.size w0 w') ∧ i ≤ m) (fun i => m - i) 0 ?st0 ?rd0
  case st0 => exact ⟨(slotfn [undef, undef, .bool false, undef, undef, undef, undef, undef, undef, undef, undef, undef, undef, undef, undef, undef, undef, undef, undef, undef, undef, undef, undef, undef, undef, undef, undef, undef, undef, undef, undef, undef, undef, undef, undef, undef, undef, undef, undef, undef, undef, undef, undef, undef, undef, undef, undef, undef, undef, undef, undef, undef, undef, undef, undef, undef, undef, undef, undef, undef, undef, undef, undef, undef, undef, undef, undef, undef, undef, undef, undef, undef, undef]), rfl, ⟨H2.out.1, H2.out.2⟩, by omega⟩
  intro i a' w3 hI
  obtain ⟨s0, rfl, hMB, hk0⟩ := hI
  have H3 : Hid (_ ∧ _) := hMB
  clear hMB H2
  by_cases hlti : i < m
  · have hrd : True := trivial
    clear hrd
    refine wp_seq (wp_seq ?_)
    refine walk_seqB 4 [.quiet (.int .i64 ((i : Nat) : Int)), .quiet (.slice (some ⟨gl, 0, none⟩) m m), .quiet (.int .i64 ((m : Nat) : Int)), .quiet (.bool true)] H3 ?ho3 ?he3
    case ho3 => exact ak (fun _ => ⟨rfl, fun _ _ => rfl⟩) (ak (fun _ => ⟨rfl, fun _ _ => rfl⟩) (ak (by refine fun γ => ⟨rfl, fun w' h => ?_⟩; clear h; go_simp) (ak (by refine fun γ => ⟨rfl, fun w' h => ?_⟩; clear h; go_simp <;> omega) trivial)))
    intro _ w4 H4
    clear H3
    refine rest0 rfl (then_normal (wp_cond_true rfl ?_))
    refine wp_skip (then_normal ?_)
    refine wp_seq (wp_block (wp_seq ?_))
    have HB : Hid (Below w0.heap.size w0 w4) := H4.out.2
    have AL : Hid (Al gl A m w4) := AL0.out.below H4.out.2
    clear H4
    generalize w4 = w at HB AL ⊢
    have H5 : Hid (Mm w [] ∧ Below w.heap.size w w) := ⟨Mm.nil w, Below.refl _ _⟩
    refine walk_seqB 2 [.quiet (.slice (some ⟨gl, 0, none⟩) m m), .quiet (.int .i64 ((m : Nat) : Int))] H5 ?ho4 ?he4
    case ho4 => exact ak (fun _ => ⟨rfl, fun _ _ => rfl⟩) (ak (by refine fun γ => ⟨rfl, fun w' h => ?_⟩; clear h; go_simp) trivial)
    intro _ w6 H6
    clear H5
    refine rest_at (l := [2, 3]) rfl ?_
    refine rest_set (d := 15) (v := .slice (some ⟨w6.heap.size, 0, none⟩) m m) (w' := (w6.alloc (.cells (List.replicate m (.slice none 0 0) : List Value).toArray 22))) rfl rfl rfl (ex_mkL hW.out.ml rfl rfl rfl) ?_
    simp only [Act.put, sa, sz, ss]
    have H7 : Hid (Mm (w6.alloc (.cells (List.replicate m (.slice none 0 0) : List Value).toArray 22)) [] ∧ Wk w w6.heap.size A m 0 (w6.alloc (.cells (List.replicate m (.slice none 0 0) : List Value).toArray 22))) := ⟨Mm.nil _, Wk.start H6.out.2 A m 22⟩
    clear H6
    generalize hgw : (w6.alloc (.cells (List.replicate m (.slice none 0 0) : List Value).toArray 22)) = w7 at H7 ⊢
    clear hgw
    generalize w6.heap.size = gw at H7 ⊢
    refine rest_set (d := 4) (v := .slice (some ⟨gw, 0, none⟩) m m) (w' := w7) rfl rfl rfl rfl ?_
    simp only [Act.put, sa, sz, ss]
    refine rest_nil (then_normal ?_)
    refine wp_seq (wp_seq ?_)
    refine walk_seqA 1 [.quiet (.int .i64 0)] (sB H7) ?ho5 ?he5
    case ho5 => exact ak (fun _ => ⟨rfl, fun _ _ => rfl⟩) trivial
    intro γ w8 l hM hl
    have M8 : Mm w8 [] := H7.out.1.grow hM (Nat.le_refl _) hl [] rfl (by decide)
    have B8 : Wk w gw A m 0 w8 := Wk.step H7.out.2 (hM.below)
    clear hM hl l H7
    clear γ
    have H8 : Hid (_ ∧ _) := ⟨M8, B8⟩
    clear M8 B8
    refine rest0 rfl (then_normal (wp_block ?_))
    refine loop_ghost (α := Nat) (fun k a' w' => ∃ s2 : Nat → Value, a' = ⟨#[.slice (some ⟨gl, 0, none⟩) m m, undef, s0 2, .int .i64 ((i : Nat) : Int), .slice (some ⟨gw, 0, none⟩) m m, .int .i64 ((k : Nat) : Int), s0 6, .int .i64 ((i : Nat) : Int), .slice (some ⟨gl, 0, none⟩) m m, .int .i64 ((m : Nat) : Int), .bool true, s0 11, s0 12, .slice (some ⟨gl, 0, none⟩) m m, .int .i64 ((m : Nat) : Int), .slice (some ⟨gw, 0, none⟩) m m, s2 16, s2 17, s2 18, s2 19, s2 20, s2 21, s2 22, s2 23, s2 24, s2 25, s2 26, s2 27, s2 28, s2 29, s2 30, s2 31, s2 32, s2 33, s2 34, s2 35, s0 36, s0 37, s0 38, s0 39, s0 40, s0 41, s0 42, s0 43, s0 44, s0 45, s0 46, s0 47, s0 48, s0 49, s0 50, s0 51, s0 52, s0 53, s0 54, s0 55, s0 56, s0 57, s0 58, s0 59, s0 60, s0 61, s0 62, s0 63, s0 64, s0 65, s0 66, s0 67, s0 68, s0 69, s0 70, s0 71, s0 72], []⟩ ∧ (Mm w' [] ∧ Wk w gw A m k w') ∧ k ≤ m) (fun k => m - k) 0 ?st2 ?rd2
    case st2 => exact ⟨(slotfn [undef, undef, undef, undef, undef, undef, undef, undef, undef, undef, undef, undef, undef, undef, undef, undef, s0 16, s0 17, s0 18, s0 19, s0 20, s0 21, s0 22, s0 23, s0 24, s0 25, s0 26, s0 27, s0 28, s0 29, s0 30, s0 31, s0 32, s0 33, s0 34, s0 35]), rfl, ⟨H8.out.1, H8.out.2⟩, by omega⟩
    intro k a' w9 hI
    obtain ⟨s2, rfl, hMB, hk2⟩ := hI
    have H9 : Hid (_ ∧ _) := hMB
    clear hMB H8
    by_cases hlt : k < m
    · have hrd : True := trivial
      clear hrd
      refine wp_seq (wp_seq ?_)
      refine walk_seqA 4 [.quiet (.int .i64 ((k : Nat) : Int)), .quiet (.slice (some ⟨gl, 0, none⟩) m m), .quiet (.int .i64 ((m : Nat) : Int)), .quiet (.bool true)] (sB H9) ?ho6 ?he6
      case ho6 => exact ak (fun _ => ⟨rfl, fun _ _ => rfl⟩) (ak (fun _ => ⟨rfl, fun _ _ => rfl⟩) (ak (by refine fun γ => ⟨rfl, fun w' h => ?_⟩; clear h; go_simp) (ak (by refine fun γ => ⟨rfl, fun w' h => ?_⟩; clear h; go_simp <;> omega) trivial)))
      intro γ w10 l hM hl
      have M10 : Mm w10 [] := H9.out.1.grow hM (Nat.le_refl _) hl [] rfl (by decide)
      have B10 : Wk w gw A m k w10 := Wk.step H9.out.2 (hM.below)
      clear hM hl l H9
      clear γ
      have H10 : Hid (_ ∧ _) := ⟨M10, B10⟩
      clear M10 B10
      refine rest0 rfl (then_normal (wp_cond_true rfl ?_))
      refine wp_skip (then_normal ?_)
      refine wp_seq (wp_block ?_)
      refine (walk_any) (by kernel_rfl) 14 [.quiet (.slice (some ⟨gw, 0, none⟩) m m), .quiet (.int .i64 ((k : Nat) : Int)), .quiet (.slice (some ⟨gl, 0, none⟩) m m), .quiet (.int .i64 ((k : Nat) : Int)), .quiet (PT gl (0 + k)), .quiet (.slice (A k).p (A k).n (A k).c), .quiet (.slice (some ⟨gl, 0, none⟩) m m), .quiet (.int .i64 ((k : Nat) : Int)), .quiet (PT gl (0 + k)), .quiet (.slice (A k).p (A k).n (A k).c), .quiet (.int .i64 (((A k).c : Nat) : Int)), .quiet (.slice (A k).p (A k).c (A k).c), .bornX (fun g x y => .slice (some ⟨g, 0, none⟩) ((A k).c) ((A k).c + x)) (ints .u8 (A k).f (A k).c), .quiet (PT gw (0 + k))] (fun u' => Mm u' [] ∧ (Al gl A m u')) ?pre7 ?F7 ?hpre7 (fun γ => ?hF7) (by kernel_rfl) ?hL7 ?hS7 ?ho7 ?he7
      case hpre7 => simp only [tk, tz]; rfl
      case hF7 => simp only [fill, Kind.val, Act.put, sa, sz, ss]; rfl
      case hL7 => exact trivial
      case hS7 => exact fun w' hb => ⟨H10.out.1.below hb, AL.out.below (Wk.step H10.out.2 (hb)).b⟩
      case ho7 =>
        refine ak (fun _ => ⟨rfl, fun _ _ => rfl⟩) ?_
        refine ak (fun _ => ⟨rfl, fun _ _ => rfl⟩) ?_
        refine ak (fun _ => ⟨rfl, fun _ _ => rfl⟩) ?_
        refine ak (fun _ => ⟨rfl, fun _ _ => rfl⟩) ?_
        refine ak (fun γ => ⟨rfl, fun w' _ => ex_ixP29 (j := k) rfl rfl rfl rfl (by omega)⟩) ?_
        refine ak (fun γ => ⟨rfl, fun w' hX => ex_loadC hX.2.ls 0 rfl rfl rfl Try.isAgg22 (rmap_get (by omega))⟩) ?_
        refine ak (fun _ => ⟨rfl, fun _ _ => rfl⟩) ?_
        refine ak (fun _ => ⟨rfl, fun _ _ => rfl⟩) ?_
        refine ak (fun γ => ⟨rfl, fun w' _ => ex_ixP29 (j := k) rfl rfl rfl rfl (by omega)⟩) ?_
        refine ak (fun γ => ⟨rfl, fun w' hX => ex_loadC hX.2.ls 0 rfl rfl rfl Try.isAgg22 (rmap_get (by omega))⟩) ?_
        refine ak (fun γ => ⟨rfl, fun w' _ => ex_cap22 rfl rfl⟩) ?_
        refine ak (fun γ => ⟨rfl, fun w' _ => ex_slC (hW.out.ok k (by omega)).nil rfl rfl rfl⟩) ?_
        refine ak (fun γ => ⟨rfl, fun w' hX => ⟨25, #[.slice (A k).p (A k).c (A k).c], exec_call rfl call25 rfl (mpn rfl), copy_born (A k).pt (hW.out.ok k (by omega)).pok (hW.out.ok k (by omega)).nil (hW.out.ok k (by omega)).mx w' (Ap.row.rs (hW.out.ok k (by omega)) (hX.2.row k (by omega)))⟩⟩) ?_
        refine ak (fun γ => ⟨rfl, fun w' _ => ex_ixP29 (j := k) rfl rfl rfl rfl (by omega)⟩) ?_
        exact trivial
      intro γ w11 l hM hl
      have M11 : Mm w11 [(γ 12, ints .u8 (A k).f (A k).c)] := H10.out.1.grow hM (Nat.le_refl _) hl [12] rfl (by decide)
      have B11 : Wk w gw A m k w11 := Wk.step H10.out.2 (hM.below)
      have o7_12 : Hid (w.heap.size ≤ γ 12) := Nat.le_trans H10.out.2.size (hM.fin (Nat.le_refl _) hl (i := 12) rfl).2.1
      have og7_12 : Hid (gw < γ 12) := Nat.lt_of_lt_of_le H10.out.2.lt (hM.fin (Nat.le_refl _) hl (i := 12) rfl).2.1
      clear hM hl l H10
      generalize γ 12 = γ7_12 at M11 o7_12 og7_12 ⊢
      generalize γ 65548 = γ7_65548
      clear γ
      have H11 : Hid (_ ∧ _) := ⟨M11, B11⟩
      clear M11 B11
      refine rest_at (l := [14]) rfl ?_
      obtain ⟨G, hG⟩ := H11.out.2
      refine rest_store rfl rfl rfl (ex_storeS hG.m_ 0 rfl rfl rfl rfl (by rw [wl_len]; omega)) ?_
      have H12 : Hid (Mm (w11.setCells gw (0 + k) [.slice (some ⟨γ7_12, 0, none⟩) (A k).c ((A k).c + γ7_65548)]) [] ∧ Wk w gw A m (k + 1) (w11.setCells gw (0 + k) [.slice (some ⟨γ7_12, 0, none⟩) (A k).c ((A k).c + γ7_65548)])) := ⟨Mm.nil _, hG.store hlt og7_12.out (H11.out.1.one 0 rfl)⟩
      clear hG H11
      generalize hgw : World.setCells _ _ _ _ = w12 at H12 ⊢
      clear hgw
      refine rest_nil (block_normal (then_normal ?_))
      refine walk_seqA 2 [.quiet (.int .i64 ((k : Nat) : Int)), .quiet (.int .i64 ((k + 1 : Nat) : Int))] (sB H12) ?ho8 ?he8
      case ho8 => exact ak (fun _ => ⟨rfl, fun _ _ => rfl⟩) (ak (by refine fun γ => ⟨rfl, fun w' h => ?_⟩; clear h; go_simp; rw [IntKind.wrap_i64]; omega) trivial)
      intro γ w13 l hM hl
      have M13 : Mm w13 [] := H12.out.1.grow hM (Nat.le_refl _) hl [] rfl (by decide)
      have B13 : Wk w gw A m (k + 1) w13 := Wk.step H12.out.2 (hM.below)
      clear hM hl l H12
      clear γ
      have H13 : Hid (_ ∧ _) := ⟨M13, B13⟩
      clear M13 B13
      refine rest_at (l := [2]) rfl ?_
      refine rest_set (d := 5) (v := .int .i64 ((k + 1 : Nat) : Int)) (w' := w13) rfl rfl rfl rfl ?_
      simp only [Act.put, sa, sz, ss]
      refine rest_nil (then_normal ?_)
      exact ⟨k + 1, ⟨(slotfn [undef, undef, undef, undef, undef, undef, undef, undef, undef, undef, undef, undef, undef, undef, undef, undef, .int .i64 ((k : Nat) : Int), .slice (some ⟨gl, 0, none⟩) m m, .int .i64 ((m : Nat) : Int), .bool true, .int .i64 ((k : Nat) : Int), .int .i64 ((k + 1 : Nat) : Int), .slice (some ⟨gw, 0, none⟩) m m, .int .i64 ((k : Nat) : Int), .slice (some ⟨gl, 0, none⟩) m m, .int .i64 ((k : Nat) : Int), PT gl (0 + k), .slice (A k).p (A k).n (A k).c, .slice (some ⟨gl, 0, none⟩) m m, .int .i64 ((k : Nat) : Int), PT gl (0 + k), .slice (A k).p (A k).n (A k).c, .int .i64 (((A k).c : Nat) : Int), .slice (A k).p (A k).c (A k).c, .slice (some ⟨γ7_12, 0, none⟩) ((A k).c) ((A k).c + γ7_65548), PT gw (0 + k)]), rfl, ⟨Mm.nil _, H13.out.2⟩, by omega⟩, by omega⟩
    have hkm : m = k := by omega
    subst hkm
    refine wp_seq (wp_seq ?_)
    refine walk_seqA 4 [.quiet (.int .i64 ((m : Nat) : Int)), .quiet (.slice (some ⟨gl, 0, none⟩) m m), .quiet (.int .i64 ((m : Nat) : Int)), .quiet (.bool false)] (sB H9) ?ho9 ?he9
    case ho9 => exact ak (fun _ => ⟨rfl, fun _ _ => rfl⟩) (ak (fun _ => ⟨rfl, fun _ _ => rfl⟩) (ak (by refine fun γ => ⟨rfl, fun w' h => ?_⟩; clear h; go_simp) (ak (by refine fun γ => ⟨rfl, fun w' h => ?_⟩; clear h; go_simp <;> omega) trivial)))
    intro γ w14 l hM hl
    have M14 : Mm w14 [] := H9.out.1.grow hM (Nat.le_refl _) hl [] rfl (by decide)
    have B14 : Wk w gw A m m w14 := Wk.step H9.out.2 (hM.below)
    clear hM hl l H9
    clear γ
    have H14 : Hid (_ ∧ _) := ⟨M14, B14⟩
    clear M14 B14
    refine rest0 rfl (then_normal (wp_cond_false rfl ?_))
    refine wp_exit ?_
    repeat refine then_exit ?_
    refine block_exit ?_
    obtain ⟨G, hG⟩ := H14.out.2
    have H15 : Hid (Mm w14 [] ∧ Wq w gw A m m G w14) := ⟨H14.out.1, hG⟩
    clear hG H14
    refine then_normal (wp_seq ?_)
    refine (walk_seq) 4 [.quiet (.slice (some ⟨gl, 0, none⟩) m m), .quiet (.int .i64 ((i : Nat) : Int)), .quiet (PT gl (0 + i)), .quiet (.slice (A i).p (A i).n (A i).c)] (fun u' => Mm u' [] ∧ (Al gl A m u')) ?pre10 ?F10 ?hpre10 (fun γ => ?hF10) (by kernel_rfl) ?hL10 ?hS10 ?ho10 ?he10
    case hpre10 => simp only [tk, tz]; rfl
    case hF10 => simp only [fill, Kind.val, Act.put, sa, sz, ss]; rfl
    case hL10 => exact trivial
    case hS10 => exact fun w' hb => ⟨H15.out.1.below hb, AL.out.below (Wq.step H15.out.2 (hb)).b⟩
    case ho10 =>
      refine ak (fun _ => ⟨rfl, fun _ _ => rfl⟩) ?_
      refine ak (fun _ => ⟨rfl, fun _ _ => rfl⟩) ?_
      refine ak (fun γ => ⟨rfl, fun w' _ => ex_ixP29 (j := i) rfl rfl rfl rfl (by omega)⟩) ?_
      refine ak (fun γ => ⟨rfl, fun w' hX => ex_loadC hX.2.ls 0 rfl rfl rfl Try.isAgg22 (rmap_get (by omega))⟩) ?_
      exact trivial
    intro γ w16 l hM hl
    have M16 : Mm w16 [] := H15.out.1.grow hM (Nat.le_refl _) hl [] rfl (by decide)
    have B16 : Wq w gw A m m G w16 := Wq.step H15.out.2 (hM.below)
    clear hM hl l H15
    clear γ
    have H16 : Hid (_ ∧ _) := ⟨M16, B16⟩
    clear M16 B16
    refine rest_at (l := [4]) rfl ?_
    refine rest_enter (d := 40) rfl rfl rfl (exec_call (args := #[.slice (A i).p (A i).n (A i).c]) rfl call39 rfl (mpn rfl)) ((Calls.mono (Over_ap (hW.out.ok i hlti) (A i).f w16 ((AL.out.below H16.out.2.b).row i hlti)) (fun e w2 hh => ⟨_, hh.1, rfl, hh.2⟩) : Calls Try.prog 39 #[.slice (A i).p (A i).n (A i).c] w16 (fun e w' => ∃ v, e = .returned v ∧ (v = .tuple #[] ∧ (((A i).p = none ∧ Below w16.heap.size w16 w') ∨ ((A i).p ≠ none ∧ Mm w' [((A i).g, ints .u8 (mk8 (A i).f 90) (A i).c)] ∧ Ov (A i).c (A i).g w16 w')))))) ?_
    rintro _ w17 ⟨rfl, hov⟩
    have hwo : Wo w gw A m i G w17 := by
      rcases hov with ⟨hp, hb⟩ | ⟨hp, h1, h2⟩
      · exact H16.out.2.nil hp hb
      · exact H16.out.2.over hp (AL.out.glt hlti hp) h1 h2
    have H17 : Hid (Mm w17 [] ∧ Wo w gw A m i G w17) := ⟨Mm.nil _, hwo⟩
    clear hov hwo H16
    simp only [Act.put, sa, sz, ss]
    refine rest_nil (then_normal ?_)
    refine wp_seq (wp_seq ?_)
    refine walk_seqA 1 [.quiet (.int .i64 0)] (sB H17) ?ho11 ?he11
    case ho11 => exact ak (fun _ => ⟨rfl, fun _ _ => rfl⟩) trivial
    intro γ w18 l hM hl
    have M18 : Mm w18 [] := H17.out.1.grow hM (Nat.le_refl _) hl [] rfl (by decide)
    have B18 : Wo w gw A m i G w18 := Wo.step H17.out.2 (hM.below)
    clear hM hl l H17
    clear γ
    have H18 : Hid (_ ∧ _) := ⟨M18, B18⟩
    clear M18 B18
    refine rest0 rfl (then_normal (wp_block ?_))
    refine loop_ghost (α := Nat) (fun l a' w' => ∃ s4 : Nat → Value, a' = ⟨#[.slice (some ⟨gl, 0, none⟩) m m, undef, s4 2, .int .i64 ((i : Nat) : Int), .slice (some ⟨gw, 0, none⟩) m m, .int .i64 ((m : Nat) : Int), .int .i64 ((l : Nat) : Int), .int .i64 ((i : Nat) : Int), .slice (some ⟨gl, 0, none⟩) m m, .int .i64 ((m : Nat) : Int), .bool true, s0 11, s0 12, .slice (some ⟨gl, 0, none⟩) m m, .int .i64 ((m : Nat) : Int), .slice (some ⟨gw, 0, none⟩) m m, .int .i64 ((m : Nat) : Int), .slice (some ⟨gl, 0, none⟩) m m, .int .i64 ((m : Nat) : Int), .bool false, s2 20, s2 21, s2 22, s2 23, s2 24, s2 25, s2 26, s2 27, s2 28, s2 29, s2 30, s2 31, s2 32, s2 33, s2 34, s2 35, .slice (some ⟨gl, 0, none⟩) m m, .int .i64 ((i : Nat) : Int), PT gl (0 + i), .slice (A i).p (A i).n (A i).c, .tuple #[], s4 41, s4 42, s4 43, s4 44, s4 45, s4 46, s4 47, s4 48, s4 49, s4 50, s4 51, s4 52, s4 53, s4 54, s4 55, s4 56, s4 57, s4 58, s4 59, s4 60, s4 61, s4 62, s4 63, s4 64, s4 65, s4 66, s4 67, s0 68, s0 69, s0 70, s0 71, s0 72], []⟩ ∧ (Mm w' [] ∧ Wo w gw A m i G w') ∧ l ≤ m) (fun l => m - l) 0 ?st4 ?rd4
    case st4 => exact ⟨(slotfn [undef, undef, s0 2, undef, undef, undef, undef, undef, undef, undef, undef, undef, undef, undef, undef, undef, undef, undef, undef, undef, undef, undef, undef, undef, undef, undef, undef, undef, undef, undef, undef, undef, undef, undef, undef, undef, undef, undef, undef, undef, undef, s0 41, s0 42, s0 43, s0 44, s0 45, s0 46, s0 47, s0 48, s0 49, s0 50, s0 51, s0 52, s0 53, s0 54, s0 55, s0 56, s0 57, s0 58, s0 59, s0 60, s0 61, s0 62, s0 63, s0 64, s0 65, s0 66, s0 67]), rfl, ⟨H18.out.1, H18.out.2⟩, by omega⟩
    intro l a' w19 hI
    obtain ⟨s4, rfl, hMB, hk4⟩ := hI
    have H19 : Hid (_ ∧ _) := hMB
    clear hMB H18
    by_cases hltl : l < m
    · have hrd : True := trivial
      clear hrd
      by_cases hli : l = i
      · have hrd : True := trivial
        clear hrd
        refine wp_seq (wp_seq ?_)
        refine walk_seqA 4 [.quiet (.int .i64 ((l : Nat) : Int)), .quiet (.slice (some ⟨gl, 0, none⟩) m m), .quiet (.int .i64 ((m : Nat) : Int)), .quiet (.bool true)] (sB H19) ?ho12eq ?he12eq
        case ho12eq => exact ak (fun _ => ⟨rfl, fun _ _ => rfl⟩) (ak (fun _ => ⟨rfl, fun _ _ => rfl⟩) (ak (by refine fun γ => ⟨rfl, fun w' h => ?_⟩; clear h; go_simp) (ak (by refine fun γ => ⟨rfl, fun w' h => ?_⟩; clear h; go_simp <;> omega) trivial)))
        intro γ w20 l hM hl
        have M20 : Mm w20 [] := H19.out.1.grow hM (Nat.le_refl _) hl [] rfl (by decide)
        have B20 : Wo w gw A m i G w20 := Wo.step H19.out.2 (hM.below)
        clear hM hl l H19
        clear γ
        have H20 : Hid (_ ∧ _) := ⟨M20, B20⟩
        clear M20 B20
        refine rest0 rfl (then_normal (wp_cond_true rfl ?_))
        refine wp_skip (then_normal ?_)
        refine wp_seq (wp_block (wp_seq ?_))
        refine walk_anyA 21 [.quiet (.int .i64 ((l : Nat) : Int)), .quiet (.int .i64 ((i : Nat) : Int)), .quiet (.bool false), .quiet (.bool false), .gone, .gone, .gone, .gone, .gone, .gone, .gone, .gone, .gone, .gone, .gone, .gone, .gone, .gone, .gone, .gone, .quiet (.bool false)] (sB H20) ?ho13eq ?he13eq
        case ho13eq => exact ak (fun _ => ⟨rfl, fun _ _ => rfl⟩) (ak (fun _ => ⟨rfl, fun _ _ => rfl⟩) (ak (by refine fun γ => ⟨rfl, fun w' h => ?_⟩; clear h; go_simp <;> omega) (ak (fun _ => ⟨rfl, fun _ _ => rfl⟩) (ak (fun γ => rfl) (ak (fun γ => rfl) (ak (fun γ => rfl) (ak (fun γ => rfl) (ak (fun γ => rfl) (ak (fun γ => rfl) (ak (fun γ => rfl) (ak (fun γ => rfl) (ak (fun γ => rfl) (ak (fun γ => rfl) (ak (fun γ => rfl) (ak (fun γ => rfl) (ak (fun γ => rfl) (ak (fun γ => rfl) (ak (fun γ => rfl) (ak (fun γ => rfl) (ak (by refine fun γ => ⟨rfl, fun w' h => ?_⟩; clear h; go_simp) trivial))))))))))))))))))))
        intro γ w21 l hM hl
        have M21 : Mm w21 [] := H20.out.1.grow hM (Nat.le_refl _) hl [] rfl (by decide)
        have B21 : Wo w gw A m i G w21 := Wo.step H20.out.2 (hM.below)
        clear hM hl l H20
        clear γ
        have H21 : Hid (_ ∧ _) := ⟨M21, B21⟩
        clear M21 B21
        refine rest0 rfl (then_normal (wp_cond_false rfl ?_))
        refine wp_skip (block_normal (then_normal ?_))
        refine walk_seqA 2 [.quiet (.int .i64 ((l : Nat) : Int)), .quiet (.int .i64 ((l + 1 : Nat) : Int))] (sB H21) ?ho14eq ?he14eq
        case ho14eq => exact ak (fun _ => ⟨rfl, fun _ _ => rfl⟩) (ak (by refine fun γ => ⟨rfl, fun w' h => ?_⟩; clear h; go_simp; rw [IntKind.wrap_i64]; omega) trivial)
        intro γ w22 l hM hl
        have M22 : Mm w22 [] := H21.out.1.grow hM (Nat.le_refl _) hl [] rfl (by decide)
        have B22 : Wo w gw A m i G w22 := Wo.step H21.out.2 (hM.below)
        clear hM hl l H21
        clear γ
        have H22 : Hid (_ ∧ _) := ⟨M22, B22⟩
        clear M22 B22
        refine rest_at (l := [2]) rfl ?_
        refine rest_set (d := 6) (v := .int .i64 ((l + 1 : Nat) : Int)) (w' := w22) rfl rfl rfl rfl ?_
        simp only [Act.put, sa, sz, ss]
        refine rest_nil (then_normal ?_)
        exact ⟨l + 1, ⟨(slotfn [undef, undef, s4 2, undef, undef, undef, undef, undef, undef, undef, undef, undef, undef, undef, undef, undef, undef, undef, undef, undef, undef, undef, undef, undef, undef, undef, undef, undef, undef, undef, undef, undef, undef, undef, undef, undef, undef, undef, undef, undef, undef, .int .i64 ((l : Nat) : Int), .slice (some ⟨gl, 0, none⟩) m m, .int .i64 ((m : Nat) : Int), .bool true, .int .i64 ((l : Nat) : Int), .int .i64 ((l + 1 : Nat) : Int), .int .i64 ((l : Nat) : Int), .int .i64 ((i : Nat) : Int), .bool false, .bool false, undef, undef, undef, undef, undef, undef, undef, undef, undef, undef, undef, undef, undef, undef, undef, undef, .bool false]), rfl, ⟨Mm.nil _, H22.out.2⟩, by omega⟩, by omega⟩
      · have hrd : True := trivial
        clear hrd
        refine wp_seq (wp_seq ?_)
        refine walk_seqA 4 [.quiet (.int .i64 ((l : Nat) : Int)), .quiet (.slice (some ⟨gl, 0, none⟩) m m), .quiet (.int .i64 ((m : Nat) : Int)), .quiet (.bool true)] (sB H19) ?ho15ne ?he15ne
        case ho15ne => exact ak (fun _ => ⟨rfl, fun _ _ => rfl⟩) (ak (fun _ => ⟨rfl, fun _ _ => rfl⟩) (ak (by refine fun γ => ⟨rfl, fun w' h => ?_⟩; clear h; go_simp) (ak (by refine fun γ => ⟨rfl, fun w' h => ?_⟩; clear h; go_simp <;> omega) trivial)))
        intro γ w23 l hM hl
        have M23 : Mm w23 [] := H19.out.1.grow hM (Nat.le_refl _) hl [] rfl (by decide)
        have B23 : Wo w gw A m i G w23 := Wo.step H19.out.2 (hM.below)
        clear hM hl l H19
        clear γ
        have H23 : Hid (_ ∧ _) := ⟨M23, B23⟩
        clear M23 B23
        refine rest0 rfl (then_normal (wp_cond_true rfl ?_))
        refine wp_skip (then_normal ?_)
        refine wp_seq (wp_block (wp_seq ?_))
        refine (walk_any) (by kernel_rfl) 21 [.quiet (.int .i64 ((l : Nat) : Int)), .quiet (.int .i64 ((i : Nat) : Int)), .quiet (.bool true), .quiet (.bool true), .quiet (.slice (some ⟨gl, 0, none⟩) m m), .quiet (.int .i64 ((l : Nat) : Int)), .quiet (PT gl (0 + l)), .quiet (.slice (A l).p (A l).n (A l).c), .quiet (.slice (some ⟨gl, 0, none⟩) m m), .quiet (.int .i64 ((l : Nat) : Int)), .quiet (PT gl (0 + l)), .quiet (.slice (A l).p (A l).n (A l).c), .quiet (.int .i64 (((A l).c : Nat) : Int)), .quiet (.slice (A l).p (A l).c (A l).c), .quiet (.slice (some ⟨gw, 0, none⟩) m m), .quiet (.int .i64 ((l : Nat) : Int)), .quiet (PT gw (0 + l)), .quiet (.slice (some ⟨(G l).1, 0, none⟩) ((A l).c) ((A l).c + (G l).2)), .call (.bool true), .quiet (.bool false), .quiet (.bool false)] (fun u' => Mm u' [] ∧ (Wo w gw A m i G u')) ?pre16ne ?F16ne ?hpre16ne (fun γ => ?hF16ne) (by kernel_rfl) ?hL16ne ?hS16ne ?ho16ne ?he16ne
        case hpre16ne => simp only [tk, tz]; rfl
        case hF16ne => simp only [fill, Kind.val, Act.put, sa, sz, ss]; rfl
        case hL16ne => exact trivial
        case hS16ne => exact fun w' hb => ⟨H23.out.1.below hb, (Wo.step H23.out.2 (hb))⟩
        case ho16ne =>
          refine ak (fun _ => ⟨rfl, fun _ _ => rfl⟩) ?_
          refine ak (fun _ => ⟨rfl, fun _ _ => rfl⟩) ?_
          refine ak (by refine fun γ => ⟨rfl, fun w' h => ?_⟩; clear h; go_simp <;> omega) ?_
          refine ak (fun _ => ⟨rfl, fun _ _ => rfl⟩) ?_
          refine ak (fun _ => ⟨rfl, fun _ _ => rfl⟩) ?_
          refine ak (fun _ => ⟨rfl, fun _ _ => rfl⟩) ?_
          refine ak (fun γ => ⟨rfl, fun w' _ => ex_ixP29 (j := l) rfl rfl rfl rfl (by omega)⟩) ?_
          refine ak (fun γ => ⟨rfl, fun w' hX => ex_loadC (hX.2.ls AL.out hW.out hlti) 0 rfl rfl rfl Try.isAgg22 (rmap_get (by omega))⟩) ?_
          refine ak (fun _ => ⟨rfl, fun _ _ => rfl⟩) ?_
          refine ak (fun _ => ⟨rfl, fun _ _ => rfl⟩) ?_
          refine ak (fun γ => ⟨rfl, fun w' _ => ex_ixP29 (j := l) rfl rfl rfl rfl (by omega)⟩) ?_
          refine ak (fun γ => ⟨rfl, fun w' hX => ex_loadC (hX.2.ls AL.out hW.out hlti) 0 rfl rfl rfl Try.isAgg22 (rmap_get (by omega))⟩) ?_
          refine ak (fun γ => ⟨rfl, fun w' _ => ex_cap22 rfl rfl⟩) ?_
          refine ak (fun γ => ⟨rfl, fun w' _ => ex_slC (hW.out.ok l (by omega)).nil rfl rfl rfl⟩) ?_
          refine ak (fun _ => ⟨rfl, fun _ _ => rfl⟩) ?_
          refine ak (fun _ => ⟨rfl, fun _ _ => rfl⟩) ?_
          refine ak (fun γ => ⟨rfl, fun w' _ => ex_ixP29 (j := l) rfl rfl rfl rfl (by omega)⟩) ?_
          refine ak (fun γ => ⟨rfl, fun w' hX => ex_loadC hX.2.m_ 0 rfl rfl rfl Try.isAgg22 (wl_get (by omega))⟩) ?_
          refine ak (fun γ => ⟨rfl, fun w' hX => ⟨15, #[.slice (A l).p (A l).c (A l).c, .slice (some ⟨(G l).1, 0, none⟩) ((A l).c) ((A l).c + (G l).2)], exec_call rfl call15 rfl (mpn rfl), same_bb (Ap.row.bsl (hW.out.ok l (by omega)) (hX.2.row AL.out hW.out hlti hltl hli)) ((hX.2.cp l hltl).2.bsl 0 rfl (Nat.le_refl _) (Nat.le_add_right _ _))⟩⟩) ?_
          refine ak (by refine fun γ => ⟨rfl, fun w' h => ?_⟩; clear h; go_simp) ?_
          refine ak (by refine fun γ => ⟨rfl, fun w' h => ?_⟩; clear h; go_simp) ?_
          exact trivial
        intro γ w24 l hM hl
        have M24 : Mm w24 [] := H23.out.1.grow hM (Nat.le_refl _) hl [] rfl (by decide)
        have B24 : Wo w gw A m i G w24 := Wo.step H23.out.2 (hM.below)
        clear hM hl l H23
        clear γ
        have H24 : Hid (_ ∧ _) := ⟨M24, B24⟩
        clear M24 B24
        refine rest0 rfl (then_normal (wp_cond_false rfl ?_))
        refine wp_skip (block_normal (then_normal ?_))
        refine walk_seqA 2 [.quiet (.int .i64 ((l : Nat) : Int)), .quiet (.int .i64 ((l + 1 : Nat) : Int))] (sB H24) ?ho17ne ?he17ne
        case ho17ne => exact ak (fun _ => ⟨rfl, fun _ _ => rfl⟩) (ak (by refine fun γ => ⟨rfl, fun w' h => ?_⟩; clear h; go_simp; rw [IntKind.wrap_i64]; omega) trivial)
        intro γ w25 l hM hl
        have M25 : Mm w25 [] := H24.out.1.grow hM (Nat.le_refl _) hl [] rfl (by decide)
        have B25 : Wo w gw A m i G w25 := Wo.step H24.out.2 (hM.below)
        clear hM hl l H24
        clear γ
        have H25 : Hid (_ ∧ _) := ⟨M25, B25⟩
        clear M25 B25
        refine rest_at (l := [2]) rfl ?_
        refine rest_set (d := 6) (v := .int .i64 ((l + 1 : Nat) : Int)) (w' := w25) rfl rfl rfl rfl ?_
        simp only [Act.put, sa, sz, ss]
        refine rest_nil (then_normal ?_)
        exact ⟨l + 1, ⟨(slotfn [undef, undef, s4 2, undef, undef, undef, undef, undef, undef, undef, undef, undef, undef, undef, undef, undef, undef, undef, undef, undef, undef, undef, undef, undef, undef, undef, undef, undef, undef, undef, undef, undef, undef, undef, undef, undef, undef, undef, undef, undef, undef, .int .i64 ((l : Nat) : Int), .slice (some ⟨gl, 0, none⟩) m m, .int .i64 ((m : Nat) : Int), .bool true, .int .i64 ((l : Nat) : Int), .int .i64 ((l + 1 : Nat) : Int), .int .i64 ((l : Nat) : Int), .int .i64 ((i : Nat) : Int), .bool true, .bool true, .slice (some ⟨gl, 0, none⟩) m m, .int .i64 ((l : Nat) : Int), PT gl (0 + l), .slice (A l).p (A l).n (A l).c, .slice (some ⟨gl, 0, none⟩) m m, .int .i64 ((l : Nat) : Int), PT gl (0 + l), .slice (A l).p (A l).n (A l).c, .int .i64 (((A l).c : Nat) : Int), .slice (A l).p (A l).c (A l).c, .slice (some ⟨gw, 0, none⟩) m m, .int .i64 ((l : Nat) : Int), PT gw (0 + l), .slice (some ⟨(G l).1, 0, none⟩) ((A l).c) ((A l).c + (G l).2), .bool true, .bool false, .bool false]), rfl, ⟨Mm.nil _, H25.out.2⟩, by omega⟩, by omega⟩
    have hlm : m = l := by omega
    subst hlm
    refine wp_seq (wp_seq ?_)
    refine walk_seqA 4 [.quiet (.int .i64 ((m : Nat) : Int)), .quiet (.slice (some ⟨gl, 0, none⟩) m m), .quiet (.int .i64 ((m : Nat) : Int)), .quiet (.bool false)] (sB H19) ?ho18o ?he18o
    case ho18o => exact ak (fun _ => ⟨rfl, fun _ _ => rfl⟩) (ak (fun _ => ⟨rfl, fun _ _ => rfl⟩) (ak (by refine fun γ => ⟨rfl, fun w' h => ?_⟩; clear h; go_simp) (ak (by refine fun γ => ⟨rfl, fun w' h => ?_⟩; clear h; go_simp <;> omega) trivial)))
    intro γ w26 l hM hl
    have M26 : Mm w26 [] := H19.out.1.grow hM (Nat.le_refl _) hl [] rfl (by decide)
    have B26 : Wo w gw A m i G w26 := Wo.step H19.out.2 (hM.below)
    clear hM hl l H19
    clear γ
    have H26 : Hid (_ ∧ _) := ⟨M26, B26⟩
    clear M26 B26
    refine rest0 rfl (then_normal (wp_cond_false rfl ?_))
    refine wp_exit ?_
    repeat refine then_exit ?_
    refine block_exit ?_
    refine then_normal ?_
    refine (walk_seq) 4 [.quiet (.slice (some ⟨gl, 0, none⟩) m m), .quiet (.int .i64 ((i : Nat) : Int)), .quiet (PT gl (0 + i)), .quiet (.slice (A i).p (A i).n (A i).c)] (fun u' => Mm u' [] ∧ (Wo w gw A m i G u')) ?pre19 ?F19 ?hpre19 (fun γ => ?hF19) (by kernel_rfl) ?hL19 ?hS19 ?ho19 ?he19
    case hpre19 => simp only [tk, tz]; rfl
    case hF19 => simp only [fill, Kind.val, Act.put, sa, sz, ss]; rfl
    case hL19 => exact trivial
    case hS19 => exact fun w' hb => ⟨H26.out.1.below hb, (Wo.step H26.out.2 (hb))⟩
    case ho19 =>
      refine ak (fun _ => ⟨rfl, fun _ _ => rfl⟩) ?_
      refine ak (fun _ => ⟨rfl, fun _ _ => rfl⟩) ?_
      refine ak (fun γ => ⟨rfl, fun w' _ => ex_ixP29 (j := i) rfl rfl rfl rfl (by omega)⟩) ?_
      refine ak (fun γ => ⟨rfl, fun w' hX => ex_loadC (hX.2.ls AL.out hW.out hlti) 0 rfl rfl rfl Try.isAgg22 (rmap_get (by omega))⟩) ?_
      exact trivial
    intro γ w27 l hM hl
    have M27 : Mm w27 [] := H26.out.1.grow hM (Nat.le_refl _) hl [] rfl (by decide)
    have B27 : Wo w gw A m i G w27 := Wo.step H26.out.2 (hM.below)
    clear hM hl l H26
    clear γ
    have H27 : Hid (_ ∧ _) := ⟨M27, B27⟩
    clear M27 B27
    refine rest_at (l := [4]) rfl ?_
    refine rest_enter (d := 72) rfl rfl rfl (exec_call (args := #[.slice (A i).p (A i).n (A i).c]) rfl call39 rfl (mpn rfl)) ((Calls.mono (Over_ap (hW.out.ok i hlti) (mk8 (A i).f 90) w27 ((Classical.byCases (fun hp : (A i).p = none => (Or.inl hp : (A i).row (mk8 (A i).f 90) w27)) (fun hp => (Or.inr (H27.out.2.row2 hp) : (A i).row (mk8 (A i).f 90) w27))))) (fun e w2 hh => ⟨_, hh.1, rfl, hh.2⟩) : Calls Try.prog 39 #[.slice (A i).p (A i).n (A i).c] w27 (fun e w' => ∃ v, e = .returned v ∧ (v = .tuple #[] ∧ (((A i).p = none ∧ Below w27.heap.size w27 w') ∨ ((A i).p ≠ none ∧ Mm w' [((A i).g, ints .u8 (mk8 (mk8 (A i).f 90) 90) (A i).c)] ∧ Ov (A i).c (A i).g w27 w')))))) ?_
    rintro _ w28 ⟨rfl, hov⟩
    have hwo : Below w0.heap.size w0 w28 := by
      rcases hov with ⟨hp, hb⟩ | ⟨hp, h1, h2⟩
      · exact HB.out.trans ((H27.out.2.nil hp hb).mono HB.out.size)
      · exact HB.out.trans ((H27.out.2.back AL.out hW.out hlti hp h1 h2).mono HB.out.size)
    have H28 : Hid (Mm w28 [] ∧ Below w0.heap.size w0 w28) := ⟨Mm.nil _, hwo⟩
    clear hov hwo H27
    simp only [Act.put, sa, sz, ss]
    refine rest_nil (block_normal (then_normal ?_))
    refine walk_seqB 2 [.quiet (.int .i64 ((i : Nat) : Int)), .quiet (.int .i64 ((i + 1 : Nat) : Int))] H28 ?ho20 ?he20
    case ho20 => exact ak (fun _ => ⟨rfl, fun _ _ => rfl⟩) (ak (by refine fun γ => ⟨rfl, fun w' h => ?_⟩; clear h; go_simp; rw [IntKind.wrap_i64]; omega) trivial)
    intro _ w29 H29
    clear H28
    refine rest_at (l := [2]) rfl ?_
    refine rest_set (d := 3) (v := .int .i64 ((i + 1 : Nat) : Int)) (w' := w29) rfl rfl rfl rfl ?_
    simp only [Act.put, sa, sz, ss]
    refine rest_nil (then_normal ?_)
    exact ⟨i + 1, ⟨(slotfn [undef, undef, s4 2, undef, .slice (some ⟨gw, 0, none⟩) m m, .int .i64 ((m : Nat) : Int), .int .i64 ((m : Nat) : Int), .int .i64 ((i : Nat) : Int), .slice (some ⟨gl, 0, none⟩) m m, .int .i64 ((m : Nat) : Int), .bool true, .int .i64 ((i : Nat) : Int), .int .i64 ((i + 1 : Nat) : Int), .slice (some ⟨gl, 0, none⟩) m m, .int .i64 ((m : Nat) : Int), .slice (some ⟨gw, 0, none⟩) m m, .int .i64 ((m : Nat) : Int), .slice (some ⟨gl, 0, none⟩) m m, .int .i64 ((m : Nat) : Int), .bool false, s2 20, s2 21, s2 22, s2 23, s2 24, s2 25, s2 26, s2 27, s2 28, s2 29, s2 30, s2 31, s2 32, s2 33, s2 34, s2 35, .slice (some ⟨gl, 0, none⟩) m m, .int .i64 ((i : Nat) : Int), PT gl (0 + i), .slice (A i).p (A i).n (A i).c, .tuple #[], .int .i64 ((m : Nat) : Int), .slice (some ⟨gl, 0, none⟩) m m, .int .i64 ((m : Nat) : Int), .bool false, s4 45, s4 46, s4 47, s4 48, s4 49, s4 50, s4 51, s4 52, s4 53, s4 54, s4 55, s4 56, s4 57, s4 58, s4 59, s4 60, s4 61, s4 62, s4 63, s4 64, s4 65, s4 66, s4 67, .slice (some ⟨gl, 0, none⟩) m m, .int .i64 ((i : Nat) : Int), PT gl (0 + i), .slice (A i).p (A i).n (A i).c, .tuple #[]]), rfl, ⟨Mm.nil _, H29.out.2⟩, by omega⟩, by omega⟩
  have him : m = i := by omega
  subst him
  refine wp_seq (wp_seq ?_)
  refine walk_seqB 4 [.quiet (.int .i64 ((m : Nat) : Int)), .quiet (.slice (some ⟨gl, 0, none⟩) m m), .quiet (.int .i64 ((m : Nat) : Int)), .quiet (.bool false)] H3 ?ho21 ?he21
  case ho21 => exact ak (fun _ => ⟨rfl, fun _ _ => rfl⟩) (ak (fun _ => ⟨rfl, fun _ _ => rfl⟩) (ak (by refine fun γ => ⟨rfl, fun w' h => ?_⟩; clear h; go_simp) (ak (by refine fun γ => ⟨rfl, fun w' h => ?_⟩; clear h; go_simp <;> omega) trivial)))
  intro _ w30 H30
  clear H3
  refine rest0 rfl (then_normal (wp_cond_false rfl ?_))
  refine wp_exit ?_
  repeat refine then_exit ?_
  refine block_exit ?_
  refine then_normal (wp_seq ?_)
  refine walk_seqB 1 [.quiet (.bool true)] H30 ?ho22 ?he22
  case ho22 => exact ak (fun _ => ⟨rfl, fun _ _ => rfl⟩) trivial
  intro _ w31 H31
  clear H30
  refine rest0 rfl (then_normal (wp_ret ?_))
  repeat (first | refine then_ret ?_ | refine block_ret ?_)
  refine bodyPost_ret (v := .bool true) (by simp [results, Try.results17, go_sem, *]) rfl ?_
  exact ⟨rfl, H31.out.2⟩
set_option maxRecDepth 100000
/-- What holds of a world, and stays, while nothing old is changed. -/
structure Bk (w : World) (F : World → Prop) (w' : World) : Prop where
  b : Below w.heap.size w w'
  st : ∀ {x y : World}, Below x.heap.size x y → F x → F y
  r : F w'
theorem Bk.step {w w1 w2 : World} {F : World → Prop} (h : Bk w F w1) (hb : Below w1.heap.size w1 w2) : Bk w F w2 := ⟨h.b.trans (hb.mono h.b.size), h.st, h.st hb h.r⟩
theorem Bk.size {w w1 : World} {F : World → Prop} (h : Bk w F w1) : w.heap.size ≤ w1.heap.size := h.b.size
theorem Bk.of {w w1 w2 : World} {xs : List Int} {c : Nat} {v : Value} (h : Below w.heap.size w w1) (hb : Below w1.heap.size w1 w2) (h2 : BSl w2 xs c v) : Bk w (fun u => BSl u xs c v) w2 := ⟨h.trans (hb.mono h.size), fun hb h => BSl.below h hb, h2⟩
theorem Bk.and {w w1 w2 : World} {F : World → Prop} {xs : List Int} {c : Nat} {v : Value} (h : Bk w F w1) (hb : Below w1.heap.size w1 w2) (h2 : BSl w2 xs c v) : Bk w (fun u => F u ∧ BSl u xs c v) w2 := ⟨h.b.trans (hb.mono h.b.size), fun hb h' => ⟨h.st hb h'.1, BSl.below h'.2 hb⟩, h.st hb h.r, h2⟩
/-- Five slices. -/
def A5 (a b c d e : Ap) : Nat → Ap
  | 0 => a
  | 1 => b
  | 2 => c
  | 3 => d
  | _ => e
def ap (g n c : Nat) (f : Nat → Nat) : Ap := ⟨some ⟨g, 0, none⟩, g, n, c, f⟩
def apn : Ap := ⟨none, 0, 0, 0, fun _ => 0⟩
theorem apn_ok : apn.Ok := ⟨.inr ⟨rfl, rfl, rfl⟩, Nat.le_refl _, Nat.zero_le _, fun _ => by show (0 : Nat) < 256; decide⟩
section
variable {ρ : Operand → Value} {o : Oper} {x0 x1 x2 x3 x4 : Operand} {w : World}
end
set_option maxRecDepth 100000
/-- A call of a hash: its kind, its bytes. -/
structure Ac where
  kd : Nat
  q : Pt8
  xs : List Int
/-- Acts in a list. -/
def Lc (pl : Option Addr) (X : Nat → Ac) (m : Nat) (w : World) : Prop := ∀ g o, pl = some ⟨g, o, none⟩ → ∀ i, i < m → g < w.heap.size ∧ w.cell? ⟨g, o + 2 * i, none⟩ = some (Z8 (X i).kd) ∧ w.cell? ⟨g, o + 2 * i + 1, none⟩ = some (.slice (X i).q.p (X i).q.n (X i).q.cp) ∧ (X i).q.bs (X i).xs w
theorem Lc.below {pl : Option Addr} {X : Nat → Ac} {m : Nat} {w w' : World} (h : Lc pl X m w) (hb : Below w.heap.size w w') : Lc pl X m w' := fun g o e i hi => by
  obtain ⟨h1, h2, h3, h4⟩ := h g o e i hi
  exact ⟨Nat.lt_of_lt_of_le h1 hb.size, by rw [hb.cell h1]; exact h2, by rw [hb.cell h1]; exact h3, h4.below hb⟩
section
variable {ρ : Operand → Value} {o : Oper} {x y : Operand} {g off m c j a b : Nat} {w : World} {p : Option Addr}
end
/-- What the object of a slice's own block is. -/
def Eo (n : Nat) (f : Nat → Nat) (o : Obj) (x : Nat) : Prop := ∃ cur, o = .cells cur 5 (0, 0) ∧ n + x ≤ maxLen ∧ cur.size = (n + x) * 1 ∧ cur.toList.take (n * 1) = ints .u8 f n
theorem Eo.own {n g x B : Nat} {f : Nat → Nat} {w : World} (h : ∃ o, w.heap[g]? = some o ∧ Eo n f o x) (hB : B ≤ g) : w.ownsRow B 5 1 (.slice (some ⟨g, 0, none⟩) n (n + x)) n (ints .u8 f n) := by
  obtain ⟨o, h1, cur, rfl, h2, h3, h4⟩ := h
  exact ⟨by rw [ints_len, Nat.mul_one], .inr ⟨g, n + x, cur, rfl, hB, h1, Nat.le_add_right _ _, h2, h3, h4⟩⟩
/-- The part that a slice of one's own is. -/
theorem own_part {w1 : World} {B n : Nat} {vv : Value} {P : Nat → Nat} (h : w1.ownsRow B 5 1 vv n (ints .u8 P n)) : ∃ q : Pt8, vv = .slice q.p q.n q.cp ∧ Pok q ∧ (q.p = none → q.cp = 0) ∧ q.n = n ∧ q.f = P ∧ q.rs w1 ∧ (0 < q.n → vv.ownBlock = some q.gb) := by
  rcases h.2 with ⟨h1, h2⟩ | ⟨g, cap, cur, h1, h2, h3, h4, _⟩
  · subst h2
    exact ⟨⟨0, 0, 0, 0, none, P⟩, h1, ⟨Bv.void _ _ _ _ _, Nat.le_refl _⟩, fun _ => rfl, rfl, rfl, Rs.void _ _ _ _, fun h => absurd h (Nat.lt_irrefl _)⟩
  · subst h1
    refine ⟨⟨g, 0, n, cap, some ⟨g, 0, none⟩, P⟩, rfl, ⟨Bv.start _ _ _ _, h4⟩, (fun e => by cases e), rfl, rfl, ⟨fun _ => (World.ownsRow.lt h g rfl).2, fun i hi => ?_⟩, fun _ => rfl⟩
    have := World.ownsRow.cells h (g := g) rfl i _ (ints_get .u8 P hi)
    rw [show (⟨g, 0, none⟩ : Addr).add i = ⟨g, 0 + i, none⟩ by unfold Addr.add; split <;> simp_all] at this
    exact this
/-- Two parts that can be read, apart from blocks L that may change. -/
structure Sr (w : World) (L : List Nat) (q0 q1 : Pt8) (w' : World) : Prop where
  b : Below w.heap.size w w'
  r0 : q0.rs w'
  r1 : q1.rs w'
  a0 : 0 < q0.n → q0.gb ∉ L
  a1 : 0 < q1.n → q1.gb ∉ L
section
variable {w w1 w2 : World} {L : List Nat} {q0 q1 q : Pt8} {g : Nat}
theorem Rs.kpx {g gb o n : Nat} {f : Nat → Nat} {w w' : World} (h : Rs gb o n f w) (k : Kp g w w') (ne : 0 < n → gb ≠ g) : Rs gb o n f w' := by
  refine ⟨fun hn => Nat.lt_of_lt_of_le (h.lt hn) k.size, fun i hi => ?_⟩
  have e := k.block gb (h.lt (by omega)) (ne (by omega))
  rw [World.cell?_of_block (w := w) (a := ⟨gb, o + i, none⟩) e]
  exact h.at_ i hi
theorem Sr.size (h : Sr w L q0 q1 w1) : w.heap.size ≤ w1.heap.size := h.b.size
theorem Sr.step (h : Sr w L q0 q1 w1) (hb : Below w1.heap.size w1 w2) : Sr w L q0 q1 w2 := ⟨h.b.trans (hb.mono h.b.size), h.r0.below hb, h.r1.below hb, h.a0, h.a1⟩
theorem Sr.kp (h : Sr w L q0 q1 w1) (hk : Kp g w1 w2) (hg : g ∈ L) (ho : w.heap.size ≤ g) : Sr w L q0 q1 w2 :=
  ⟨Below.kp h.b hk ho h.b.size, h.r0.kpx hk (fun hn e => h.a0 hn (e ▸ hg)), h.r1.kpx hk (fun hn e => h.a1 hn (e ▸ hg)), h.a0, h.a1⟩
theorem Sr.put {off : Nat} {vs : List Value} (h : Sr w L q0 q1 w1) (hg : g ∈ L) (ho : w.heap.size ≤ g) : Sr w L q0 q1 (w1.setCells g off vs) := h.kp ((Kp.refl g w1).put (Or.inl rfl)) hg ho
theorem Sr.more (h : Sr w L q0 q1 w1) (h0 : 0 < q0.n → q0.gb < g) (h1 : 0 < q1.n → q1.gb < g) : Sr w (g :: L) q0 q1 w1 :=
  ⟨h.b, h.r0, h.r1, fun hn hm => by
    rcases List.mem_cons.1 hm with e | e
    · have := h0 hn; omega
    · exact h.a0 hn e, fun hn hm => by
    rcases List.mem_cons.1 hm with e | e
    · have := h1 hn; omega
    · exact h.a1 hn e⟩
end
end Rg
end Go.Proofs.Ytkkippfikfjdpaa
end
section
namespace Go.Proofs.Ytkkippfikfjdpaa
open Go.RowKit
namespace Rg
set_option maxRecDepth 100000
set_option maxHeartbeats 2000000 in
set_option maxRecDepth 100000 in
/-- From behind the copy on. -/
theorem lent_anyB (xs : List Int) (c : Nat) (v : Value) (hn : xs.length ≤ 2097152) (w : World) (h : BSl w xs c v) :
    Calls Try.prog 8 #[v] w fun e w' => e = .returned (.slice (some ⟨w.heap.size, 0, none⟩) xs.length (xs.length + 3)) ∧ w.heap.size < w'.heap.size ∧ Row8 w' w.heap.size (xs.length + 3) (lent xs) ∧ Below w.heap.size w w' := by
  obtain ⟨n, hnx⟩ : ∃ n, n = xs.length := ⟨_, rfl⟩
  have hmk := run_make_row' (P := Try.prog) 22 5 (.int .u8 0) 1 (by kernel_rfl) (by kernel_rfl) rfl .i64 .i64 (n + 3) (by omega) (by omega)
  have e3 : ((n + 3 : Nat) : Int) = (n : Int) + 3 := by omega
  rw [e3] at hmk
  have ew : IntKind.i64.wrap ((n : Int) + 3) = (n : Int) + 3 := by rw [IntKind.wrap_i64]; omega
  have hsz : (Try.prog.info? 5).map (·.size) = some 1 := by kernel_rfl
  -- the world behind the copy
  have hcp : ∃ w2, (∀ ty, (Builtin.copy_ #[22, 22] ty #[.slice (some ⟨w.heap.size, 0, none⟩) (n + 3) (n + 3), v]).run Try.prog (w.alloc (.cells (madeCells #[.int .u8 0] (n + 3)) 5)) = .ok (goInt n) w2) ∧ Row8 w2 w.heap.size (n + 3) (lentk xs n) ∧ w.heap.size < w2.heap.size ∧ Below w.heap.size w w2 := by
    have hmade := Row8.made w (n + 3) 5
    have hbel : Below w.heap.size w (w.alloc (.cells (madeCells #[.int .u8 0] (n + 3)) 5)) := (Below.refl _ _).alloc (Nat.le_refl _) _
    cases h using BSl.each with
    | full g o hg hc hcell =>
      rw [← hnx]
      refine ⟨(w.alloc (.cells (madeCells #[.int .u8 0] (n + 3)) 5)).setCells w.heap.size 0 (xs.map fun x => .int .u8 x), fun ty => ?_, ?_, ?_, ?_⟩
      · have := run_copy_cells (P := Try.prog) (w.alloc (.cells (madeCells #[.int .u8 0] (n + 3)) 5)) 22 22 ty 5 w.heap.size 0 (n + 3) (n + 3) ⟨g, o, none⟩ n c (xs.map fun x => .int .u8 x) (by kernel_rfl) hsz (by simp [hnx])
          (fun j u hj => by
            have hjn : j < xs.length := by
              rcases Nat.lt_or_ge j xs.length with h | h
              · exact h
              · simp [h] at hj
            have e : (⟨g, o, none⟩ : Addr).add j = ⟨g, o + j, none⟩ := by unfold Addr.add; split <;> simp_all
            rw [e, World.cell?_alloc_past _ _ _ hg, hcell j hjn]
            simp [hjn] at hj
            rw [← hj]
            simp [hjn])
          (fun j hj => by
            rw [Nat.zero_add, (hmade j (by simp at hj; omega)).1]; rfl)
          (fun j hj => by
            rw [Nat.zero_add]; exact (hmade j (by simp at hj; omega)).2)
          (fun u hu => by
            obtain ⟨x, _, rfl⟩ := List.mem_map.1 hu
            rfl)
        simp only [List.length_map, ← hnx] at this
        exact this
      · intro j hj
        refine ⟨?_, by rw [World.frozen?_setCells]; exact (hmade j hj).2⟩
        unfold lentk lent
        by_cases hjn : j < n
        · have := World.cell?_setCells_in w.heap.size (xs.map fun x => Value.int .u8 x) 0 (w.alloc (.cells (madeCells #[.int .u8 0] (n + 3)) 5)) (fun i hi => by
            rw [Nat.zero_add, (hmade i (by simp at hi; omega)).1]; rfl) j (by simp; omega)
          rw [Nat.zero_add] at this
          rw [this, if_pos hjn, if_pos (by omega)]
          simp [show j < xs.length by omega]
        · rw [if_neg hjn, World.cell?_setCells_out _ _ _ _ _ (fun _ _ => Or.inr (by simp; omega))]
          exact (hmade j hj).1
      · rw [size_setCells]; simp
      · exact below_setCells _ (Nat.le_refl _) _ _ _ hbel
    | void p hx =>
      subst hx
      simp at hnx
      subst hnx
      refine ⟨_, fun ty => run_copy_none (P := Try.prog) _ 22 22 ty 5 _ _ _ _ _ _ (by kernel_rfl) hsz (by simp), hmade.congr (fun j _ => by unfold lentk; rw [if_neg (by omega)]), by simp, hbel⟩
  obtain ⟨w2, hcopy, hR2, hs2, hb2⟩ := hcp
  have HM2 : Hid (_ ∧ _ ∧ _) := ⟨hR2, hs2, hb2⟩
  obtain ⟨p, hv⟩ : ∃ p, v = .slice p n c := by
    cases h using BSl.each with
    | full g o hg hc hcell => rw [← hnx]; exact ⟨_, rfl⟩
    | void p hx => subst hx; simp at hnx; subst hnx; exact ⟨p, rfl⟩
  subst hv
  clear h hR2 hs2 hb2 hsz e3
  rw [← hnx]
  have HX : Hid (n = xs.length ∧ n ≤ 2097152) := ⟨hnx, by omega⟩
  have b1 : (0 : Int) ≤ (n : Int) + 3 := by omega
  clear hnx hn
  go_enter Try.func8, Try.ntmps8
  go_wp2
  clear hcopy hmk
  go_loopw [4] (fun i wr => ∃ k : Nat, n ≤ k ∧ k ≤ n + 3 ∧ i = .int .i64 k ∧ Row8 wr w.heap.size (n + 3) (lentk xs k) ∧ w.heap.size < wr.heap.size ∧ Below w.heap.size w wr) (fun i _ => n + 3 - (RowKit.intOf i).toNat)
  case atStart => exact ⟨n, by omega, by omega, rfl, HM2.out⟩
  case round =>
    clear HM2
    obtain ⟨k, hk0, hk, rfl, hR, hs, hw⟩ := hrel
    have hXn := HX.out
    by_cases hlt : k < n + 3
    · have hd : decide ((k : Int) < (n : Int) + 3) = true := decide_eq_true (by omega)
      obtain ⟨r1, r2⟩ := hR k hlt
      have em : IntKind.i64.wrap (160 + (k : Int) % 90) = 160 + (k : Int) % 90 := by rw [IntKind.wrap_i64]; omega
      have eb : IntKind.u8.wrap (160 + (k : Int) % 90) = 160 + (k : Int) % 90 := by simp [IntKind.wrap, IntKind.signed, IntKind.bits]; omega
      have HL : Hid (160 + (k : Int) % 90 = lent xs k) := by
        show _ = _
        unfold lent
        rw [if_neg (by omega)]
      have HM : Hid (_ ∧ _ ∧ _) := ⟨hR, hs, hw⟩
      have hkb : k < 9000000 := by omega
      clear hR hs hw hXn
      go_wp2
      go_roundw
      case rel =>
        obtain ⟨hR, hs, hw⟩ := HM.out
        refine ⟨k + 1, by omega, by omega, by go_num, ?_, by simpa using hs, hw.setCell (by simp) _⟩
        rw [HL.out]
        exact (hR.set _).congr (fun j _ => lentk_step xs k j)
      case measure => simp [RowKit.intOf] <;> omega
    · have hk3 : k = n + 3 := by omega
      subst hk3
      have hd : decide (((n + 3 : Nat) : Int) < (n : Int) + 3) = false := decide_eq_false (by omega)
      have HM : Hid (_ ∧ _ ∧ _) := ⟨hR, hs, hw⟩
      clear hR hs hw hXn
      go_wp2
      go_ret
      exact ⟨rfl, HM.out.2.1, HM.out.1.congr (fun j hj => by unfold lentk; rw [if_pos hj]), HM.out.2.2⟩
set_option maxHeartbeats 1000000 in
set_option maxRecDepth 100000 in
theorem kept_anyB (xs : List Int) (g c : Nat) (v : Value) (hn : xs.length ≤ 2097152) (w : World) (hg : g < w.heap.size) (hr : Row8 w g (xs.length + 3) (lent xs)) (h : BSl w xs c v) :
    Calls Try.prog 16 #[.slice (some ⟨g, 0, none⟩) xs.length (xs.length + 3), v] w fun e w' => e = .returned (.bool true) ∧ Below w.heap.size w w' := by
  have CL : Hid _ := lent_anyB xs c v hn w.drew h.drew
  obtain ⟨n, hnx⟩ : ∃ n, n = xs.length := ⟨_, rfl⟩
  have hS1 : BSl w (lentl xs) (n + 3) (.slice (some ⟨g, 0, none⟩) (n + 3) (n + 3)) := by rw [hnx]; exact BSl.row hg (fun j hj => (hr j hj).1) _ (Nat.le_refl _)
  have HS1 : Hid _ := hS1
  obtain ⟨p, hv⟩ : ∃ p, v = .slice p n c := by
    cases h using BSl.each with
    | full g o hg hc hcell => rw [← hnx]; exact ⟨_, rfl⟩
    | void p hx => subst hx; simp at hnx; subst hnx; exact ⟨p, rfl⟩
  subst hv
  have CL2 : Hid (Calls Try.prog 8 #[.slice p n c] w.drew fun e w' => e = .returned (.slice (some ⟨w.heap.size, 0, none⟩) n (n + 3)) ∧ BSl w' (lentl xs) (n + 3) (.slice (some ⟨w.heap.size, 0, none⟩) (n + 3) (n + 3)) ∧ Below w.heap.size w.drew w') := by
    refine Calls.mono CL.out ?_
    rintro e w' ⟨he, h1, h2, h3⟩
    rw [← hnx] at he
    refine ⟨he, ?_, h3⟩
    rw [hnx]
    exact BSl.row h1 (fun j hj => (h2 j hj).1) _ (Nat.le_refl _)
  have ew : IntKind.i64.wrap ((n : Int) + 3) = (n : Int) + 3 := by rw [IntKind.wrap_i64]; omega
  have b1 : (0 : Int) ≤ (n : Int) + 3 := by omega
  have b2 : ((n : Int) + 3).toNat = n + 3 := by omega
  rw [← hnx]
  clear CL hS1 h hr hnx hn
  go_enter Try.func16, Try.ntmps16
  go_wp2
  go_region_held3 (fun _ => True) (trivial)
    (first
      | (go_at_call 8; refine CL2.out.mono ?_; rintro e w1 ⟨rfl, hB1, hb1⟩)
      | (go_at_call 15; refine (same_any _ (HS1.out.drew.below hb1) hB1).mono ?_; rintro e w2 ⟨rfl, rfl⟩))
  go_wp2
  go_ret
  exact ⟨rfl, ((Below.refl _ _).drew).trans hb1⟩
theorem lent_bornB (xs : List Int) (c : Nat) (v : Value) (hx : ∀ x ∈ xs, 0 ≤ x ∧ x < 256) (hn : xs.length ≤ 2097152) (w : World) (h : BSl w xs c v) :
    Calls Try.prog 8 #[v] w fun e w' => Below w.heap.size w w' ∧ ∃ g, e = .returned (.slice (some ⟨g, 0, none⟩) xs.length (xs.length + 3)) ∧ w.heap.size ≤ g ∧ g < w'.heap.size ∧ Blk w' g (ints .u8 (lf xs) (xs.length + 3)) := by
  refine Calls.mono (lent_anyB xs c v hn w h) ?_
  rintro e w' ⟨he, h1, h2, h3⟩
  refine ⟨h3, w.heap.size, he, Nat.le_refl _, h1, fun j u hj => ?_⟩
  have hjn : j < xs.length + 3 := by
    have := (List.getElem?_eq_some_iff.1 hj).1
    rwa [ints_len] at this
  rw [ints_get _ _ hjn, lf_int hx] at hj
  obtain rfl := Option.some.inj hj
  exact h2 j hjn
theorem lent_partB {xs : List Int} {a : Pt8} (h : Ar xs a) (hn : a.n ≤ 2097152) (w : World) (hB : a.bs xs w) :
    Calls Try.prog 8 #[.slice a.p a.n a.cp] w fun e w' => Below w.heap.size w w' ∧ ∃ g, e = .returned (.slice (some ⟨g, 0, none⟩) a.n (a.n + 3)) ∧ w.heap.size ≤ g ∧ g < w'.heap.size ∧ Blk w' g (ints .u8 (lf xs) (a.n + 3)) := by
  have hh := lent_bornB xs a.cp _ h.by_ (by rw [← h.len]; exact hn) w hB.1
  rw [← h.len] at hh
  exact hh
theorem kept_partB {xs : List Int} {a : Pt8} (h : Ar xs a) (hn : a.n ≤ 2097152) {w : World} {l : List (Nat × List Value)} (hm : Mm w l) (k : Nat) {g : Nat} (hk : l[k]? = some (g, ints .u8 (lf xs) (a.n + 3))) (hB : a.bs xs w) : Calls Try.prog 16 #[.slice (some ⟨g, 0, none⟩) a.n (a.n + 3), .slice a.p a.n a.cp] w fun e w' => e = .returned (.bool true) ∧ Below w.heap.size w w' := by
  rw [h.len] at hk
  have hr := hm.row8 h.by_ k hk
  have hh := kept_anyB xs g a.cp _ (by rw [← h.len]; exact hn) w hr.1 hr.2 hB.1
  rw [← h.len] at hh
  exact hh
end Rg
end Go.Proofs.Ytkkippfikfjdpaa
end
