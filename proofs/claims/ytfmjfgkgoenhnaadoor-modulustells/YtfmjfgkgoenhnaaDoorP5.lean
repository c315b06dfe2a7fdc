/- Texts of the proof, joined. -/
import Derived.Test.YtfmjfgkgoenhnaaDoorP4
import Derived.BigRegion
section
namespace Go.Proofs.YtfmjfgkgoenhnaaDoor
open Go.RowKit
namespace Rg
section
variable {P : Program} {ops : Array Oper} {ks : List Kind} {a₀ : Act} {w₀ : World} {Q : Exit → Act → World → Prop}
/-- An operation that the store need not wait for: it tells its value behind it. -/
def LateAt (P : Program) (ops : Array Oper) (ks : List Kind) (a : Act) (w : World) : List Nat → Prop
  | [] => True
  | i :: r => (∃ o v, ops[i]? = some o ∧ ks[i]? = some (.quiet v) ∧ Region.wanted o (yielded ops a.tmps) = true ∧ (execOp a.eval o).run P w = .ok (.value v) w) ∧ LateAt P ops ks a w r
theorem LateAt.at {a : Act} {w : World} : ∀ {late : List Nat}, LateAt P ops ks a w late → ∀ {i : Nat}, i ∈ late → ∃ o v, ops[i]? = some o ∧ ks[i]? = some (.quiet v) ∧ Region.wanted o (yielded ops a.tmps) = true ∧ (execOp a.eval o).run P w = .ok (.value v) w
  | [], _, _, h => by cases h
  | j :: r, hl, i, h => by
    rcases List.mem_cons.1 h with e | h
    · subst e; exact hl.1
    · exact hl.2.at h
def isQuiet : Option Kind → Bool
  | some ((Sum.inl _)) => true
  | _ => false
theorem isQuiet_spec {k : Option Kind} (h : isQuiet k = true) : ∃ v, k = some (.quiet v) := by
  cases k with
  | none => cases h
  | some k => cases k using Kind.each <;> first | exact ⟨_, rfl⟩ | cases h
theorem mem_late2 {γ : Nat → Nat} {w : World} : ∀ {late : List Nat} {l : Array Bool}, (late.all fun i => isQuiet ks[i]?) = true → Mem ks w₀ l γ w → ∃ l', Mem ks w₀ l' γ w ∧ l'.size = l.size ∧ (∀ i, l.getD i false = true → l'.getD i false = true) ∧ ∀ i ∈ late, i < l.size → l'.getD i false = true
  | [], l, _, h => ⟨l, h, rfl, fun _ h => h, fun _ h => by cases h⟩
  | j :: r, l, hl, h => by
    simp only [List.all_cons, Bool.and_eq_true] at hl
    obtain ⟨v, hk⟩ := isQuiet_spec hl.1
    obtain ⟨l', h1, h2, h3, h4⟩ := mem_late2 (late := r) hl.2 (h.still (Below.refl _ _) hk rfl (fun _ _ _ h => by cases h))
    refine ⟨l', h1, by rw [h2]; simp, fun i hi => h3 i (getD_true hi), fun i hi hlt => ?_⟩
    rcases List.mem_cons.1 hi with e | hi
    · subst e
      exact h3 i (by simp [hlt])
    · exact h4 i hi (by simpa using hlt)
theorem after_put2 {full : Array Oper} {n p : Nat} (hO : Orderly ops ks n) (hn : n = a₀.tmps.size) (hp : ops.size = p) (hpf : p + 1 ≤ full.size) (hfull : ∀ i, i < p → full[i]? = ops[i]?) (hgd : ∀ {i : Nat} {o : Oper} {g : Nat} {b : Bool}, ops[i]? = some o → o.guard = some (g, b) → g < p)
    (hup : ∀ {i : Nat} {o : Oper}, full[i]? = some o → ∀ e ∈ o.after, Region.binds .any e = true → e.on < i)
    (hwt : ∀ {i : Nat} {o : Oper}, full[i]? = some o → p + 1 ≤ i → ∀ j, j < i → waitsT full 4 o j = true)
    {late : List Nat} {γ : Nat → Nat} {w : World} (hlate : LateAt P ops ks (fill γ 0 ops.toList ks a₀) w late) (hQ : wpOps P full Q (List.range' (p + 1) (full.size - (p + 1))) (fill γ 0 ops.toList ks a₀) w) :
    ∀ (fuel : Nat) (l : Array Bool) (a : Act), l.size = full.size → l.toList.count false ≤ fuel → Closed full l → (∀ i, i ≤ p → l.getD i true = false → i ∈ late) → (∀ i, p + 1 ≤ i → i < full.size → l.getD i true = false) → Agree ops ks a₀ l γ a → wpAny P .any full Q fuel l a w := by
  intro fuel
  induction fuel with
  | zero =>
    intro l a hsz hc hcl hu ht hA
    have hall : ∀ i, i < full.size → l.getD i false = true := fun i hi => by
      cases hb : l.getD i true with
      | false => have := count_set hb; omega
      | true =>
        have hi' : i < l.size := by omega
        simpa [hi'] using hb
    rw [hA.whole (fun i hi => hall i (by omega))]
    have h0 := tail_count full.size (full.size - (p + 1)) l hsz (by omega) (fun i hi1 hi2 => ht i (by omega) hi2)
    exact rest_anyT (p + 1) hup hwt (full.size - (p + 1)) 0 (p + 1) l _ w (by omega) (Nat.le_refl _) hsz (by omega) hcl (fun i hi => hall i (by omega)) ht hQ
  | succ fuel ih =>
    intro l a hsz hc hcl hu ht hA
    by_cases hall : ∀ i, i < p + 1 → l.getD i false = true
    · rw [hA.whole (fun i hi => hall i (by omega))]
      have h0 := tail_count full.size (full.size - (p + 1)) l hsz (by omega) (fun i hi1 hi2 => ht i (by omega) hi2)
      exact rest_anyT (p + 1) hup hwt (full.size - (p + 1)) (fuel + 1) (p + 1) l _ w (by omega) (Nat.le_refl _) hsz (by omega) hcl hall ht hQ
    · have hex : ∃ x, x < p + 1 ∧ l.getD x false = false := by
        apply Classical.byContradiction
        intro hno
        apply hall
        intro i hi
        cases hb : l.getD i false with
        | true => rfl
        | false => exact absurd ⟨i, hi, hb⟩ hno
      obtain ⟨x, hx, hxf⟩ := hex
      refine ⟨fun hr => ?_, fun i hi => ?_⟩
      · have := ready_all hup hsz hr x (by omega)
        rw [hxf] at this
        cases this
      · obtain ⟨hun, o, ho, hedge⟩ := mem_ready.1 hi
        have hilt : i < full.size := (Array.getElem?_eq_some_iff.1 ho).1
        have hip1 : i < p + 1 := by
          rcases Nat.lt_or_ge i (p + 1) with h' | h'
          · exact h'
          · have := waitsT_spec hcl 4 o (hwt ho h' x (by omega)) hedge
            rw [hxf] at this
            cases this
        obtain ⟨o', v, ho', hk, hxq⟩ := hlate.at (hu i (by omega) hun)
        have hip : i < p := by rw [← hp]; exact (Array.getElem?_eq_some_iff.1 ho').1
        have hof := ho
        rw [hfull i hip, ho'] at ho
        injection ho with ho
        subst ho
        obtain ⟨he, hw0⟩ := hA.sees hO ho' hedge
        have hy : ∀ ts, Region.wanted o' (yielded full ts) = Region.wanted o' (yielded ops ts) := fun ts => by
          unfold Region.wanted
          cases hg : o'.guard with
          | none => rfl
          | some gw =>
            obtain ⟨g, want⟩ := gw
            have : yielded full ts g = yielded ops ts g := by unfold yielded; rw [hfull g (hgd ho' hg)]
            simp only [this]
        have hc' := count_set hun
        refine wpOp_step hof (fun K' hK => ?_)
        rw [hy, hw0, if_pos hxq.1]
        unfold Oper.wp
        rw [he, hxq.2]
        refine hK _ _ (ih _ _ (by simp [hsz]) (by omega) (hcl.step hof hedge) (fun j hj hj2 => ?_) (fun j hj hj2 => ?_) (hA.step hO hn ho' hk (fun _ _ => rfl)))
        · by_cases e : i = j
          · subst e
            have hi' : i < l.size := by omega
            simp [hi'] at hj2
          · rw [getD_set_ne true e] at hj2
            exact hu j hj hj2
        · rw [getD_set_ne true (by omega)]
          exact ht j hj hj2
theorem first_put2 {full : Array Oper} {n p : Nat} {op : Oper} (hO : Orderly ops ks n) (hn : n = a₀.tmps.size) (hL : LaidOk ks ks) {S : World → Prop} (hS : ∀ w, Below w₀.heap.size w₀ w → S w)
    (hp : ops.size = p) (hpf : p + 1 ≤ full.size) (hfull : ∀ i, i < p → full[i]? = ops[i]?) (hgd : ∀ {i : Nat} {o : Oper} {g : Nat} {b : Bool}, ops[i]? = some o → o.guard = some (g, b) → g < p)
    (hup : ∀ {i : Nat} {o : Oper}, full[i]? = some o → ∀ e ∈ o.after, Region.binds .any e = true → e.on < i)
    (hop : full[p]? = some op) (hdst : op.dst = none) (hgu : op.guard = none) (hsel : ∀ cs b, op.op ≠ .select cs b)
    {late : List Nat} (hwp : ∀ j, j < p → waitsT full 4 op j = true ∨ j ∈ late) (hlook : ∀ d ∈ op.looksAt full, ∀ j oj, ops[j]? = some oj → oj.dst = some d → waitsT full 4 op j = true)
    (hwt : ∀ {i : Nat} {o : Oper}, full[i]? = some o → p + 1 ≤ i → ∀ j, j < i → waitsT full 4 o j = true)
    (hlate : (late.all fun i => isQuiet ks[i]?) = true)
    (hops : AllOk P ops S (fun γ => fill γ 0 ops.toList ks a₀) ops.toList ks)
    (hend : ∀ γ w l, Mem ks w₀ l γ w → (∀ i, i < p → l.getD i false = true) → ∃ w', (execOp (fill γ 0 ops.toList ks a₀).eval op).run P w = .ok .skip w' ∧ LateAt P ops ks (fill γ 0 ops.toList ks a₀) w' late ∧ wpOps P full Q (List.range' (p + 1) (full.size - (p + 1))) (fill γ 0 ops.toList ks a₀) w') :
    ∀ (fuel : Nat) (l : Array Bool) (γ : Nat → Nat) (a : Act) (w : World), l.size = full.size → l.toList.count false ≤ fuel → Closed full l → (∀ i, p ≤ i → i < full.size → l.getD i true = false) → Agree ops ks a₀ l γ a → Mem ks w₀ l γ w → wpAny P .any full Q fuel l a w := by
  intro fuel
  induction fuel with
  | zero =>
    intro l γ a w hsz hc hcl ht hA hM
    have := count_set (ht p (Nat.le_refl _) (by omega))
    omega
  | succ fuel ih =>
    intro l γ a w hsz hc hcl ht hA hM
    have hpu := ht p (Nat.le_refl _) (by omega)
    refine ⟨fun hr => ?_, fun i hi => ?_⟩
    · have := ready_all hup hsz hr p (by omega)
      rw [(getD_same hpu).1] at this
      cases this
    · obtain ⟨hun, o, ho, hedge⟩ := mem_ready.1 hi
      have hilt : i < full.size := (Array.getElem?_eq_some_iff.1 ho).1
      have hc' := count_set hun
      have hip1 : i < p + 1 := by
        rcases Nat.lt_or_ge i (p + 1) with h' | h'
        · exact h'
        · have := waitsT_spec hcl 4 o (hwt ho h' p (by omega)) hedge
          rw [(getD_same hpu).1] at this
          cases this
      by_cases hip : i = p
      · subst hip
        have ho2 := ho
        rw [hop] at ho
        injection ho with ho
        subst ho
        have hbefore : ∀ j, j < i → j ∉ late → l.getD j false = true := fun j hj hnl => by
          rcases hwp j hj with h | h
          · exact waitsT_spec hcl 4 _ h hedge
          · exact absurd h hnl
        obtain ⟨l', hM', hs', hl1, hl2⟩ := mem_late2 hlate hM
        have hfin : ∀ j, j < i → l'.getD j false = true := fun j hj => by
          by_cases h : j ∈ late
          · exact hl2 j h (by omega)
          · exact hl1 j (hbefore j hj h)
        obtain ⟨w', hx, hla, hQ⟩ := hend γ w l' hM' hfin
        have he := see_all (full := full) hA hsel (fun d hd j oj hj hdj => waitsT_spec hcl 4 _ (hlook d hd j oj hj hdj) hedge)
        refine wpOp_step hop (fun K' hK => ?_)
        have hwn : Region.wanted op (yielded full a.tmps) = true := by unfold Region.wanted; rw [hgu]
        rw [if_pos hwn]
        unfold Oper.wp
        rw [he, hx]
        have hA' : Agree ops ks a₀ (l.setIfInBounds i true) γ (a.put op.dst undef) := by
          rw [hdst]
          refine ⟨hA.defers, hA.size, fun d hd => hA.slots d (fun j oj hj hdj => ?_)⟩
          have h1 := hd j oj hj hdj
          have hj' : j < i := by rw [← hp]; exact (Array.getElem?_eq_some_iff.1 hj).1
          rwa [getD_set_ne false (by omega)] at h1
        refine hK _ _ (after_put2 hO hn hp hpf hfull hgd hup hwt hla hQ fuel _ _ (by simp [hsz]) (by omega) (hcl.step ho2 hedge) (fun j hj hj2 => ?_) (fun j hj hj2 => ?_) hA')
        · by_cases e : i = j
          · subst e
            have hi' : i < l.size := by omega
            simp [hi'] at hj2
          · rw [getD_set_ne true e] at hj2
            apply Classical.byContradiction
            intro hnl
            have := hbefore j (by omega) hnl
            rw [(getD_same hj2).1] at this
            cases this
        · rw [getD_set_ne true (by omega)]
          exact ht j (by omega) hj2
      · have hlt : i < p := by omega
        have ho' : ops[i]? = some o := by rw [← hfull i hlt]; exact ho
        refine kind_step hO hn hL hS hfull hgd hops hA hM hlt ho' hun hedge (fun γ' a' w' hA' hM' => ?_)
        exact ih _ γ' a' w' (by simp [hsz]) (by omega) (hcl.step ho hedge) (fun j hj hj2 => by rw [getD_set_ne true (by omega)]; exact ht j hj hj2) hA' hM'
/-- **The law of such a region.** -/
theorem walk_put2 {full : Array Oper} {a : Act} {w : World} {id : Nat} (hm : P.follows .mixedOrders = true) (p : Nat) (late : List Nat) (ks : List Kind) (S : World → Prop) (pre : List Oper) (F : (Nat → Nat) → Act) (op : Oper) (hpre : full.toList.take p = pre)
    (hF : ∀ γ, fill γ 0 pre ks a = F γ) (hor : (orderly pre.toArray ks a.tmps.size && guarded pre.toArray p && putly full p late) = true) (hop : full[p]? = some op) (hL : LaidOk ks ks) (hS : ∀ w', Below w.heap.size w w' → S w')
    (hops : AllOk P pre.toArray S F pre ks) (hlate : (late.all fun i => isQuiet ks[i]?) = true)
    (hend : ∀ γ w' l, Mem ks w l γ w' → (∀ i, i < p → l.getD i false = true) → ∃ w'', (execOp (F γ).eval op).run P w' = .ok .skip w'' ∧ LateAt P pre.toArray ks (F γ) w'' late ∧ wpOps P full Q (List.range' (p + 1) (full.size - (p + 1))) (F γ) w'') :
    (Code.region id full true).wp P Q a w := by
  subst hpre
  obtain rfl : (fun γ => fill γ 0 (full.toList.take p) ks a) = F := funext hF
  simp only [Bool.and_eq_true] at hor
  obtain ⟨⟨h1, h2⟩, h3⟩ := hor
  unfold putly at h3
  rw [hop] at h3
  simp only [Bool.and_eq_true, decide_eq_true_eq, Option.isNone_iff_eq_none] at h3
  obtain ⟨⟨⟨⟨h5, h6⟩, h7⟩, ⟨⟨h8, h9⟩, h10⟩, h11⟩, h12⟩ := h3
  have hsz : (full.toList.take p).toArray.size = p := by simp; omega
  have hfu : ∀ i, i < p → full[i]? = (full.toList.take p).toArray[i]? := fun i hi => by rw [← take_arr]; exact first_full hi
  refine wp_region_any hm (first_put2 (ops := (full.toList.take p).toArray) (Orderly.of h1) rfl hL hS hsz h6 hfu (fun ho hg => guarded_spec h2 ho hg) (fun ho e he hb => ?_) hop h8 h9 (fun cs b => Region.noSelect_spec h7 p op cs b hop) (late := late) (fun j hj => ?_) (fun d hd j oj hj hdj => ?_) (fun ho hi j hj => ?_) hlate hops hend full.size _ (fun _ => 0) a w.drew (by simp) (by simp) (Closed.none _ _) (fun i _ hi => none_listed' hi) (start_agree _ _) (start_mem _ _ (Below.refl _ _).drew))
  · have := Array.all_eq_true_iff_forall_mem.1 (eachOp_spec h5 ho) e he
    simpa [hb] using this
  · have := List.all_eq_true.1 h10 j (List.mem_range.2 hj)
    simpa using this
  · have hj' : j < p := by rw [← hsz]; exact (Array.getElem?_eq_some_iff.1 hj).1
    have := eachOp_spec (List.all_eq_true.1 h11 d hd) (by rw [hfu j hj']; exact hj)
    simp only [hdj, bne_self_eq_false, Bool.false_or, Bool.or_eq_true, decide_eq_true_eq] at this
    rcases this with h | h
    · exact h
    · omega
  · have := eachOp_spec h12 ho
    simp only [Bool.or_eq_true, decide_eq_true_eq] at this
    rcases this with h | h
    · omega
    · exact List.all_eq_true.1 h j (List.mem_range.2 hj)
end
end Rg
end Go.Proofs.YtfmjfgkgoenhnaaDoor
end
section
namespace Go.Proofs.YtfmjfgkgoenhnaaDoor
open Go.RowKit
namespace Rg
abbrev zero12 : List Value := [.int .u64 0, .int .u64 0, .int .u64 0, .int .u64 0, .int .u64 0, .int .u64 0, .int .u64 0, .int .u64 0, .int .u64 0, .int .u64 0, .int .u64 0, .int .u64 0]
abbrev lev (b L : Nat) : Value := .agg (lec b (wd L)).toArray
theorem ex_madeL {ρ : Operand → Value} {o : Oper} {w : World} (ho : o.op = .alloc 59) :
    (execOp ρ o).run Tryd.prog w = .ok (.value (.pointer (some ⟨w.heap.size, 0, none⟩))) (w.alloc (.cells zero12.toArray 59)) := by
  simp only [execOp, ho]
  go_simp
theorem ex_buildL {ρ : Operand → Value} {o : Oper} {x : Operand} {b z : Nat} {w : World} (hz : z = 0) (ho : o.op = .build 59 #[(0, x)]) (hx : ρ x = N b) : (execOp ρ o).run Tryd.prog w = .ok (.value (lev b z)) w := by
  subst hz
  simp only [execOp, ho]
  go_simp
  simp [wd_zero]
theorem ex_laidL {ρ : Operand → Value} {o : Oper} {x y : Operand} {g b L : Nat} {w : World} (hb : Blk w g zero12) (ho : o.op = .store 59 x y) (hx : ρ x = .pointer (some ⟨g, 0, none⟩)) (hy : ρ y = lev b L) :
    (execOp ρ o).run Tryd.prog w = .ok .skip (w.setCells g 0 (lec b (wd L))) := ex_laidT hb rfl rfl Tryd.sizeOf59 ho hx hy
set_option maxHeartbeats 2000000 in
set_option maxRecDepth 100000 in
theorem powersOf_gen (n l s B z L0 L1 L2 o q : Nat) (cB : Bool) (hz : z = 0) (hl : l ≤ 384) (hs : s = 384 - l)
    (cl : ∀ w, Calls Tryd.prog 24 #[N n] w fun e w' => e = .returned (.int .i64 ((l : Nat) : Int)) ∧ Below w.heap.size w w')
    (cb : ∀ w, Calls Tryd.prog 46 #[N n, .int .i64 ((s : Nat) : Int)] w fun e w' => e = .returned (N B) ∧ Below w.heap.size w w')
    (cs : ∀ w, Calls Tryd.prog 31 #[N 0, N B] w fun e w' => e = .returned (.tuple #[N L0, .bool cB]) ∧ Below w.heap.size w w')
    (d1 : ∀ g w, Mm w [(g, lec B (wd L0))] → Calls Tryd.prog 47 #[PT g 0, .int .i64 ((s : Nat) : Int)] w fun e w' => e = .returned (.tuple #[]) ∧ Mm w' [(g, lec B (wd L1))] ∧ Kp g w w')
    (co : ∀ w, Calls Tryd.prog 46 #[N L1, .int .i64 (-((s : Nat) : Int))] w fun e w' => e = .returned (N o) ∧ Below w.heap.size w w')
    (d2 : ∀ g w, Mm w [(g, lec B (wd L1))] → Calls Tryd.prog 47 #[PT g 0, .int .i64 384] w fun e w' => e = .returned (.tuple #[]) ∧ Mm w' [(g, lec B (wd L2))] ∧ Kp g w w')
    (cq : ∀ w, Calls Tryd.prog 46 #[N L2, .int .i64 (-((s : Nat) : Int))] w fun e w' => e = .returned (N q) ∧ Below w.heap.size w w') (w : World) :
    Calls Tryd.prog 26 #[N n] w fun e w' => e = .returned (.tuple #[N o, N q]) ∧ Below w.heap.size w w' := by
  have H0 : Hid (_ ∧ _) := ⟨Mm.nil w, Below.refl w.heap.size w⟩
  have CL : Hid _ := cl
  have CB : Hid _ := cb
  have CS : Hid _ := cs
  have CD1 : Hid _ := d1
  have CO : Hid _ := co
  have CD2 : Hid _ := d2
  have CQ : Hid _ := cq
  have HZ : Hid _ := hz
  clear cl cb cs d1 co d2 cq hz
  go_enter Tryd.func26, Tryd.ntmps26
  refine wp_seq ?_
  refine walk_seqA 3 [.made (cells6 n) 24, .made zero6 24, .made zero6 24] (sB H0) ?ho1 ?he1
  case ho1 => exact ak (fun γ => ⟨rfl, fun w' => ex_box6 rfl rfl⟩) (ak (fun γ => ⟨rfl, fun w' => exec_made6 rfl⟩) (ak (fun γ => ⟨rfl, fun w' => exec_made6 rfl⟩) trivial))
  intro γ w1 l hM hl
  have H1 : Hid (Mm w1 [(γ 0, cells6 n), (γ 1, zero6), (γ 2, zero6)] ∧ _) := growB H0 hM (Nat.le_refl _) hl [0, 1, 2] rfl (by decide)
  have o1_0 := ownB H0 hM (Nat.le_refl _) hl (i := 0) rfl
  have o1_1 := ownB H0 hM (Nat.le_refl _) hl (i := 1) rfl
  have o1_2 := ownB H0 hM (Nat.le_refl _) hl (i := 2) rfl
  clear hM hl l
  generalize γ 0 = γ1_0 at H1 o1_0 ⊢
  generalize γ 1 = γ1_1 at H1 o1_1 ⊢
  generalize γ 2 = γ1_2 at H1 o1_2 ⊢
  clear γ
  refine rest0 rfl (then_normal (wp_seq ?_))
  refine walk_seqB 4 [.quiet (N n), .call (.int .i64 ((l : Nat) : Int)), .quiet (.int .i64 ((s : Nat) : Int)), .quiet (.int .i64 ((s : Nat) : Int))] H1 ?ho2 ?he2
  case ho2 => exact ak (fun γ => ⟨rfl, fun w' h => ex_load6 h 0 rfl rfl rfl rfl⟩) (ak (fun γ => ⟨rfl, fun w' h => ⟨24, #[N n], exec_call rfl call24 rfl (mpn rfl), CL.out w'⟩⟩) (ak (by refine fun γ => ⟨rfl, fun w' h => ?_⟩; clear h; go_simp; rw [IntKind.wrap_i64]; omega) (ak (fun _ => ⟨rfl, fun _ _ => rfl⟩) trivial)))
  intro _ w2 H2
  clear H1
  refine rest0 rfl (then_normal (wp_seq ?_))
  refine walk_seqA 6 [.quiet (N n), .quiet (.int .i64 ((s : Nat) : Int)), .call (N B), .quiet (lev B z), .made zero12 59, .laid 4 zero12 (lec B (wd z))] (sB H2) ?ho3 ?he3 (hL := ?hL3)
  case hL3 => exact ⟨⟨_, rfl⟩, trivial⟩
  case ho3 => exact ak (fun γ => ⟨rfl, fun w' h => ex_load6 h 0 rfl rfl rfl rfl⟩) (ak (fun _ => ⟨rfl, fun _ _ => rfl⟩) (ak (fun γ => ⟨rfl, fun w' h => ⟨46, #[N n, .int .i64 ((s : Nat) : Int)], exec_call rfl call46 rfl (mpn rfl), CB.out w'⟩⟩) (ak (fun γ => ⟨rfl, fun w' _ => ex_buildL HZ.out rfl rfl⟩) (ak (fun γ => ⟨rfl, fun w' => ex_madeL rfl⟩) (ak (fun γ => ⟨rfl, rfl, rfl, fun w' h => ex_laidL h rfl rfl rfl⟩) trivial)))))
  intro γ w3 l hM hl
  have H3 : Hid (Mm w3 [(γ 4, lec B (wd z)), (γ1_0, cells6 n), (γ1_1, zero6), (γ1_2, zero6)] ∧ _) := growB H2 hM (Nat.le_refl _) hl [4] rfl (by decide)
  have o3_4 := ownB H2 hM (Nat.le_refl _) hl (i := 4) rfl
  clear hM hl l H2
  generalize γ 4 = γ3_4 at H3 o3_4 ⊢
  clear γ
  refine rest0 rfl (then_normal (wp_seq ?_))
  refine walk_seqB 8 [.quiet (N 0), .quiet (PT γ3_4 0), .quiet (N B), .call (.tuple #[N L0, .bool cB]), .quiet (.tuple #[N L0, .bool cB]), .quiet (N L0), .quiet (.bool cB), .quiet (PT γ3_4 6)] H3 ?ho4 ?he4
  case ho4 => exact ak (by refine fun γ => ⟨rfl, fun w' h => ?_⟩; clear h; exact ex_zero6 rfl) (ak (by refine fun γ => ⟨rfl, fun w' h => ?_⟩; clear h; go_simp) (ak (fun γ => ⟨rfl, fun w' h => ex_load6 h 0 rfl rfl rfl rfl⟩) (ak (fun γ => ⟨rfl, fun w' h => ⟨31, #[N 0, N B], exec_call rfl call31 rfl (mpn rfl), CS.out w'⟩⟩) (ak (fun _ => ⟨rfl, fun _ _ => rfl⟩) (ak (by refine fun γ => ⟨rfl, fun w' h => ?_⟩; clear h; go_simp) (ak (by refine fun γ => ⟨rfl, fun w' h => ?_⟩; clear h; go_simp) (ak (by refine fun γ => ⟨rfl, fun w' h => ?_⟩; clear h; go_simp) trivial)))))))
  intro _ w4 H4
  clear H3
  refine rest_at (l := [8]) rfl ?_
  refine rest_store rfl rfl rfl (ex_store6 H4.out.1 0 rfl rfl rfl rfl (Nat.le_of_ble_eq_true rfl)) ?_
  have H5 : Hid (Mm (w4.setCells γ3_4 6 (cells6 L0)) [(γ3_4, lec B (wd L0)), (γ1_0, cells6 n), (γ1_1, zero6), (γ1_2, zero6)] ∧ Below w.heap.size w (w4.setCells γ3_4 6 (cells6 L0))) := ⟨H4.out.1.put 0 (off := 6) (vs := cells6 L0) rfl (Nat.le_of_ble_eq_true rfl), below_setCells _ o3_4.out _ _ _ H4.out.2⟩
  clear H4
  generalize hgw : World.setCells _ _ _ _ = w5 at H5 ⊢
  clear hgw
  refine rest_nil (then_normal (wp_seq ?_))
  refine walk_seqB 1 [.quiet (.int .i64 ((s : Nat) : Int))] H5 ?ho5 ?he5
  case ho5 => exact ak (fun _ => ⟨rfl, fun _ _ => rfl⟩) trivial
  intro _ w6 H6
  clear H5
  refine rest_at (l := [1]) rfl ?_
  refine rest_enter (d := 22) (R := fun vv w' => vv = .tuple #[] ∧ Mm w' [(γ3_4, lec B (wd L1))] ∧ Kp γ3_4 w6 w') rfl rfl rfl (exec_call (args := #[PT γ3_4 0, .int .i64 ((s : Nat) : Int)]) rfl call47 rfl (mpn rfl)) (Calls.mono (CD1.out γ3_4 w6 (H6.out.1.one 0 rfl)) (fun e w2 hh => ⟨_, hh.1, rfl, hh.2⟩)) ?_
  rintro _ w7 ⟨rfl, hn, hp⟩
  have H7 : Hid (Mm w7 [(γ3_4, lec B (wd L1)), (γ1_0, cells6 n), (γ1_1, zero6), (γ1_2, zero6)] ∧ Below w.heap.size w w7) := ⟨H6.out.1.change 0 rfl hp hn, Below.kp H6.out.2 hp o3_4.out H6.out.2.size⟩
  clear hn hp H6
  simp only [Act.put, sa, sz, ss]
  refine rest_nil (then_normal (wp_seq ?_))
  refine walk_seqB 5 [.quiet (PT γ3_4 6), .quiet (N L1), .quiet (.int .i64 ((s : Nat) : Int)), .quiet (.int .i64 (-((s : Nat) : Int))), .call (N o)] H7 ?ho6 ?he6
  case ho6 => exact ak (by refine fun γ => ⟨rfl, fun w' h => ?_⟩; clear h; go_simp) (ak (fun γ => ⟨rfl, fun w' h => ex_load6 h 0 rfl rfl rfl rfl⟩) (ak (fun _ => ⟨rfl, fun _ _ => rfl⟩) (ak (by refine fun γ => ⟨rfl, fun w' h => ?_⟩; clear h; go_simp; rw [IntKind.wrap_i64]; omega) (ak (fun γ => ⟨rfl, fun w' h => ⟨46, #[N L1, .int .i64 (-((s : Nat) : Int))], exec_call rfl call46 rfl (mpn rfl), CO.out w'⟩⟩) trivial))))
  intro _ w8 H8
  clear H7
  refine rest_at (l := [5]) rfl ?_
  refine rest_store rfl rfl rfl (ex_store6 H8.out.1 2 rfl rfl rfl rfl (Nat.le_of_ble_eq_true rfl)) ?_
  have H9 : Hid (Mm (w8.setCells γ1_1 0 (cells6 o)) [(γ3_4, lec B (wd L1)), (γ1_0, cells6 n), (γ1_1, cells6 o), (γ1_2, zero6)] ∧ Below w.heap.size w (w8.setCells γ1_1 0 (cells6 o))) := ⟨H8.out.1.put 2 (off := 0) (vs := cells6 o) rfl (Nat.le_of_ble_eq_true rfl), below_setCells _ o1_1.out _ _ _ H8.out.2⟩
  clear H8
  generalize hgw : World.setCells _ _ _ _ = w9 at H9 ⊢
  clear hgw
  refine rest_nil (then_normal (wp_seq ?_))
  refine walk_seqB 0 [] H9 ?ho7 ?he7
  case ho7 => exact trivial
  intro _ w10 H10
  clear H9
  refine rest_at (l := [0]) rfl ?_
  refine rest_enter (d := 28) (R := fun vv w' => vv = .tuple #[] ∧ Mm w' [(γ3_4, lec B (wd L2))] ∧ Kp γ3_4 w10 w') rfl rfl rfl (exec_call (args := #[PT γ3_4 0, .int .i64 384]) rfl call47 rfl (mpn rfl)) (Calls.mono (CD2.out γ3_4 w10 (H10.out.1.one 0 rfl)) (fun e w2 hh => ⟨_, hh.1, rfl, hh.2⟩)) ?_
  rintro _ w11 ⟨rfl, hn, hp⟩
  have H11 : Hid (Mm w11 [(γ3_4, lec B (wd L2)), (γ1_0, cells6 n), (γ1_1, cells6 o), (γ1_2, zero6)] ∧ Below w.heap.size w w11) := ⟨H10.out.1.change 0 rfl hp hn, Below.kp H10.out.2 hp o3_4.out H10.out.2.size⟩
  clear hn hp H10
  simp only [Act.put, sa, sz, ss]
  refine rest_nil (then_normal (wp_seq ?_))
  refine walk_seqB 5 [.quiet (PT γ3_4 6), .quiet (N L2), .quiet (.int .i64 ((s : Nat) : Int)), .quiet (.int .i64 (-((s : Nat) : Int))), .call (N q)] H11 ?ho8 ?he8
  case ho8 => exact ak (by refine fun γ => ⟨rfl, fun w' h => ?_⟩; clear h; go_simp) (ak (fun γ => ⟨rfl, fun w' h => ex_load6 h 0 rfl rfl rfl rfl⟩) (ak (fun _ => ⟨rfl, fun _ _ => rfl⟩) (ak (by refine fun γ => ⟨rfl, fun w' h => ?_⟩; clear h; go_simp; rw [IntKind.wrap_i64]; omega) (ak (fun γ => ⟨rfl, fun w' h => ⟨46, #[N L2, .int .i64 (-((s : Nat) : Int))], exec_call rfl call46 rfl (mpn rfl), CQ.out w'⟩⟩) trivial))))
  intro _ w12 H12
  clear H11
  refine rest_at (l := [5]) rfl ?_
  refine rest_store rfl rfl rfl (ex_store6 H12.out.1 3 rfl rfl rfl rfl (Nat.le_of_ble_eq_true rfl)) ?_
  have H13 : Hid (Mm (w12.setCells γ1_2 0 (cells6 q)) [(γ3_4, lec B (wd L2)), (γ1_0, cells6 n), (γ1_1, cells6 o), (γ1_2, cells6 q)] ∧ Below w.heap.size w (w12.setCells γ1_2 0 (cells6 q))) := ⟨H12.out.1.put 3 (off := 0) (vs := cells6 q) rfl (Nat.le_of_ble_eq_true rfl), below_setCells _ o1_2.out _ _ _ H12.out.2⟩
  clear H12
  generalize hgw : World.setCells _ _ _ _ = w13 at H13 ⊢
  clear hgw
  refine rest_nil (then_normal (wp_seq ?_))
  refine walk_put2 (by kernel_rfl) 2 [1] [.quiet (N o), .quiet (N q)] _ ?pre9 ?F9 _ ?hpre9 (fun γ => ?hF9) (by kernel_rfl) rfl trivial (sB H13) ?ho9 ?hla9 ?he9
  case hpre9 => simp only [tk, tz]; rfl
  case hF9 => simp only [fill, Kind.val, Act.put, sa, sz, ss]; rfl
  case ho9 =>
    refine ak (fun γ => ⟨rfl, fun w' h => ex_load6 h 2 rfl rfl rfl rfl⟩) ?_
    refine ak (fun γ => ⟨rfl, fun w' h => ex_load6 h 3 rfl rfl rfl rfl⟩) ?_
    exact trivial
  case hla9 => exact rfl
  intro γ w14 l hM hl
  have H14 := keepB H13 hM.below
  clear hM hl l H13 γ
  have H15 : Hid (Mm (w14.setCells γ1_1 0 (cells6 o)) [(γ3_4, lec B (wd L2)), (γ1_0, cells6 n), (γ1_1, cells6 o), (γ1_2, cells6 q)] ∧ Below w.heap.size w (w14.setCells γ1_1 0 (cells6 o))) := ⟨H14.out.1.put 2 (off := 0) (vs := cells6 o) rfl (Nat.le_of_ble_eq_true rfl), below_setCells _ o1_1.out _ _ _ H14.out.2⟩
  refine ⟨_, ex_store6 H14.out.1 2 rfl rfl rfl rfl (Nat.le_of_ble_eq_true rfl), ⟨⟨_, _, rfl, rfl, rfl, ex_load6 H15.out.1 3 rfl rfl rfl rfl⟩, trivial⟩, ?_⟩
  clear H14
  generalize hgw : World.setCells _ _ _ _ = w15 at H15 ⊢
  clear hgw
  refine rest_at (l := [3]) rfl ?_
  refine rest_store rfl rfl rfl (ex_store6 H15.out.1 3 rfl rfl rfl rfl (Nat.le_of_ble_eq_true rfl)) ?_
  have H16 : Hid (Mm (w15.setCells γ1_2 0 (cells6 q)) [(γ3_4, lec B (wd L2)), (γ1_0, cells6 n), (γ1_1, cells6 o), (γ1_2, cells6 q)] ∧ Below w.heap.size w (w15.setCells γ1_2 0 (cells6 q))) := ⟨H15.out.1.put 3 (off := 0) (vs := cells6 q) rfl (Nat.le_of_ble_eq_true rfl), below_setCells _ o1_2.out _ _ _ H15.out.2⟩
  clear H15
  generalize hgw : World.setCells _ _ _ _ = w16 at H16 ⊢
  clear hgw
  refine rest_nil (then_normal (wp_ret ?_))
  repeat (first | refine then_ret ?_ | refine block_ret ?_)
  have c0 := H16.out.1.get 2 rfl 0 rfl
  have c1 := H16.out.1.get 2 rfl 1 rfl
  have c2 := H16.out.1.get 2 rfl 2 rfl
  have c3 := H16.out.1.get 2 rfl 3 rfl
  have c4 := H16.out.1.get 2 rfl 4 rfl
  have c5 := H16.out.1.get 2 rfl 5 rfl
  have c1_0 := H16.out.1.get 3 rfl 0 rfl
  have c1_1 := H16.out.1.get 3 rfl 1 rfl
  have c1_2 := H16.out.1.get 3 rfl 2 rfl
  have c1_3 := H16.out.1.get 3 rfl 3 rfl
  have c1_4 := H16.out.1.get 3 rfl 4 rfl
  have c1_5 := H16.out.1.get 3 rfl 5 rfl
  refine bodyPost_ret (v := .tuple #[N o, N q]) (by simp [results, Tryd.results26, go_sem, *]) rfl ?_
  exact ⟨rfl, H16.out.2⟩
end Rg
end Go.Proofs.YtfmjfgkgoenhnaaDoor
end
section
namespace Go.Proofs.YtfmjfgkgoenhnaaDoor
open Go.RowKit
namespace Rg
theorem lead_facts {n : Nat} (ok : Ok n) : ∃ l s, l = bl n ∧ l ≤ 384 ∧ s = 384 - l ∧ s < 384 ∧ n * 2 ^ s < big ∧ big < n * 2 ^ s + n * 2 ^ s := by
  have h0 : n ≠ 0 := by have := ok.three; omega
  have h1 := bl_lt n
  have h2 := bl_le n h0
  have h3 := bl_pos n h0
  have h4 := len_ok ok
  have hl : bl n ≤ 382 := by omega
  refine ⟨bl n, 384 - bl n, rfl, by omega, rfl, by omega, ?_, ?_⟩
  · obtain ⟨m, hm, e⟩ := big_pow
    have hs : 64 * m = bl n + (384 - bl n) := by omega
    rw [e, hs, Nat.pow_add]
    exact Nat.mul_lt_mul_of_pos_right h1 (Nat.two_pow_pos _)
  · obtain ⟨m, hm, e⟩ := big_pow
    have hs : 64 * m = (bl n - 1) + 1 + (384 - bl n) := by omega
    have hne : 2 ^ (bl n - 1) ≠ n := by
      intro h
      rcases Nat.lt_or_ge (bl n - 1) 1 with g | g
      · have : bl n - 1 = 0 := by omega
        rw [this, Nat.pow_zero] at h
        have := ok.three; omega
      · obtain ⟨k, hk⟩ : ∃ k, bl n - 1 = k + 1 := ⟨bl n - 1 - 1, by omega⟩
        rw [hk, Nat.pow_succ] at h
        have := ok.odd; omega
    have hlt : 2 ^ (bl n - 1) < n := by omega
    have h5 := Nat.mul_lt_mul_of_pos_right hlt (Nat.two_pow_pos (384 - bl n))
    rw [e, hs, Nat.pow_add, Nat.pow_succ, Nat.mul_right_comm]
    omega
theorem powersOf_any {n : Nat} (ok : Ok n) (w : World) : Calls Tryd.prog 26 #[N n] w fun e w' => e = .returned (.tuple #[N (big % n), N (big * big % n)]) ∧ Below w.heap.size w w' := by
  obtain ⟨l, s, hl, hl2, hs, hs2, hB, hB2⟩ := lead_facts ok
  have cb := fun w => shift_up n s hs2 w
  rw [Nat.mod_eq_of_lt hB] at cb
  have hBp : 0 < n * 2 ^ s := by omega
  have cl := fun w => len_any n ok.big w
  rw [← hl] at cl
  obtain ⟨B, hBe⟩ : ∃ B, B = n * 2 ^ s := ⟨_, rfl⟩
  rw [← hBe] at cb hB hB2 hBp
  have cs := fun w => sub_any 0 B big_pos2 hB w
  rw [Nat.zero_add, Nat.mod_eq_of_lt (show big - B < big by omega)] at cs
  have hL0 : big - B < B := by omega
  have hmod : big % B = big - B := by
    rw [Nat.mod_eq_sub_mod (by omega), Nat.mod_eq_of_lt hL0]
  have d1 := fun g w hm => doubleL_any g B (big - B) s (by omega) hB hL0 w hm
  have e1 : (big - B) * 2 ^ s % B = big % n * 2 ^ s := by
    rw [← hmod, Nat.mul_mod, Nat.mod_mod, ← Nat.mul_mod, hBe, Nat.mul_mod_mul_right]
  rw [e1] at d1
  have hp := Nat.two_pow_pos s
  have hL1 : big % n * 2 ^ s < B := by
    rw [hBe]; exact Nat.mul_lt_mul_of_pos_right (Nat.mod_lt _ ok.pos) hp
  obtain ⟨k, hk⟩ : ∃ k : Nat, k = 384 := ⟨_, rfl⟩
  have d2 := fun g w hm => doubleL_any g B (big % n * 2 ^ s) k (by omega) hB hL1 w hm
  have e2 : big % n * 2 ^ s * 2 ^ k % B = big * big % n * 2 ^ s := by
    rw [pow_is k (by omega), Nat.mul_right_comm, hBe, Nat.mul_mod_mul_right, Nat.mul_mod, Nat.mod_mod, ← Nat.mul_mod]
  rw [e2] at d2
  have hL2 : big * big % n * 2 ^ s < B := by
    rw [hBe]; exact Nat.mul_lt_mul_of_pos_right (Nat.mod_lt _ ok.pos) hp
  have ek : ((k : Nat) : Int) = 384 := by omega
  rw [ek] at d2
  have co := fun w => shift_neg' (big % n * 2 ^ s) s (by omega) hs2 w
  have cq := fun w => shift_neg' (big * big % n * 2 ^ s) s (by omega) hs2 w
  rw [Nat.mul_div_cancel _ hp] at co cq
  exact powersOf_gen n l s B 0 (big - B) _ _ _ _ _ rfl hl2 hs cl cb cs d1 co d2 cq w
set_option maxRecDepth 100000 in
theorem new_1 (n : Nat) (hr : (wd n 0).tmod 2 = 0) (w : World) :
    Calls Tryd.prog 4 #[N n] w fun e w' => e = .returned (.tuple #[.pointer none, .int .i64 2]) ∧ Below w.heap.size w w' := by
  have H0 : Hid (_ ∧ _) := ⟨Mm.nil w, Below.refl w.heap.size w⟩
  go_enter Tryd.func4, Tryd.ntmps4
  refine wp_seq ?_
  refine walk_seqA 3 [.made (cells6 n) 24, .quiet (.pointer none), .quiet (.int .i64 0)] (sB H0) ?ho1 ?he1
  case ho1 => exact ak (fun γ => ⟨rfl, fun w' => ex_box6 rfl rfl⟩) (ak (fun _ => ⟨rfl, fun _ _ => rfl⟩) (ak (fun _ => ⟨rfl, fun _ _ => rfl⟩) trivial))
  intro γ w1 l hM hl
  have H1 : Hid (Mm w1 [(γ 0, cells6 n)] ∧ _) := growB H0 hM (Nat.le_refl _) hl [0] rfl (by decide)
  have o1_0 := ownB H0 hM (Nat.le_refl _) hl (i := 0) rfl
  clear hM hl l
  generalize γ 0 = γ1_0 at H1 o1_0 ⊢
  clear γ
  refine rest0 rfl (then_normal (wp_seq (wp_seq ?_)))
  refine walk_anyB 14 [.quiet (PT γ1_0 0), .quiet (.int .u64 (wd n 0)), .quiet (.int .u64 0), .quiet (.bool true), .quiet (.bool true), .gone, .gone, .gone, .quiet (.bool true), .quiet (.bool true), .gone, .gone, .gone, .quiet (.bool true)] H1 ?ho2 ?he2
  case ho2 => exact ak (by refine fun γ => ⟨rfl, fun w' h => ?_⟩; clear h; go_simp) (ak (fun γ => ⟨rfl, fun w' h => ex_load1 h 0 rfl rfl rfl rfl⟩) (ak (by refine fun γ => ⟨rfl, fun w' h => ?_⟩; clear h; go_simp) (ak (by refine fun γ => ⟨rfl, fun w' h => ?_⟩; clear h; go_simp) (ak (fun _ => ⟨rfl, fun _ _ => rfl⟩) (ak (fun γ => rfl) (ak (fun γ => rfl) (ak (fun γ => rfl) (ak (by refine fun γ => ⟨rfl, fun w' h => ?_⟩; clear h; go_simp) (ak (fun _ => ⟨rfl, fun _ _ => rfl⟩) (ak (fun γ => rfl) (ak (fun γ => rfl) (ak (fun γ => rfl) (ak (by refine fun γ => ⟨rfl, fun w' h => ?_⟩; clear h; go_simp) trivial)))))))))))))
  intro _ w2 H2
  clear H1
  refine rest0 rfl (then_normal (wp_cond_true rfl (wp_seq ?_)))
  refine walk_seqB 2 [.quiet (.pointer none), .quiet (.int .i64 2)] H2 ?ho3 ?he3
  case ho3 => exact ak (fun _ => ⟨rfl, fun _ _ => rfl⟩) (ak (fun _ => ⟨rfl, fun _ _ => rfl⟩) trivial)
  intro _ w3 H3
  clear H2
  refine rest0 rfl (then_normal (wp_ret ?_))
  repeat (first | refine then_ret ?_ | refine block_ret ?_)
  refine bodyPost_ret (v := .tuple #[.pointer none, .int .i64 2]) (by simp [results, Tryd.results4, go_sem, *]) rfl ?_
  exact ⟨rfl, H3.out.2⟩
set_option maxRecDepth 100000 in
theorem new_2 (n : Nat) (hr : (wd n 0).tmod 2 = 1)
    (e1 : ∀ w, (Op.equalIn 10000 24 (N n) (N 1)).run Tryd.prog w = .ok true w)
    (c29 : ∀ w, Calls Tryd.prog 23 #[.int .u64 1] w fun e w' => e = .returned (N 1) ∧ Below w.heap.size w w') (w : World) :
    Calls Tryd.prog 4 #[N n] w fun e w' => e = .returned (.tuple #[.pointer none, .int .i64 2]) ∧ Below w.heap.size w w' := by
  have H0 : Hid (_ ∧ _) := ⟨Mm.nil w, Below.refl w.heap.size w⟩
  have C29 : Hid _ := c29
  clear c29
  go_enter Tryd.func4, Tryd.ntmps4
  refine wp_seq ?_
  refine walk_seqA 3 [.made (cells6 n) 24, .quiet (.pointer none), .quiet (.int .i64 0)] (sB H0) ?ho1 ?he1
  case ho1 => exact ak (fun γ => ⟨rfl, fun w' => ex_box6 rfl rfl⟩) (ak (fun _ => ⟨rfl, fun _ _ => rfl⟩) (ak (fun _ => ⟨rfl, fun _ _ => rfl⟩) trivial))
  intro γ w1 l hM hl
  have H1 : Hid (Mm w1 [(γ 0, cells6 n)] ∧ _) := growB H0 hM (Nat.le_refl _) hl [0] rfl (by decide)
  have o1_0 := ownB H0 hM (Nat.le_refl _) hl (i := 0) rfl
  clear hM hl l
  generalize γ 0 = γ1_0 at H1 o1_0 ⊢
  clear γ
  refine rest0 rfl (then_normal (wp_seq (wp_seq ?_)))
  refine walk_anyB 14 [.quiet (PT γ1_0 0), .quiet (.int .u64 (wd n 0)), .quiet (.int .u64 1), .quiet (.bool false), .quiet (.bool false), .quiet (N n), .call (N 1), .quiet (.bool true), .quiet (.bool true), .quiet (.bool true), .gone, .gone, .gone, .quiet (.bool true)] H1 ?ho2 ?he2
  case ho2 => exact ak (by refine fun γ => ⟨rfl, fun w' h => ?_⟩; clear h; go_simp) (ak (fun γ => ⟨rfl, fun w' h => ex_load1 h 0 rfl rfl rfl rfl⟩) (ak (by refine fun γ => ⟨rfl, fun w' h => ?_⟩; clear h; go_simp) (ak (by refine fun γ => ⟨rfl, fun w' h => ?_⟩; clear h; go_simp) (ak (fun _ => ⟨rfl, fun _ _ => rfl⟩) (ak (fun γ => ⟨rfl, fun w' h => ex_load6 h 0 rfl rfl rfl rfl⟩) (ak (fun γ => ⟨rfl, fun w' h => ⟨23, #[.int .u64 1], exec_call rfl call23 rfl (mpn rfl), C29.out w'⟩⟩) (ak (fun γ => ⟨rfl, fun w' _ => exec_eq6 e1 rfl rfl rfl⟩) (ak (by refine fun γ => ⟨rfl, fun w' h => ?_⟩; clear h; go_simp) (ak (fun _ => ⟨rfl, fun _ _ => rfl⟩) (ak (fun γ => rfl) (ak (fun γ => rfl) (ak (fun γ => rfl) (ak (by refine fun γ => ⟨rfl, fun w' h => ?_⟩; clear h; go_simp) trivial)))))))))))))
  intro _ w2 H2
  clear H1
  refine rest0 rfl (then_normal (wp_cond_true rfl (wp_seq ?_)))
  refine walk_seqB 2 [.quiet (.pointer none), .quiet (.int .i64 2)] H2 ?ho3 ?he3
  case ho3 => exact ak (fun _ => ⟨rfl, fun _ _ => rfl⟩) (ak (fun _ => ⟨rfl, fun _ _ => rfl⟩) trivial)
  intro _ w3 H3
  clear H2
  refine rest0 rfl (then_normal (wp_ret ?_))
  repeat (first | refine then_ret ?_ | refine block_ret ?_)
  refine bodyPost_ret (v := .tuple #[.pointer none, .int .i64 2]) (by simp [results, Tryd.results4, go_sem, *]) rfl ?_
  exact ⟨rfl, H3.out.2⟩
set_option maxRecDepth 100000 in
theorem new_3 (n : Nat) (L : Int) (hr : (wd n 0).tmod 2 = 1)
    (e1 : ∀ w, (Op.equalIn 10000 24 (N n) (N 1)).run Tryd.prog w = .ok false w) (hL : (382 : Int) < L)
    (c29 : ∀ w, Calls Tryd.prog 23 #[.int .u64 1] w fun e w' => e = .returned (N 1) ∧ Below w.heap.size w w')
    (c33 : ∀ w, Calls Tryd.prog 24 #[N n] w fun e w' => e = .returned (.int .i64 L) ∧ Below w.heap.size w w') (w : World) :
    Calls Tryd.prog 4 #[N n] w fun e w' => e = .returned (.tuple #[.pointer none, .int .i64 2]) ∧ Below w.heap.size w w' := by
  have H0 : Hid (_ ∧ _) := ⟨Mm.nil w, Below.refl w.heap.size w⟩
  have C29 : Hid _ := c29
  have C33 : Hid _ := c33
  clear c29 c33
  go_enter Tryd.func4, Tryd.ntmps4
  refine wp_seq ?_
  refine walk_seqA 3 [.made (cells6 n) 24, .quiet (.pointer none), .quiet (.int .i64 0)] (sB H0) ?ho1 ?he1
  case ho1 => exact ak (fun γ => ⟨rfl, fun w' => ex_box6 rfl rfl⟩) (ak (fun _ => ⟨rfl, fun _ _ => rfl⟩) (ak (fun _ => ⟨rfl, fun _ _ => rfl⟩) trivial))
  intro γ w1 l hM hl
  have H1 : Hid (Mm w1 [(γ 0, cells6 n)] ∧ _) := growB H0 hM (Nat.le_refl _) hl [0] rfl (by decide)
  have o1_0 := ownB H0 hM (Nat.le_refl _) hl (i := 0) rfl
  clear hM hl l
  generalize γ 0 = γ1_0 at H1 o1_0 ⊢
  clear γ
  refine rest0 rfl (then_normal (wp_seq (wp_seq ?_)))
  refine walk_anyB 14 [.quiet (PT γ1_0 0), .quiet (.int .u64 (wd n 0)), .quiet (.int .u64 1), .quiet (.bool false), .quiet (.bool false), .quiet (N n), .call (N 1), .quiet (.bool false), .quiet (.bool false), .quiet (.bool false), .quiet (N n), .call (.int .i64 L), .quiet (.bool true), .quiet (.bool true)] H1 ?ho2 ?he2
  case ho2 => exact ak (by refine fun γ => ⟨rfl, fun w' h => ?_⟩; clear h; go_simp) (ak (fun γ => ⟨rfl, fun w' h => ex_load1 h 0 rfl rfl rfl rfl⟩) (ak (by refine fun γ => ⟨rfl, fun w' h => ?_⟩; clear h; go_simp) (ak (by refine fun γ => ⟨rfl, fun w' h => ?_⟩; clear h; go_simp) (ak (fun _ => ⟨rfl, fun _ _ => rfl⟩) (ak (fun γ => ⟨rfl, fun w' h => ex_load6 h 0 rfl rfl rfl rfl⟩) (ak (fun γ => ⟨rfl, fun w' h => ⟨23, #[.int .u64 1], exec_call rfl call23 rfl (mpn rfl), C29.out w'⟩⟩) (ak (fun γ => ⟨rfl, fun w' _ => exec_eq6 e1 rfl rfl rfl⟩) (ak (by refine fun γ => ⟨rfl, fun w' h => ?_⟩; clear h; go_simp) (ak (fun _ => ⟨rfl, fun _ _ => rfl⟩) (ak (fun γ => ⟨rfl, fun w' h => ex_load6 h 0 rfl rfl rfl rfl⟩) (ak (fun γ => ⟨rfl, fun w' h => ⟨24, #[N n], exec_call rfl call24 rfl (mpn rfl), C33.out w'⟩⟩) (ak (by refine fun γ => ⟨rfl, fun w' h => ?_⟩; clear h; go_simp) (ak (by refine fun γ => ⟨rfl, fun w' h => ?_⟩; clear h; go_simp) trivial)))))))))))))
  intro _ w2 H2
  clear H1
  refine rest0 rfl (then_normal (wp_cond_true rfl (wp_seq ?_)))
  refine walk_seqB 2 [.quiet (.pointer none), .quiet (.int .i64 2)] H2 ?ho3 ?he3
  case ho3 => exact ak (fun _ => ⟨rfl, fun _ _ => rfl⟩) (ak (fun _ => ⟨rfl, fun _ _ => rfl⟩) trivial)
  intro _ w3 H3
  clear H2
  refine rest0 rfl (then_normal (wp_ret ?_))
  repeat (first | refine then_ret ?_ | refine block_ret ?_)
  refine bodyPost_ret (v := .tuple #[.pointer none, .int .i64 2]) (by simp [results, Tryd.results4, go_sem, *]) rfl ?_
  exact ⟨rfl, H3.out.2⟩
set_option maxRecDepth 100000 in
theorem new_4 (n o s : Nat) (L : Int) (hr : (wd n 0).tmod 2 = 1)
    (e1 : ∀ w, (Op.equalIn 10000 24 (N n) (N 1)).run Tryd.prog w = .ok false w) (hL : ¬ (382 : Int) < L)
    (c29 : ∀ w, Calls Tryd.prog 23 #[.int .u64 1] w fun e w' => e = .returned (N 1) ∧ Below w.heap.size w w')
    (c33 : ∀ w, Calls Tryd.prog 24 #[N n] w fun e w' => e = .returned (.int .i64 L) ∧ Below w.heap.size w w')
    (c34 : ∀ w, Calls Tryd.prog 25 #[.int .u64 (wd n 0)] w fun e w' => e = .returned (.int .u64 (wrapZ (wd n 0))) ∧ Below w.heap.size w w')
    (c35 : ∀ w, Calls Tryd.prog 26 #[N n] w fun e w' => e = .returned (.tuple #[N o, N s]) ∧ Below w.heap.size w w') (w : World) :
    Calls Tryd.prog 4 #[N n] w fun e w' => Below w.heap.size w w' ∧ ∃ g, e = .returned (.tuple #[PT g 0, .int .i64 0]) ∧ w.heap.size ≤ g ∧ g < w'.heap.size ∧ Blk w' g (modx n o s) := by
  have H0 : Hid (_ ∧ _) := ⟨Mm.nil w, Below.refl w.heap.size w⟩
  have C29 : Hid _ := c29
  have C33 : Hid _ := c33
  have C34 : Hid _ := c34
  have C35 : Hid _ := c35
  clear c29 c33 c34 c35
  go_enter Tryd.func4, Tryd.ntmps4
  refine wp_seq ?_
  refine walk_seqA 3 [.made (cells6 n) 24, .quiet (.pointer none), .quiet (.int .i64 0)] (sB H0) ?ho1 ?he1
  case ho1 => exact ak (fun γ => ⟨rfl, fun w' => ex_box6 rfl rfl⟩) (ak (fun _ => ⟨rfl, fun _ _ => rfl⟩) (ak (fun _ => ⟨rfl, fun _ _ => rfl⟩) trivial))
  intro γ w1 l hM hl
  have H1 : Hid (Mm w1 [(γ 0, cells6 n)] ∧ _) := growB H0 hM (Nat.le_refl _) hl [0] rfl (by decide)
  have o1_0 := ownB H0 hM (Nat.le_refl _) hl (i := 0) rfl
  clear hM hl l
  generalize γ 0 = γ1_0 at H1 o1_0 ⊢
  clear γ
  refine rest0 rfl (then_normal (wp_seq (wp_seq ?_)))
  refine walk_anyB 14 [.quiet (PT γ1_0 0), .quiet (.int .u64 (wd n 0)), .quiet (.int .u64 1), .quiet (.bool false), .quiet (.bool false), .quiet (N n), .call (N 1), .quiet (.bool false), .quiet (.bool false), .quiet (.bool false), .quiet (N n), .call (.int .i64 L), .quiet (.bool false), .quiet (.bool false)] H1 ?ho2 ?he2
  case ho2 => exact ak (by refine fun γ => ⟨rfl, fun w' h => ?_⟩; clear h; go_simp) (ak (fun γ => ⟨rfl, fun w' h => ex_load1 h 0 rfl rfl rfl rfl⟩) (ak (by refine fun γ => ⟨rfl, fun w' h => ?_⟩; clear h; go_simp) (ak (by refine fun γ => ⟨rfl, fun w' h => ?_⟩; clear h; go_simp) (ak (fun _ => ⟨rfl, fun _ _ => rfl⟩) (ak (fun γ => ⟨rfl, fun w' h => ex_load6 h 0 rfl rfl rfl rfl⟩) (ak (fun γ => ⟨rfl, fun w' h => ⟨23, #[.int .u64 1], exec_call rfl call23 rfl (mpn rfl), C29.out w'⟩⟩) (ak (fun γ => ⟨rfl, fun w' _ => exec_eq6 e1 rfl rfl rfl⟩) (ak (by refine fun γ => ⟨rfl, fun w' h => ?_⟩; clear h; go_simp) (ak (fun _ => ⟨rfl, fun _ _ => rfl⟩) (ak (fun γ => ⟨rfl, fun w' h => ex_load6 h 0 rfl rfl rfl rfl⟩) (ak (fun γ => ⟨rfl, fun w' h => ⟨24, #[N n], exec_call rfl call24 rfl (mpn rfl), C33.out w'⟩⟩) (ak (by refine fun γ => ⟨rfl, fun w' h => ?_⟩; clear h; go_simp) (ak (by refine fun γ => ⟨rfl, fun w' h => ?_⟩; clear h; go_simp) trivial)))))))))))))
  intro _ w2 H2
  clear H1
  refine rest0 rfl (then_normal (wp_cond_false rfl ?_))
  refine wp_skip (then_normal (wp_seq ?_))
  refine walk_anyA 6 [.quiet (N n), .quiet (PT γ1_0 0), .quiet (.int .u64 (wd n 0)), .call (.int .u64 (wrapZ (wd n 0))), .quiet (modv n 0 0), .made (modx n 0 0) 42] (sB H2) ?ho3 ?he3
  case ho3 => exact ak (fun γ => ⟨rfl, fun w' h => ex_load6 h 0 rfl rfl rfl rfl⟩) (ak (by refine fun γ => ⟨rfl, fun w' h => ?_⟩; clear h; go_simp) (ak (fun γ => ⟨rfl, fun w' h => ex_load1 h 0 rfl rfl rfl rfl⟩) (ak (fun γ => ⟨rfl, fun w' h => ⟨25, #[.int .u64 (wd n 0)], exec_call rfl call25 rfl (mpn rfl), C34.out w'⟩⟩) (ak (fun γ => ⟨rfl, fun w' _ => ex_build39 rfl rfl rfl⟩) (ak (fun γ => ⟨rfl, fun w' => ex_box39 rfl rfl⟩) trivial)))))
  intro γ w3 l hM hl
  have H3 : Hid (Mm w3 [(γ 5, modx n 0 0), (γ1_0, cells6 n)] ∧ _) := growB H2 hM (Nat.le_refl _) hl [5] rfl (by decide)
  have o3_5 := ownB H2 hM (Nat.le_refl _) hl (i := 5) rfl
  clear hM hl l H2
  generalize γ 5 = γ3_5 at H3 o3_5 ⊢
  clear γ
  refine rest_at (l := [6]) rfl ?_
  refine rest_set (d := 4) rfl rfl rfl rfl ?_
  simp only [Act.put, sa, sz, ss]
  refine rest_nil (then_normal (wp_seq ?_))
  refine walk_seqB 9 [.quiet (PT γ3_5 0), .quiet (PT γ3_5 0), .quiet (N n), .call (.tuple #[N o, N s]), .quiet (.tuple #[N o, N s]), .quiet (N o), .quiet (N s), .quiet (PT γ3_5 0), .quiet (PT γ3_5 7)] H3 ?ho4 ?he4
  case ho4 => exact ak (fun _ => ⟨rfl, fun _ _ => rfl⟩) (ak (fun _ => ⟨rfl, fun _ _ => rfl⟩) (ak (fun γ => ⟨rfl, fun w' h => ex_load6 h 1 rfl rfl rfl rfl⟩) (ak (fun γ => ⟨rfl, fun w' h => ⟨26, #[N n], exec_call rfl call26 rfl (mpn rfl), C35.out w'⟩⟩) (ak (fun _ => ⟨rfl, fun _ _ => rfl⟩) (ak (by refine fun γ => ⟨rfl, fun w' h => ?_⟩; clear h; go_simp) (ak (by refine fun γ => ⟨rfl, fun w' h => ?_⟩; clear h; go_simp) (ak (by refine fun γ => ⟨rfl, fun w' h => ?_⟩; clear h; go_simp) (ak (by refine fun γ => ⟨rfl, fun w' h => ?_⟩; clear h; go_simp) trivial))))))))
  intro _ w4 H4
  clear H3
  refine rest_at (l := [9, 10, 11, 12]) rfl ?_
  refine rest_store rfl rfl rfl (ex_store6 H4.out.1 0 rfl rfl rfl rfl (Nat.le_of_ble_eq_true rfl)) ?_
  have H5 : Hid (Mm (w4.setCells γ3_5 7 (cells6 o)) [(γ3_5, modx n o 0), (γ1_0, cells6 n)] ∧ Below w.heap.size w (w4.setCells γ3_5 7 (cells6 o))) := ⟨H4.out.1.put 0 (off := 7) (vs := cells6 o) rfl (Nat.le_of_ble_eq_true rfl), below_setCells _ o3_5.out _ _ _ H4.out.2⟩
  clear H4
  generalize hgw : World.setCells _ _ _ _ = w5 at H5 ⊢
  clear hgw
  refine rest_set (d := 34) (v := PT γ3_5 0) (w' := w5) rfl rfl rfl (by go_simp) ?_
  simp only [Act.put, sa, sz, ss]
  refine rest_set (d := 35) (v := PT γ3_5 13) (w' := w5) rfl rfl rfl (by go_simp) ?_
  simp only [Act.put, sa, sz, ss]
  refine rest_store rfl rfl rfl (ex_store6 H5.out.1 0 rfl rfl rfl rfl (Nat.le_of_ble_eq_true rfl)) ?_
  have H6 : Hid (Mm (w5.setCells γ3_5 13 (cells6 s)) [(γ3_5, modx n o s), (γ1_0, cells6 n)] ∧ Below w.heap.size w (w5.setCells γ3_5 13 (cells6 s))) := ⟨H5.out.1.put 0 (off := 13) (vs := cells6 s) rfl (Nat.le_of_ble_eq_true rfl), below_setCells _ o3_5.out _ _ _ H5.out.2⟩
  clear H5
  generalize hgw : World.setCells _ _ _ _ = w6 at H6 ⊢
  clear hgw
  refine rest_nil (then_normal (wp_seq ?_))
  refine walk_seqB 3 [.quiet (PT γ3_5 0), .quiet (PT γ3_5 0), .quiet (.int .i64 0)] H6 ?ho5 ?he5
  case ho5 => exact ak (fun _ => ⟨rfl, fun _ _ => rfl⟩) (ak (fun _ => ⟨rfl, fun _ _ => rfl⟩) (ak (fun _ => ⟨rfl, fun _ _ => rfl⟩) trivial))
  intro _ w7 H7
  clear H6
  refine rest0 rfl (then_normal (wp_ret ?_))
  repeat (first | refine then_ret ?_ | refine block_ret ?_)
  refine bodyPost_ret (v := .tuple #[PT γ3_5 0, .int .i64 0]) (by simp [results, Tryd.results4, go_sem, *]) rfl ?_
  exact ⟨H7.out.2, γ3_5, rfl, o3_5.out, H7.out.1.lt (List.mem_of_getElem? (i := 0) rfl), (H7.out.1.blk _ (List.mem_of_getElem? (i := 0) rfl)).2⟩
theorem new_ok {n : Nat} (ok : Ok n) (w : World) : Calls Tryd.prog 4 #[N n] w fun e w' => Below w.heap.size w w' ∧ ∃ g, e = .returned (.tuple #[PT g 0, .int .i64 0]) ∧ w.heap.size ≤ g ∧ g < w'.heap.size ∧ Blk w' g (modc n) := by
  have hw := word_mod n
  rw [ok.odd] at hw
  have e1 := fun w => run_eqN n 1 ok.big (small_big 1 (by decide)) w
  rw [decide_eq_false (by have := ok.three; omega)] at e1
  exact new_4 n (big % n) (big * big % n) _ hw e1 (len_ok ok) (fun w => of_any 1 (by decide) w) (fun w => len_any n ok.big w) (fun w => (wrapOf_any (wd n 0) w).mono fun e w' ⟨h1, h2⟩ => ⟨h1, h2 ▸ Below.refl _ _⟩) (fun w => powersOf_any ok w) w
theorem new_bad {n : Nat} (hn : n < big) (bad : ¬ Ok n) (w : World) : Calls Tryd.prog 4 #[N n] w fun e w' => e = .returned (.tuple #[.pointer none, .int .i64 2]) ∧ Below w.heap.size w w' := by
  have hw := word_mod n
  by_cases h : n % 2 = 1
  · rw [h] at hw
    have e1 := fun w => run_eqN n 1 hn (small_big 1 (by decide)) w
    by_cases h2 : n = 1
    · rw [decide_eq_true h2] at e1
      exact new_2 n hw e1 (fun w => of_any 1 (by decide) w) w
    · rw [decide_eq_false h2] at e1
      by_cases h3 : (382 : Int) < (bl n : Nat)
      · exact new_3 n _ hw e1 h3 (fun w => of_any 1 (by decide) w) (fun w => len_any n hn w) w
      · exact absurd (ok_len h h2 h3) bad
  · rw [show n % 2 = 0 by omega] at hw
    exact new_1 n hw w
end Rg
end Go.Proofs.YtfmjfgkgoenhnaaDoor
end
section
namespace Go.Proofs.YtfmjfgkgoenhnaaDoor
open Go.RowKit
namespace Rg
/-- The rounds of down. -/
def drun (n wr a : Nat) : Nat → Nat
  | 0 => a
  | k + 1 => (drun n wr a k + mt (drun n wr a k) wr * n) / 18446744073709551616
theorem drun_bd (n wr a : Nat) : ∀ k, drun n wr a k ≤ a / 2 ^ (64 * k) + n
  | 0 => by rw [Nat.mul_zero, Nat.pow_zero, Nat.div_one]; exact Nat.le_add_right _ _
  | k + 1 => by
    have ih := drun_bd n wr a k
    have ht := mt_lt (drun n wr a k) wr
    show (drun n wr a k + mt (drun n wr a k) wr * n) / 18446744073709551616 ≤ _
    rw [pow_step, ← Nat.div_div_eq_div_mul]
    have h1 : mt (drun n wr a k) wr * n ≤ 18446744073709551615 * n := Nat.mul_le_mul (by omega) (Nat.le_refl n)
    generalize mt (drun n wr a k) wr * n = p at h1
    omega
theorem drun_lt (n wr a : Nat) (ha : a < big) (hn : n < big) : ∀ k, drun n wr a k < big
  | 0 => ha
  | k + 1 => by
    have ih := drun_lt n wr a ha hn k
    have ht := mt_lt (drun n wr a k) wr
    show (drun n wr a k + mt (drun n wr a k) wr * n) / 18446744073709551616 < _
    rw [Nat.div_lt_iff_lt_mul (by decide)]
    have h1 : mt (drun n wr a k) wr * n ≤ 18446744073709551615 * n := Nat.mul_le_mul (by omega) (Nat.le_refl n)
    omega
theorem drun_cg (n wr a : Nat) (h : wr * n % 18446744073709551616 = 18446744073709551615) : ∀ k, Cg n (drun n wr a k * 2 ^ (64 * k)) a
  | 0 => by rw [Nat.mul_zero, Nat.pow_zero, Nat.mul_one]; exact Cg.refl _ _
  | k + 1 => by
    have ih := drun_cg n wr a h k
    have he := mt_even n wr (drun n wr a k) h
    have e : drun n wr a (k + 1) * 18446744073709551616 = drun n wr a k + mt (drun n wr a k) wr * n := by
      show (drun n wr a k + mt (drun n wr a k) wr * n) / 18446744073709551616 * 18446744073709551616 = _
      omega
    rw [pow_step, ← Nat.mul_assoc, Nat.mul_right_comm, e, Nat.add_mul]
    refine Cg.trans (b := drun n wr a k * 2 ^ (64 * k) + 0) (Cg.addL _ ?_) (by rw [Nat.add_zero]; exact ih)
    rw [Nat.mul_right_comm]
    exact Cg.zero n _
theorem drun_top (n S t : Nat) (hS : S < big) (hn : n < big) : cc S t n 6 = wn ((S + t * n) / 18446744073709551616) 5 ∨ ¬ (S + t * n) / 18446744073709551616 < big := by
  by_cases hr : (S + t * n) / 18446744073709551616 < big
  · left
    obtain ⟨j, hj⟩ : ∃ j, j = 5 := ⟨5, rfl⟩
    have hb := big_j j hj
    have e6 : cc S t n 6 = cc S t n (j + 1) := by rw [hj]
    rw [← hj, e6]
    have h := wd_last ((S + t * n) / 18446744073709551616) j (by rw [← hb]; exact hr)
    rw [wd_wn] at h
    have h' : wn ((S + t * n) / 18446744073709551616) j = (S + t * n) / 18446744073709551616 / 2 ^ (64 * j) := by omega
    rw [h', Nat.div_div_eq_div_mul, Nat.mul_comm 18446744073709551616, ← pow_step]
    unfold cc
    rw [← hb, Nat.mod_eq_of_lt hS, Nat.mod_eq_of_lt hn]
  · exact Or.inr hr
theorem d_word (Y k : Nat) : wd (Y / 18446744073709551616) k = wd Y (k + 1) := by
  unfold wd
  rw [Nat.div_div_eq_div_mul, Nat.mul_comm 18446744073709551616, ← pow_step]
set_option maxHeartbeats 2000000 in
set_option maxRecDepth 100000 in
theorem down_any (g n o s a : Nat) (ok : Ok n) (ha : a < big) (w : World) (hm : Mm w [(g, modx n o s)]) :
    Calls Tryd.prog 35 #[PT g 0, N a] w fun e w' => e = .returned (N (drun n (wrapN n) a 6)) ∧ Below w.heap.size w w' := by
  have H0 : Hid (_ ∧ _) := ⟨hm, Below.refl w.heap.size w⟩
  clear hm
  have HA : Hid _ := ha
  clear ha
  go_enter Tryd.func35, Tryd.ntmps35
  refine wp_seq ?_
  refine walk_seqA 2 [.made (cells6 a) 24, .made zero6 24] (sB H0) ?ho1 ?he1
  case ho1 => exact ak (fun γ => ⟨rfl, fun w' => ex_box6 rfl rfl⟩) (ak (fun γ => ⟨rfl, fun w' => exec_made6 rfl⟩) trivial)
  intro γ w1 l hM hl
  have H1 : Hid (Mm w1 [(γ 0, cells6 a), (γ 1, zero6), (g, modx n o s)] ∧ _) := growB H0 hM (Nat.le_refl _) hl [0, 1] rfl (by decide)
  have o1_0 := ownB H0 hM (Nat.le_refl _) hl (i := 0) rfl
  have o1_1 := ownB H0 hM (Nat.le_refl _) hl (i := 1) rfl
  clear hM hl l
  generalize γ 0 = γ1_0 at H1 o1_0 ⊢
  generalize γ 1 = γ1_1 at H1 o1_1 ⊢
  clear γ
  refine rest0 rfl (then_normal (wp_seq (wp_seq ?_)))
  refine walk_seqB 1 [.quiet (.int .i64 0)] H1 ?ho2 ?he2
  case ho2 => exact ak (fun _ => ⟨rfl, fun _ _ => rfl⟩) trivial
  intro _ w2 H2
  clear H1
  refine rest0 rfl (then_normal (wp_block ?_))
  refine loop_ghost (α := Nat) (fun i a' w' => ∃ s0 : Nat → Value, a' = ⟨#[PT g 0, N a, undef, PT γ1_0 0, PT γ1_1 0, s0 5, s0 6, s0 7, s0 8, .int .i64 ((i : Nat) : Int), s0 10, s0 11, s0 12, s0 13, s0 14, s0 15, s0 16, s0 17, s0 18, s0 19, s0 20, s0 21, s0 22, s0 23, s0 24, s0 25, s0 26, s0 27, s0 28, s0 29, s0 30, s0 31, s0 32, s0 33, s0 34, s0 35, s0 36, s0 37, s0 38, s0 39, s0 40, s0 41, s0 42, s0 43, s0 44, s0 45, s0 46, s0 47, s0 48, s0 49, s0 50, s0 51, s0 52, s0 53, s0 54, undef], []⟩ ∧ (Mm w' [(γ1_0, cells6 (drun n (wrapN n) a i)), (γ1_1, zero6), (g, modx n o s)] ∧ Below w.heap.size w w') ∧ i ≤ 6) (fun i => 6 - i) 0 ?st0 ?rd0
  case st0 => exact ⟨(slotfn [undef, undef, undef, undef, undef, undef, undef, undef, undef, undef, undef, undef, undef, undef, undef, undef, undef, undef, undef, undef, undef, undef, undef, undef, undef, undef, undef, undef, undef, undef, undef, undef, undef, undef, undef, undef, undef, undef, undef, undef, undef, undef, undef, undef, undef, undef, undef, undef, undef, undef, undef, undef, undef, undef, undef]), rfl, ⟨H2.out.1.at0 rfl, H2.out.2⟩, by omega⟩
  intro i a' w3 hI
  obtain ⟨s0, rfl, hMB, hk0⟩ := hI
  have H3 : Hid (_ ∧ _) := hMB
  clear hMB H2
  by_cases hlt : i < 6
  · have hrd : True := trivial
    clear hrd
    have hS2 := drun_lt n (wrapN n) a HA.out ok.big i
    have hZ2 := drun_lt n (wrapN n) a HA.out ok.big (i + 1)
    obtain ⟨S, hS⟩ : ∃ S, S = drun n (wrapN n) a i := ⟨_, rfl⟩
    obtain ⟨t, ht⟩ : ∃ t, t = mt S (wrapN n) := ⟨_, rfl⟩
    obtain ⟨Y, hY⟩ : ∃ Y, Y = S + t * n := ⟨_, rfl⟩
    obtain ⟨Z, hZ⟩ : ∃ Z, Z = drun n (wrapN n) a (i + 1) := ⟨_, rfl⟩
    have hZ1 : Z = Y / 18446744073709551616 := by rw [hZ, hY, ht, hS]; rfl
    have htl : t < 18446744073709551616 := by rw [ht]; exact mt_lt _ _
    rw [← hS] at hS2
    rw [← hZ] at hZ2
    have e3 : IntKind.u64.wrap (wd S 0 * wrapZ (wd n 0)) = (t : Nat) := by
      rw [IntKind.wrap_u64, ← wrapN_cast, ht, wd_wn]
      unfold mt wn
      rw [Nat.mul_zero, Nat.pow_zero, Nat.div_one, ← Int.natCast_mul]; rfl
    have e5 : ((cc S t n 6 : Nat) : Int) = wd Z 5 := by
      rcases drun_top n S t hS2 ok.big with h | h
      · rw [← hY, ← hZ1] at h
        rw [wd_wn, ← h]
      · rw [← hY, ← hZ1] at h
        exact absurd hZ2 h
    have e6 : ∀ k, k < 5 → wd Z k = wd Y (k + 1) := fun k _ => by rw [hZ1, d_word]
    have cB : ∀ m, ∀ w, Calls Tryd.prog 51 #[.int .u64 ((t : Nat) : Int), .int .u64 (wd n m), .int .u64 (wd S m), .int .u64 ((cc S t n m : Nat) : Int)] w fun e w' => e = .returned (.tuple #[.int .u64 (wd Y m), .int .u64 ((cc S t n (m + 1) : Nat) : Int)]) ∧ Below w.heap.size w w' := fun m w => by
      have h := mulAddM_any ((t : Nat) : Int) (wd n m) (wd S m) ((cc S t n m : Nat) : Int) (Int.natCast_nonneg _) (by omega) (wd_bd _ _).1 (wd_bd _ _).2 (wd_bd _ _).1 (wd_bd _ _).2 (Int.natCast_nonneg _) (by have := cc_lt S t n m htl; omega) w
      rw [cc_lo, cc_hi, ← hY] at h
      exact h.mono fun e w2 ⟨h1, h2⟩ => ⟨h1, h2 ▸ Below.refl _ _⟩
    have cB0 := cB 0
    rw [cc_zero, Int.natCast_zero] at cB0
    have CB : Hid _ := cB
    have CB0 : Hid _ := cB0
    have E6 : Hid _ := e6
    have E5 : Hid _ := e5
    have HZ : Hid _ := hZ
    rw [← hS] at H3
    clear cB cB0 e6 e5 hZ hZ1 hZ2 hS hS2 ht hY htl
    refine wp_seq ?_
    refine walk_seqB 1 [.quiet (.bool true)] H3 ?ho3 ?he3
    case ho3 => exact ak (by refine fun γ => ⟨rfl, fun w' h => ?_⟩; clear h; go_simp <;> omega) trivial
    intro _ w4 H4
    clear H3
    refine rest0 rfl (then_normal (wp_seq ?_))
    refine wp_cond_true rfl (wp_skip ?_)
    refine then_normal (wp_seq ?_)
    refine wp_block (wp_seq ?_)
    refine walk_anyB 8 [.quiet (PT γ1_0 0), .quiet (.int .u64 (wd S 0)), .quiet (PT g 0), .quiet (PT g 0), .quiet (PT g 6), .quiet (.int .u64 (wrapZ (wd n 0))), .quiet (.int .u64 ((t : Nat) : Int)), .quiet (.int .u64 ((t : Nat) : Int))] H4 ?ho4 ?he4
    case ho4 => exact ak (by refine fun γ => ⟨rfl, fun w' h => ?_⟩; clear h; go_simp) (ak (fun γ => ⟨rfl, fun w' h => ex_load1 h 0 rfl rfl rfl rfl⟩) (ak (fun _ => ⟨rfl, fun _ _ => rfl⟩) (ak (by refine fun γ => ⟨rfl, fun w' h => ?_⟩; clear h; go_simp) (ak (by refine fun γ => ⟨rfl, fun w' h => ?_⟩; clear h; go_simp) (ak (fun γ => ⟨rfl, fun w' h => ex_load1 h 2 rfl rfl rfl rfl⟩) (ak (by refine fun γ => ⟨rfl, fun w' h => ?_⟩; clear h; go_simp) (ak (fun _ => ⟨rfl, fun _ _ => rfl⟩) trivial)))))))
    intro _ w5 H5
    clear H4
    refine rest0 rfl (then_normal (wp_seq ?_))
    refine walk_anyB 14 [.quiet (.int .u64 ((t : Nat) : Int)), .quiet (PT g 0), .quiet (PT g 0), .quiet (PT g 0), .quiet (PT g 0), .quiet (.int .u64 (wd n 0)), .quiet (PT γ1_0 0), .quiet (.int .u64 (wd S 0)), .call (.tuple #[.int .u64 (wd Y 0), .int .u64 ((cc S t n (0 + 1) : Nat) : Int)]), .quiet (.tuple #[.int .u64 (wd Y 0), .int .u64 ((cc S t n (0 + 1) : Nat) : Int)]), .quiet (.int .u64 (wd Y 0)), .quiet (.int .u64 ((cc S t n (0 + 1) : Nat) : Int)), .quiet (.int .u64 (wd Y 0)), .quiet (.int .u64 ((cc S t n (0 + 1) : Nat) : Int))] H5 ?ho5 ?he5
    case ho5 => exact ak (fun _ => ⟨rfl, fun _ _ => rfl⟩) (ak (fun _ => ⟨rfl, fun _ _ => rfl⟩) (ak (by refine fun γ => ⟨rfl, fun w' h => ?_⟩; clear h; go_simp) (ak (by refine fun γ => ⟨rfl, fun w' h => ?_⟩; clear h; go_simp) (ak (by refine fun γ => ⟨rfl, fun w' h => ?_⟩; clear h; go_simp) (ak (fun γ => ⟨rfl, fun w' h => ex_load1 h 2 rfl rfl rfl rfl⟩) (ak (by refine fun γ => ⟨rfl, fun w' h => ?_⟩; clear h; go_simp) (ak (fun γ => ⟨rfl, fun w' h => ex_load1 h 0 rfl rfl rfl rfl⟩) (ak (fun γ => ⟨rfl, fun w' h => ⟨51, #[.int .u64 ((t : Nat) : Int), .int .u64 (wd n 0), .int .u64 (wd S 0), .int .u64 0], exec_call rfl call51 rfl (mpn rfl), CB0.out w'⟩⟩) (ak (fun _ => ⟨rfl, fun _ _ => rfl⟩) (ak (by refine fun γ => ⟨rfl, fun w' h => ?_⟩; clear h; go_simp) (ak (by refine fun γ => ⟨rfl, fun w' h => ?_⟩; clear h; go_simp) (ak (fun _ => ⟨rfl, fun _ _ => rfl⟩) (ak (fun _ => ⟨rfl, fun _ _ => rfl⟩) trivial)))))))))))))
    intro _ w6 H6
    clear H5
    refine rest0 rfl (then_normal (wp_seq (wp_seq ?_)))
    refine walk_seqB 1 [.quiet (.int .i64 1)] H6 ?ho6 ?he6
    case ho6 => exact ak (fun _ => ⟨rfl, fun _ _ => rfl⟩) trivial
    intro _ w7 H7
    clear H6
    refine rest0 rfl (then_normal (wp_block ?_))
    refine loop_ghost (α := Nat) (fun m a' w' => ∃ s2 : Nat → Value, a' = ⟨#[PT g 0, N a, undef, PT γ1_0 0, PT γ1_1 0, .int .u64 ((t : Nat) : Int), .int .u64 (wd Y 0), .int .u64 ((cc S t n (m + 1) : Nat) : Int), .int .i64 ((m + 1 : Nat) : Int), .int .i64 ((i : Nat) : Int), .bool true, PT γ1_0 0, .int .u64 (wd S 0), PT g 0, PT g 0, PT g 6, .int .u64 (wrapZ (wd n 0)), .int .u64 ((t : Nat) : Int), .tuple #[.int .u64 (wd Y 0), .int .u64 ((cc S t n (0 + 1) : Nat) : Int)], .int .u64 ((t : Nat) : Int), PT g 0, PT g 0, PT g 0, PT g 0, .int .u64 (wd n 0), PT γ1_0 0, .int .u64 (wd S 0), .tuple #[.int .u64 (wd Y 0), .int .u64 ((cc S t n (0 + 1) : Nat) : Int)], .int .u64 (wd Y 0), .int .u64 ((cc S t n (0 + 1) : Nat) : Int), s2 30, s2 31, s2 32, s2 33, s2 34, s2 35, s2 36, s2 37, s2 38, s2 39, s2 40, s2 41, s2 42, s2 43, s2 44, s2 45, s2 46, s2 47, s2 48, s2 49, s2 50, s2 51, s0 52, s0 53, s0 54, undef], []⟩ ∧ (Mm w' [(γ1_0, rowc (inn S Y (m + 1))), (γ1_1, zero6), (g, modx n o s)] ∧ Below w.heap.size w w') ∧ m ≤ 5) (fun m => 5 - m) 0 ?st2 ?rd2
    case st2 => exact ⟨(slotfn [undef, undef, undef, undef, undef, undef, undef, undef, undef, undef, undef, undef, undef, undef, undef, undef, undef, undef, undef, undef, undef, undef, undef, undef, undef, undef, undef, undef, undef, undef, s0 30, s0 31, s0 32, s0 33, s0 34, s0 35, s0 36, s0 37, s0 38, s0 39, s0 40, s0 41, s0 42, s0 43, s0 44, s0 45, s0 46, s0 47, s0 48, s0 49, s0 50, s0 51]), rfl, ⟨H7.out.1, H7.out.2⟩, by omega⟩
    intro m a' w8 hI
    obtain ⟨s2, rfl, hMB, hk2⟩ := hI
    have H8 : Hid (_ ∧ _) := hMB
    clear hMB H7
    by_cases hlt2 : m < 5
    · have hrd : True := trivial
      clear hrd
      have hm6 : m + 1 < 6 := by omega
      refine wp_seq (wp_seq ?_)
      refine walk_seqB 2 [.quiet (.int .i64 ((m + 1 : Nat) : Int)), .quiet (.bool true)] H8 ?ho7 ?he7
      case ho7 => exact ak (fun _ => ⟨rfl, fun _ _ => rfl⟩) (ak (by refine fun γ => ⟨rfl, fun w' h => ?_⟩; clear h; go_simp <;> omega) trivial)
      intro _ w9 H9
      clear H8
      refine rest0 rfl (then_normal (wp_cond_true rfl ?_))
      refine wp_skip (then_normal ?_)
      refine wp_seq (wp_block ?_)
      refine walk_put (by kernel_rfl) 18 [16] [.quiet (.int .i64 ((m + 1 : Nat) : Int)), .quiet (.int .i64 ((m : Nat) : Int)), .quiet (.int .u64 ((t : Nat) : Int)), .quiet (PT g 0), .quiet (.int .i64 ((m + 1 : Nat) : Int)), .quiet (PT g 0), .quiet (PT g 0), .quiet (PT g (0 + (m + 1))), .quiet (.int .u64 (wd n (m + 1))), .quiet (.int .i64 ((m + 1 : Nat) : Int)), .quiet (PT γ1_0 (0 + (m + 1))), .quiet (.int .u64 (wd S (m + 1))), .quiet (.int .u64 ((cc S t n (m + 1) : Nat) : Int)), .call (.tuple #[.int .u64 (wd Y (m + 1)), .int .u64 ((cc S t n (m + 1 + 1) : Nat) : Int)]), .quiet (.tuple #[.int .u64 (wd Y (m + 1)), .int .u64 ((cc S t n (m + 1 + 1) : Nat) : Int)]), .quiet (.int .u64 (wd Y (m + 1))), .quiet (.int .u64 ((cc S t n (m + 1 + 1) : Nat) : Int)), .quiet (PT γ1_0 (0 + m))] _ ?pre8 ?F8 _ ?hpre8 (fun γ => ?hF8) (by kernel_rfl) rfl trivial (sB H9) ?ho8 ?hla8 ?he8
      case hpre8 => simp only [tk, tz]; rfl
      case hF8 => simp only [fill, Kind.val, Act.put, sa, sz, ss]; rfl
      case ho8 =>
        refine ak (fun _ => ⟨rfl, fun _ _ => rfl⟩) ?_
        refine ak (by refine fun γ => ⟨rfl, fun w' h => ?_⟩; clear h; go_simp; rw [IntKind.wrap_i64]; omega) ?_
        refine ak (fun _ => ⟨rfl, fun _ _ => rfl⟩) ?_
        refine ak (fun _ => ⟨rfl, fun _ _ => rfl⟩) ?_
        refine ak (fun _ => ⟨rfl, fun _ _ => rfl⟩) ?_
        refine ak (by refine fun γ => ⟨rfl, fun w' h => ?_⟩; clear h; go_simp) ?_
        refine ak (by refine fun γ => ⟨rfl, fun w' h => ?_⟩; clear h; go_simp) ?_
        refine ak (fun γ => ⟨rfl, fun w' _ => ex_indexAddr6 rfl rfl rfl hm6⟩) ?_
        refine ak (fun γ => ⟨rfl, fun w' h => ex_load1 h 2 rfl rfl rfl (modn_at hm6)⟩) ?_
        refine ak (fun _ => ⟨rfl, fun _ _ => rfl⟩) ?_
        refine ak (fun γ => ⟨rfl, fun w' _ => ex_indexAddr6 rfl rfl rfl hm6⟩) ?_
        refine ak (fun γ => ⟨rfl, fun w' h => ex_load1 h 0 rfl rfl rfl (inn_at hm6)⟩) ?_
        refine ak (fun _ => ⟨rfl, fun _ _ => rfl⟩) ?_
        refine ak (fun γ => ⟨rfl, fun w' h => ⟨51, #[.int .u64 ((t : Nat) : Int), .int .u64 (wd n (m + 1)), .int .u64 (wd S (m + 1)), .int .u64 ((cc S t n (m + 1) : Nat) : Int)], exec_call rfl call51 rfl (mpn rfl), CB.out (m + 1) w'⟩⟩) ?_
        refine ak (fun _ => ⟨rfl, fun _ _ => rfl⟩) ?_
        refine ak (by refine fun γ => ⟨rfl, fun w' h => ?_⟩; clear h; go_simp) ?_
        refine ak (by refine fun γ => ⟨rfl, fun w' h => ?_⟩; clear h; go_simp) ?_
        refine ak (fun γ => ⟨rfl, fun w' _ => ex_indexAddr6 rfl rfl rfl (Nat.lt_of_succ_lt hm6)⟩) ?_
        exact trivial
      case hla8 => exact ⟨⟨_, _, rfl, rfl, fun γ => ⟨rfl, fun w' => by first | rfl | go_simp⟩⟩, trivial⟩
      intro γ w10 l hM hl
      have H10 := keepB H9 hM.below
      clear hM hl l H9 γ
      refine ⟨_, ex_storeI H10.out.1 0 rfl rfl Tryd.sizeOf22 rfl rfl (row_bd (Nat.lt_of_succ_lt hm6)), ?_⟩
      have H11 : Hid (Mm (w10.setCells γ1_0 (0 + m) [.int .u64 (wd Y (m + 1))]) [(γ1_0, rowc (inn S Y (m + 1 + 1))), (γ1_1, zero6), (g, modx n o s)] ∧ Below w.heap.size w (w10.setCells γ1_0 (0 + m) [.int .u64 (wd Y (m + 1))])) := ⟨by
        have h := H10.out.1.put 0 (off := (0 + m)) (vs := [.int .u64 (wd Y (m + 1))]) rfl (row_bd (Nat.lt_of_succ_lt hm6))
        rw [patch_row (Nat.lt_of_succ_lt hm6), inn_step rfl] at h
        exact h, below_setCells _ o1_0.out _ _ _ H10.out.2⟩
      clear H10
      generalize hgw : World.setCells _ _ _ _ = w11 at H11 ⊢
      clear hgw
      refine rest_at (l := [19]) rfl ?_
      refine rest_set (d := 7) rfl rfl rfl rfl ?_
      simp only [Act.put, sa, sz, ss]
      refine rest_nil (block_normal (then_normal ?_))
      refine walk_seqB 2 [.quiet (.int .i64 ((m + 1 : Nat) : Int)), .quiet (.int .i64 ((m + 1 + 1 : Nat) : Int))] H11 ?ho9 ?he9
      case ho9 => exact ak (fun _ => ⟨rfl, fun _ _ => rfl⟩) (ak (by refine fun γ => ⟨rfl, fun w' h => ?_⟩; clear h; go_simp; rw [IntKind.wrap_i64]; omega) trivial)
      intro _ w12 H12
      clear H11
      refine rest_at (l := [2]) rfl ?_
      refine rest_set (d := 8) rfl rfl rfl rfl ?_
      simp only [Act.put, sa, sz, ss]
      refine rest_nil (then_normal ?_)
      exact ⟨m + 1, ⟨(slotfn [undef, undef, undef, undef, undef, undef, undef, undef, undef, undef, undef, undef, undef, undef, undef, undef, undef, undef, undef, undef, undef, undef, undef, undef, undef, undef, undef, undef, undef, undef, .int .i64 ((m + 1 : Nat) : Int), .bool true, .int .i64 ((m + 1 : Nat) : Int), .int .i64 ((m + 1 + 1 : Nat) : Int), .tuple #[.int .u64 (wd Y (m + 1)), .int .u64 ((cc S t n (m + 1 + 1) : Nat) : Int)], .int .i64 ((m + 1 : Nat) : Int), .int .i64 ((m : Nat) : Int), .int .u64 ((t : Nat) : Int), PT g 0, .int .i64 ((m + 1 : Nat) : Int), PT g 0, PT g 0, PT g (0 + (m + 1)), .int .u64 (wd n (m + 1)), .int .i64 ((m + 1 : Nat) : Int), PT γ1_0 (0 + (m + 1)), .int .u64 (wd S (m + 1)), .int .u64 ((cc S t n (m + 1) : Nat) : Int), .tuple #[.int .u64 (wd Y (m + 1)), .int .u64 ((cc S t n (m + 1 + 1) : Nat) : Int)], .int .u64 (wd Y (m + 1)), .int .u64 ((cc S t n (m + 1 + 1) : Nat) : Int), PT γ1_0 (0 + m)]), rfl, ⟨H12.out.1, H12.out.2⟩, by omega⟩, by omega⟩
    have hm5 : m = 5 := by omega
    subst hm5
    refine wp_seq (wp_seq ?_)
    refine walk_seqB 2 [.quiet (.int .i64 ((5 + 1 : Nat) : Int)), .quiet (.bool false)] H8 ?ho10 ?he10
    case ho10 => exact ak (fun _ => ⟨rfl, fun _ _ => rfl⟩) (ak (by refine fun γ => ⟨rfl, fun w' h => ?_⟩; clear h; go_simp <;> omega) trivial)
    intro _ w13 H13
    clear H8
    refine rest0 rfl (then_normal (wp_cond_false rfl ?_))
    refine wp_exit ?_
    repeat refine then_exit ?_
    refine block_exit ?_
    refine then_normal ?_
    refine walk_seqB 2 [.quiet (.int .u64 ((cc S t n (5 + 1) : Nat) : Int)), .quiet (PT γ1_0 5)] H13 ?ho11 ?he11
    case ho11 => exact ak (fun _ => ⟨rfl, fun _ _ => rfl⟩) (ak (by refine fun γ => ⟨rfl, fun w' h => ?_⟩; clear h; go_simp) trivial)
    intro _ w14 H14
    clear H13
    refine rest_at (l := [2]) rfl ?_
    refine rest_store rfl rfl rfl (ex_storeI H14.out.1 0 rfl rfl Tryd.sizeOf22 rfl rfl (Nat.le_of_ble_eq_true rfl)) ?_
    have H15 : Hid (Mm (w14.setCells γ1_0 5 [.int .u64 ((cc S t n (5 + 1) : Nat) : Int)]) [(γ1_0, cells6 Z), (γ1_1, zero6), (g, modx n o s)] ∧ Below w.heap.size w (w14.setCells γ1_0 5 [.int .u64 ((cc S t n (5 + 1) : Nat) : Int)])) := ⟨by
      have h := H14.out.1.put 0 (off := 5) (vs := [.int .u64 ((cc S t n (5 + 1) : Nat) : Int)]) rfl (Nat.le_of_ble_eq_true rfl)
      rw [patch_row5, inn_end E5.out E6.out] at h
      exact h, below_setCells _ o1_0.out _ _ _ H14.out.2⟩
    clear H14
    generalize hgw : World.setCells _ _ _ _ = w15 at H15 ⊢
    clear hgw
    refine rest_nil (block_normal (then_normal ?_))
    refine walk_seqB 1 [.quiet (.int .i64 ((i + 1 : Nat) : Int))] H15 ?ho12 ?he12
    case ho12 => exact ak (by refine fun γ => ⟨rfl, fun w' h => ?_⟩; clear h; go_simp; rw [IntKind.wrap_i64]; omega) trivial
    intro _ w16 H16
    clear H15
    refine rest_at (l := [1]) rfl ?_
    refine rest_set (d := 9) rfl rfl rfl rfl ?_
    simp only [Act.put, sa, sz, ss]
    refine rest_nil (then_normal ?_)
    exact ⟨i + 1, ⟨(slotfn [undef, undef, undef, undef, undef, .int .u64 ((t : Nat) : Int), .int .u64 (wd Y 0), .int .u64 ((cc S t n (5 + 1) : Nat) : Int), .int .i64 ((5 + 1 : Nat) : Int), undef, .bool true, PT γ1_0 0, .int .u64 (wd S 0), PT g 0, PT g 0, PT g 6, .int .u64 (wrapZ (wd n 0)), .int .u64 ((t : Nat) : Int), .tuple #[.int .u64 (wd Y 0), .int .u64 ((cc S t n (0 + 1) : Nat) : Int)], .int .u64 ((t : Nat) : Int), PT g 0, PT g 0, PT g 0, PT g 0, .int .u64 (wd n 0), PT γ1_0 0, .int .u64 (wd S 0), .tuple #[.int .u64 (wd Y 0), .int .u64 ((cc S t n (0 + 1) : Nat) : Int)], .int .u64 (wd Y 0), .int .u64 ((cc S t n (0 + 1) : Nat) : Int), .int .i64 ((5 + 1 : Nat) : Int), .bool false, s2 32, s2 33, s2 34, s2 35, s2 36, s2 37, s2 38, s2 39, s2 40, s2 41, s2 42, s2 43, s2 44, s2 45, s2 46, s2 47, s2 48, s2 49, s2 50, s2 51, .int .u64 ((cc S t n (5 + 1) : Nat) : Int), PT γ1_0 5, .int .i64 ((i + 1 : Nat) : Int)]), rfl, by rw [← HZ.out]; exact H16.out, by omega⟩, by omega⟩
  have hi6 : i = 6 := by omega
  subst hi6
  refine wp_seq ?_
  refine walk_seqB 1 [.quiet (.bool false)] H3 ?ho13 ?he13
  case ho13 => exact ak (by refine fun γ => ⟨rfl, fun w' h => ?_⟩; clear h; go_simp <;> omega) trivial
  intro _ w17 H17
  clear H3
  refine rest0 rfl (then_normal (wp_seq (wp_cond_false rfl ?_)))
  refine wp_exit ?_
  repeat refine then_exit ?_
  refine block_exit ?_
  refine then_normal (wp_seq ?_)
  refine walk_seqB 1 [.quiet (N (drun n (wrapN n) a 6))] H17 ?ho14 ?he14
  case ho14 => exact ak (fun γ => ⟨rfl, fun w' h => ex_load6 h 0 rfl rfl rfl rfl⟩) trivial
  intro _ w18 H18
  clear H17
  refine rest_at (l := [1]) rfl ?_
  refine rest_store rfl rfl rfl (ex_store6 H18.out.1 1 rfl rfl rfl rfl (Nat.le_of_ble_eq_true rfl)) ?_
  have H19 : Hid (Mm (w18.setCells γ1_1 0 (cells6 (drun n (wrapN n) a 6))) [(γ1_0, cells6 (drun n (wrapN n) a 6)), (γ1_1, cells6 (drun n (wrapN n) a 6)), (g, modx n o s)] ∧ Below w.heap.size w (w18.setCells γ1_1 0 (cells6 (drun n (wrapN n) a 6)))) := ⟨H18.out.1.put 1 (off := 0) (vs := cells6 (drun n (wrapN n) a 6)) rfl (Nat.le_of_ble_eq_true rfl), below_setCells _ o1_1.out _ _ _ H18.out.2⟩
  clear H18
  generalize hgw : World.setCells _ _ _ _ = w19 at H19 ⊢
  clear hgw
  refine rest_nil (then_normal (wp_ret ?_))
  repeat (first | refine then_ret ?_ | refine block_ret ?_)
  have c0 := H19.out.1.get 1 rfl 0 rfl
  have c1 := H19.out.1.get 1 rfl 1 rfl
  have c2 := H19.out.1.get 1 rfl 2 rfl
  have c3 := H19.out.1.get 1 rfl 3 rfl
  have c4 := H19.out.1.get 1 rfl 4 rfl
  have c5 := H19.out.1.get 1 rfl 5 rfl
  refine bodyPost_ret (v := N (drun n (wrapN n) a 6)) (by simp [results, Tryd.results35, go_sem, *]) rfl ?_
  exact ⟨rfl, H19.out.2⟩
set_option maxHeartbeats 1000000 in
set_option maxRecDepth 100000 in
theorem wide_1 (g n o s a b d u r : Nat)
    (c0 : ∀ w, Mm w [(g, modx n o s)] → Calls Tryd.prog 29 #[PT g 0] w fun e w' => e = .returned (.bool true) ∧ Below w.heap.size w w')
    (c1 : ∀ w, Mm w [(g, modx n o s)] → Calls Tryd.prog 35 #[PT g 0, N a] w fun e w' => e = .returned (N d) ∧ Below w.heap.size w w')
    (c2 : ∀ w, Calls Tryd.prog 34 #[N b, N d] w fun e w' => e = .returned (.tuple #[N u, .bool false]) ∧ Below w.heap.size w w')
    (c3 : ∀ w, Mm w [(g, modx n o s)] → Calls Tryd.prog 32 #[PT g 0, N u, N s] w fun e w' => e = .returned (N r) ∧ Below w.heap.size w w') (w : World) (hm : Mm w [(g, modx n o s)]) :
    Calls Tryd.prog 9 #[PT g 0, N a, N b] w fun e w' => e = .returned (N r) ∧ Below w.heap.size w w' := by
  have H0 : Hid (_ ∧ _) := ⟨hm, Below.refl w.heap.size w⟩
  clear hm
  have C0 : Hid _ := c0
  have C1 : Hid _ := c1
  have C2 : Hid _ := c2
  have C3 : Hid _ := c3
  clear c0 c1 c2 c3
  go_enter Tryd.func9, Tryd.ntmps9
  refine wp_seq ?_
  refine walk_seqA 3 [.made (cells6 a) 24, .made (cells6 b) 24, .made zero6 24] (sB H0) ?ho1 ?he1
  case ho1 => exact ak (fun γ => ⟨rfl, fun w' => ex_box6 rfl rfl⟩) (ak (fun γ => ⟨rfl, fun w' => ex_box6 rfl rfl⟩) (ak (fun γ => ⟨rfl, fun w' => exec_made6 rfl⟩) trivial))
  intro γ w1 l hM hl
  have H1 : Hid (Mm w1 [(γ 0, cells6 a), (γ 1, cells6 b), (γ 2, zero6), (g, modx n o s)] ∧ _) := growB H0 hM (Nat.le_refl _) hl [0, 1, 2] rfl (by decide)
  have o1_0 := ownB H0 hM (Nat.le_refl _) hl (i := 0) rfl
  have o1_1 := ownB H0 hM (Nat.le_refl _) hl (i := 1) rfl
  have o1_2 := ownB H0 hM (Nat.le_refl _) hl (i := 2) rfl
  clear hM hl l
  generalize γ 0 = γ1_0 at H1 o1_0 ⊢
  generalize γ 1 = γ1_1 at H1 o1_1 ⊢
  generalize γ 2 = γ1_2 at H1 o1_2 ⊢
  clear γ
  refine rest0 rfl (then_normal (wp_seq (wp_seq ?_)))
  refine walk_seqB 3 [.quiet (PT g 0), .call (.bool true), .quiet (.bool false)] H1 ?ho2 ?he2
  case ho2 => exact ak (fun _ => ⟨rfl, fun _ _ => rfl⟩) (ak (fun γ => ⟨rfl, fun w' h => ⟨29, #[PT g 0], exec_call rfl call29 rfl (mpn rfl), C0.out w' (h.one 3 rfl)⟩⟩) (ak (by refine fun γ => ⟨rfl, fun w' h => ?_⟩; clear h; go_simp) trivial))
  intro _ w2 H2
  clear H1
  refine rest0 rfl (then_normal (wp_cond_false rfl ?_))
  refine wp_skip (then_normal (wp_seq ?_))
  refine walk_anyA 11 [.quiet (N b), .quiet (PT g 0), .quiet (N a), .call (N d), .call (.tuple #[N u, .bool false]), .quiet (.tuple #[N u, .bool false]), .quiet (N u), .quiet (.bool false), .made zero6 24, .laid 8 zero6 (cells6 u), .quiet (.bool false)] (sB H2) ?ho3 ?he3 (hL := ?hL3)
  case hL3 => exact ⟨⟨_, rfl⟩, trivial⟩
  case ho3 => exact ak (fun γ => ⟨rfl, fun w' h => ex_load6 h 1 rfl rfl rfl rfl⟩) (ak (fun _ => ⟨rfl, fun _ _ => rfl⟩) (ak (fun γ => ⟨rfl, fun w' h => ex_load6 h 0 rfl rfl rfl rfl⟩) (ak (fun γ => ⟨rfl, fun w' h => ⟨35, #[PT g 0, N a], exec_call rfl call35 rfl (mpn rfl), C1.out w' (h.one 3 rfl)⟩⟩) (ak (fun γ => ⟨rfl, fun w' h => ⟨34, #[N b, N d], exec_call rfl call34 rfl (mpn rfl), C2.out w'⟩⟩) (ak (fun _ => ⟨rfl, fun _ _ => rfl⟩) (ak (by refine fun γ => ⟨rfl, fun w' h => ?_⟩; clear h; go_simp) (ak (by refine fun γ => ⟨rfl, fun w' h => ?_⟩; clear h; go_simp) (ak (fun γ => ⟨rfl, fun w' => exec_made6 rfl⟩) (ak (fun γ => ⟨rfl, rfl, rfl, fun w' h => exec_laid6 h rfl rfl rfl⟩) (ak (fun _ => ⟨rfl, fun _ _ => rfl⟩) trivial))))))))))
  intro γ w3 l hM hl
  have H3 : Hid (Mm w3 [(γ 8, cells6 u), (γ1_0, cells6 a), (γ1_1, cells6 b), (γ1_2, zero6), (g, modx n o s)] ∧ _) := growB H2 hM (Nat.le_refl _) hl [8] rfl (by decide)
  have o3_8 := ownB H2 hM (Nat.le_refl _) hl (i := 8) rfl
  clear hM hl l H2
  generalize γ 8 = γ3_8 at H3 o3_8 ⊢
  clear γ
  refine rest0 rfl (then_normal (wp_seq (wp_seq ?_)))
  refine walk_seqB 1 [.quiet (.bool false)] H3 ?ho4 ?he4
  case ho4 => exact ak (fun _ => ⟨rfl, fun _ _ => rfl⟩) trivial
  intro _ w4 H4
  clear H3
  refine rest0 rfl (then_normal (wp_cond_false rfl ?_))
  refine wp_skip (then_normal (wp_seq ?_))
  refine walk_anyB 7 [.quiet (PT g 0), .quiet (N u), .quiet (PT g 0), .quiet (PT g 0), .quiet (PT g 13), .quiet (N s), .call (N r)] H4 ?ho5 ?he5
  case ho5 => exact ak (fun _ => ⟨rfl, fun _ _ => rfl⟩) (ak (fun γ => ⟨rfl, fun w' h => ex_load6 h 0 rfl rfl rfl rfl⟩) (ak (fun _ => ⟨rfl, fun _ _ => rfl⟩) (ak (by refine fun γ => ⟨rfl, fun w' h => ?_⟩; clear h; go_simp) (ak (by refine fun γ => ⟨rfl, fun w' h => ?_⟩; clear h; go_simp) (ak (fun γ => ⟨rfl, fun w' h => ex_load6 h 4 rfl rfl rfl rfl⟩) (ak (fun γ => ⟨rfl, fun w' h => ⟨32, #[PT g 0, N u, N s], exec_call rfl call32 rfl (mpn rfl), C3.out w' (h.one 4 rfl)⟩⟩) trivial))))))
  intro _ w5 H5
  clear H4
  refine rest_at (l := [7]) rfl ?_
  refine rest_store rfl rfl rfl (ex_store6 H5.out.1 3 rfl rfl rfl rfl (Nat.le_of_ble_eq_true rfl)) ?_
  have H6 : Hid (Mm (w5.setCells γ1_2 0 (cells6 r)) [(γ3_8, cells6 u), (γ1_0, cells6 a), (γ1_1, cells6 b), (γ1_2, cells6 r), (g, modx n o s)] ∧ Below w.heap.size w (w5.setCells γ1_2 0 (cells6 r))) := ⟨H5.out.1.put 3 (off := 0) (vs := cells6 r) rfl (Nat.le_of_ble_eq_true rfl), below_setCells _ o1_2.out _ _ _ H5.out.2⟩
  clear H5
  generalize hgw : World.setCells _ _ _ _ = w6 at H6 ⊢
  clear hgw
  refine rest_nil (then_normal (wp_ret ?_))
  repeat (first | refine then_ret ?_ | refine block_ret ?_)
  have c0 := H6.out.1.get 3 rfl 0 rfl
  have c1 := H6.out.1.get 3 rfl 1 rfl
  have c2 := H6.out.1.get 3 rfl 2 rfl
  have c3 := H6.out.1.get 3 rfl 3 rfl
  have c4 := H6.out.1.get 3 rfl 4 rfl
  have c5 := H6.out.1.get 3 rfl 5 rfl
  refine bodyPost_ret (v := N r) (by simp [results, Tryd.results9, go_sem, *]) rfl ?_
  exact ⟨rfl, H6.out.2⟩
set_option maxHeartbeats 1000000 in
set_option maxRecDepth 100000 in
theorem wide_2 (g n o s a b d u r x : Nat) (cx : Bool)
    (c0 : ∀ w, Mm w [(g, modx n o s)] → Calls Tryd.prog 29 #[PT g 0] w fun e w' => e = .returned (.bool true) ∧ Below w.heap.size w w')
    (c1 : ∀ w, Mm w [(g, modx n o s)] → Calls Tryd.prog 35 #[PT g 0, N a] w fun e w' => e = .returned (N d) ∧ Below w.heap.size w w')
    (c2 : ∀ w, Calls Tryd.prog 34 #[N b, N d] w fun e w' => e = .returned (.tuple #[N u, .bool true]) ∧ Below w.heap.size w w')
    (c3 : ∀ w, Calls Tryd.prog 31 #[N u, N n] w fun e w' => e = .returned (.tuple #[N x, .bool cx]) ∧ Below w.heap.size w w')
    (c4 : ∀ w, Mm w [(g, modx n o s)] → Calls Tryd.prog 32 #[PT g 0, N x, N s] w fun e w' => e = .returned (N r) ∧ Below w.heap.size w w') (w : World) (hm : Mm w [(g, modx n o s)]) :
    Calls Tryd.prog 9 #[PT g 0, N a, N b] w fun e w' => e = .returned (N r) ∧ Below w.heap.size w w' := by
  have H0 : Hid (_ ∧ _) := ⟨hm, Below.refl w.heap.size w⟩
  clear hm
  have C0 : Hid _ := c0
  have C1 : Hid _ := c1
  have C2 : Hid _ := c2
  have C3 : Hid _ := c3
  have C4 : Hid _ := c4
  clear c0 c1 c2 c3 c4
  go_enter Tryd.func9, Tryd.ntmps9
  refine wp_seq ?_
  refine walk_seqA 3 [.made (cells6 a) 24, .made (cells6 b) 24, .made zero6 24] (sB H0) ?ho1 ?he1
  case ho1 => exact ak (fun γ => ⟨rfl, fun w' => ex_box6 rfl rfl⟩) (ak (fun γ => ⟨rfl, fun w' => ex_box6 rfl rfl⟩) (ak (fun γ => ⟨rfl, fun w' => exec_made6 rfl⟩) trivial))
  intro γ w1 l hM hl
  have H1 : Hid (Mm w1 [(γ 0, cells6 a), (γ 1, cells6 b), (γ 2, zero6), (g, modx n o s)] ∧ _) := growB H0 hM (Nat.le_refl _) hl [0, 1, 2] rfl (by decide)
  have o1_0 := ownB H0 hM (Nat.le_refl _) hl (i := 0) rfl
  have o1_1 := ownB H0 hM (Nat.le_refl _) hl (i := 1) rfl
  have o1_2 := ownB H0 hM (Nat.le_refl _) hl (i := 2) rfl
  clear hM hl l
  generalize γ 0 = γ1_0 at H1 o1_0 ⊢
  generalize γ 1 = γ1_1 at H1 o1_1 ⊢
  generalize γ 2 = γ1_2 at H1 o1_2 ⊢
  clear γ
  refine rest0 rfl (then_normal (wp_seq (wp_seq ?_)))
  refine walk_seqB 3 [.quiet (PT g 0), .call (.bool true), .quiet (.bool false)] H1 ?ho2 ?he2
  case ho2 => exact ak (fun _ => ⟨rfl, fun _ _ => rfl⟩) (ak (fun γ => ⟨rfl, fun w' h => ⟨29, #[PT g 0], exec_call rfl call29 rfl (mpn rfl), C0.out w' (h.one 3 rfl)⟩⟩) (ak (by refine fun γ => ⟨rfl, fun w' h => ?_⟩; clear h; go_simp) trivial))
  intro _ w2 H2
  clear H1
  refine rest0 rfl (then_normal (wp_cond_false rfl ?_))
  refine wp_skip (then_normal (wp_seq ?_))
  refine walk_anyA 11 [.quiet (N b), .quiet (PT g 0), .quiet (N a), .call (N d), .call (.tuple #[N u, .bool true]), .quiet (.tuple #[N u, .bool true]), .quiet (N u), .quiet (.bool true), .made zero6 24, .laid 8 zero6 (cells6 u), .quiet (.bool true)] (sB H2) ?ho3 ?he3 (hL := ?hL3)
  case hL3 => exact ⟨⟨_, rfl⟩, trivial⟩
  case ho3 => exact ak (fun γ => ⟨rfl, fun w' h => ex_load6 h 1 rfl rfl rfl rfl⟩) (ak (fun _ => ⟨rfl, fun _ _ => rfl⟩) (ak (fun γ => ⟨rfl, fun w' h => ex_load6 h 0 rfl rfl rfl rfl⟩) (ak (fun γ => ⟨rfl, fun w' h => ⟨35, #[PT g 0, N a], exec_call rfl call35 rfl (mpn rfl), C1.out w' (h.one 3 rfl)⟩⟩) (ak (fun γ => ⟨rfl, fun w' h => ⟨34, #[N b, N d], exec_call rfl call34 rfl (mpn rfl), C2.out w'⟩⟩) (ak (fun _ => ⟨rfl, fun _ _ => rfl⟩) (ak (by refine fun γ => ⟨rfl, fun w' h => ?_⟩; clear h; go_simp) (ak (by refine fun γ => ⟨rfl, fun w' h => ?_⟩; clear h; go_simp) (ak (fun γ => ⟨rfl, fun w' => exec_made6 rfl⟩) (ak (fun γ => ⟨rfl, rfl, rfl, fun w' h => exec_laid6 h rfl rfl rfl⟩) (ak (fun _ => ⟨rfl, fun _ _ => rfl⟩) trivial))))))))))
  intro γ w3 l hM hl
  have H3 : Hid (Mm w3 [(γ 8, cells6 u), (γ1_0, cells6 a), (γ1_1, cells6 b), (γ1_2, zero6), (g, modx n o s)] ∧ _) := growB H2 hM (Nat.le_refl _) hl [8] rfl (by decide)
  have o3_8 := ownB H2 hM (Nat.le_refl _) hl (i := 8) rfl
  clear hM hl l H2
  generalize γ 8 = γ3_8 at H3 o3_8 ⊢
  clear γ
  refine rest0 rfl (then_normal (wp_seq (wp_seq ?_)))
  refine walk_seqB 1 [.quiet (.bool true)] H3 ?ho4 ?he4
  case ho4 => exact ak (fun _ => ⟨rfl, fun _ _ => rfl⟩) trivial
  intro _ w4 H4
  clear H3
  refine rest0 rfl (then_normal (wp_cond_true rfl ?_))
  refine walk_put (by kernel_rfl) 9 [8] [.quiet (N u), .quiet (PT g 0), .quiet (PT g 0), .quiet (PT g 0), .quiet (N n), .call (.tuple #[N x, .bool cx]), .quiet (.tuple #[N x, .bool cx]), .quiet (N x), .quiet (.bool cx)] _ ?pre5 ?F5 _ ?hpre5 (fun γ => ?hF5) (by kernel_rfl) rfl trivial (sB H4) ?ho5 ?hla5 ?he5
  case hpre5 => simp only [tk, tz]; rfl
  case hF5 => simp only [fill, Kind.val, Act.put, sa, sz, ss]; rfl
  case ho5 =>
    refine ak (fun γ => ⟨rfl, fun w' h => ex_load6 h 0 rfl rfl rfl rfl⟩) ?_
    refine ak (fun _ => ⟨rfl, fun _ _ => rfl⟩) ?_
    refine ak (by refine fun γ => ⟨rfl, fun w' h => ?_⟩; clear h; go_simp) ?_
    refine ak (by refine fun γ => ⟨rfl, fun w' h => ?_⟩; clear h; go_simp) ?_
    refine ak (fun γ => ⟨rfl, fun w' h => ex_load6 h 4 rfl rfl rfl rfl⟩) ?_
    refine ak (fun γ => ⟨rfl, fun w' h => ⟨31, #[N u, N n], exec_call rfl call31 rfl (mpn rfl), C3.out w'⟩⟩) ?_
    refine ak (fun _ => ⟨rfl, fun _ _ => rfl⟩) ?_
    refine ak (by refine fun γ => ⟨rfl, fun w' h => ?_⟩; clear h; go_simp) ?_
    refine ak (by refine fun γ => ⟨rfl, fun w' h => ?_⟩; clear h; go_simp) ?_
    exact trivial
  case hla5 => exact ⟨⟨_, _, rfl, rfl, fun γ => ⟨rfl, fun w' => by first | rfl | go_simp⟩⟩, trivial⟩
  intro γ w5 l hM hl
  have H5 := keepB H4 hM.below
  clear hM hl l H4 γ
  refine ⟨_, ex_store6 H5.out.1 0 rfl rfl rfl rfl (Nat.le_of_ble_eq_true rfl), ?_⟩
  have H6 : Hid (Mm (w5.setCells γ3_8 0 (cells6 x)) [(γ3_8, cells6 x), (γ1_0, cells6 a), (γ1_1, cells6 b), (γ1_2, zero6), (g, modx n o s)] ∧ Below w.heap.size w (w5.setCells γ3_8 0 (cells6 x))) := ⟨H5.out.1.put 0 (off := 0) (vs := cells6 x) rfl (Nat.le_of_ble_eq_true rfl), below_setCells _ o3_8.out _ _ _ H5.out.2⟩
  clear H5
  generalize hgw : World.setCells _ _ _ _ = w6 at H6 ⊢
  clear hgw
  refine rest0 rfl (then_normal (wp_seq ?_))
  refine walk_anyB 7 [.quiet (PT g 0), .quiet (N x), .quiet (PT g 0), .quiet (PT g 0), .quiet (PT g 13), .quiet (N s), .call (N r)] H6 ?ho6 ?he6
  case ho6 => exact ak (fun _ => ⟨rfl, fun _ _ => rfl⟩) (ak (fun γ => ⟨rfl, fun w' h => ex_load6 h 0 rfl rfl rfl rfl⟩) (ak (fun _ => ⟨rfl, fun _ _ => rfl⟩) (ak (by refine fun γ => ⟨rfl, fun w' h => ?_⟩; clear h; go_simp) (ak (by refine fun γ => ⟨rfl, fun w' h => ?_⟩; clear h; go_simp) (ak (fun γ => ⟨rfl, fun w' h => ex_load6 h 4 rfl rfl rfl rfl⟩) (ak (fun γ => ⟨rfl, fun w' h => ⟨32, #[PT g 0, N x, N s], exec_call rfl call32 rfl (mpn rfl), C4.out w' (h.one 4 rfl)⟩⟩) trivial))))))
  intro _ w7 H7
  clear H6
  refine rest_at (l := [7]) rfl ?_
  refine rest_store rfl rfl rfl (ex_store6 H7.out.1 3 rfl rfl rfl rfl (Nat.le_of_ble_eq_true rfl)) ?_
  have H8 : Hid (Mm (w7.setCells γ1_2 0 (cells6 r)) [(γ3_8, cells6 x), (γ1_0, cells6 a), (γ1_1, cells6 b), (γ1_2, cells6 r), (g, modx n o s)] ∧ Below w.heap.size w (w7.setCells γ1_2 0 (cells6 r))) := ⟨H7.out.1.put 3 (off := 0) (vs := cells6 r) rfl (Nat.le_of_ble_eq_true rfl), below_setCells _ o1_2.out _ _ _ H7.out.2⟩
  clear H7
  generalize hgw : World.setCells _ _ _ _ = w8 at H8 ⊢
  clear hgw
  refine rest_nil (then_normal (wp_ret ?_))
  repeat (first | refine then_ret ?_ | refine block_ret ?_)
  have c0 := H8.out.1.get 3 rfl 0 rfl
  have c1 := H8.out.1.get 3 rfl 1 rfl
  have c2 := H8.out.1.get 3 rfl 2 rfl
  have c3 := H8.out.1.get 3 rfl 3 rfl
  have c4 := H8.out.1.get 3 rfl 4 rfl
  have c5 := H8.out.1.get 3 rfl 5 rfl
  refine bodyPost_ret (v := N r) (by simp [results, Tryd.results9, go_sem, *]) rfl ?_
  exact ⟨rfl, H8.out.2⟩
theorem wideM {n : Nat} (ok : Ok n) {a b x : Nat} (hx : Cg n x (b + drun n (wrapN n) a 6)) : mont n x (big * big % n) = (a + b * big) % n := by
  rw [mont_big ok]
  have h1 := drun_cg n (wrapN n) a (wrapN_spec n ok.odd) 6
  rw [← big_eq] at h1
  have h2 := hx.mulR big
  refine h2.trans ?_
  rw [Nat.add_mul, Nat.add_comm]
  exact h1.addR _
theorem wide_any {g n : Nat} (ok : Ok n) {a b : Nat} (ha : a < big) (hb : b < big) (w : World) (hm : Mm w [(g, modc n)]) : Calls Tryd.prog 9 #[PT g 0, N a, N b] w fun e w' => e = .returned (N ((a + b * big) % n)) ∧ Below w.heap.size w w' := by
  have hd := drun_bd n (wrapN n) a 6
  rw [← big_eq, Nat.div_eq_of_lt ha, Nat.zero_add] at hd
  have cd := fun w hm => down_any g n (big % n) (big * big % n) a ok ha w hm
  have hM := fun x hx => wideM (x := x) (a := a) (b := b) ok hx
  have hdl : drun n (wrapN n) a 6 < big := by have := ok.big; omega
  generalize drun n (wrapN n) a 6 = d at hd cd hM hdl
  have c := fun w => add_any b d hb hdl w
  have hsq : big * big % n < n := Nat.mod_lt _ ok.pos
  have h3 := ok.top
  by_cases h : big ≤ b + d
  · rw [decide_eq_true h, Nat.mod_eq_sub_mod h, Nat.mod_eq_of_lt (show b + d - big < big by omega)] at c
    have cs := fun w => sub_any (b + d - big) n (by omega) ok.big w
    have e : (b + d - big + big - n) % big = b + d - n := by
      rw [show b + d - big + big - n = b + d - n by omega, Nat.mod_eq_of_lt (by omega)]
    rw [e] at cs
    have cp := fun w hm => product_any g n (big % n) (big * big % n) (b + d - n) (big * big % n) ok (by omega) hsq w hm
    rw [hM (b + d - n) (by
      have : b + d = b + d - n + 1 * n := by omega
      rw [this]
      unfold Cg
      rw [Nat.add_mul_mod_self_right, show b + d - n + 1 * n - n = b + d - n by omega])] at cp
    exact wide_2 g n _ _ a b d _ _ _ _ (fun w hm => madeC ok w hm) cd c cs cp w hm
  · rw [decide_eq_false h, Nat.mod_eq_of_lt (show b + d < big by omega)] at c
    have cp := fun w hm => product_any g n (big % n) (big * big % n) (b + d) (big * big % n) ok (by omega) hsq w hm
    rw [hM (b + d) (Cg.refl _ _)] at cp
    exact wide_1 g n _ _ a b d _ _ (fun w hm => madeC ok w hm) cd c cp w hm
end Rg
end Go.Proofs.YtfmjfgkgoenhnaaDoor
end
section
namespace Go.Proofs.YtfmjfgkgoenhnaaDoor
open Go.RowKit
namespace Rg
end Rg
end Go.Proofs.YtfmjfgkgoenhnaaDoor
end
section
namespace Go.Proofs.YtfmjfgkgoenhnaaDoor
open Go.RowKit
namespace Rg
end Rg
end Go.Proofs.YtfmjfgkgoenhnaaDoor
end
section
namespace Go.Proofs.YtfmjfgkgoenhnaaDoor
open Go.RowKit
namespace Rg
theorem call8 : ∀ args w, (callFunc 8 args).run Tryd.prog w = .ok (.enter 8 args) w := by intro args w; go_simp
theorem call10 : ∀ args w, (callFunc 10 args).run Tryd.prog w = .ok (.enter 10 args) w := by intro args w; go_simp
theorem call12 : ∀ args w, (callFunc 12 args).run Tryd.prog w = .ok (.enter 12 args) w := by intro args w; go_simp
theorem call16 : ∀ args w, (callFunc 16 args).run Tryd.prog w = .ok (.enter 16 args) w := by intro args w; go_simp
theorem call33 : ∀ args w, (callFunc 33 args).run Tryd.prog w = .ok (.enter 33 args) w := by intro args w; go_simp
theorem call38 : ∀ args w, (callFunc 38 args).run Tryd.prog w = .ok (.enter 38 args) w := by intro args w; go_simp
theorem call39 : ∀ args w, (callFunc 39 args).run Tryd.prog w = .ok (.enter 39 args) w := by intro args w; go_simp
theorem call40 : ∀ args w, (callFunc 40 args).run Tryd.prog w = .ok (.enter 40 args) w := by intro args w; go_simp
theorem ex_bor {ρ : Operand → Value} {o : Oper} {x y : Operand} {a b c : Int} {w : World} (he : bits BinOp.or IntKind.u64 a b = c) (ho : o.op = .binOp .or 22 x y 22) (hx : ρ x = .int .u64 a) (hy : ρ y = .int .u64 b) :
    (execOp ρ o).run Tryd.prog w = .ok (.value (.int .u64 c)) w := by
  simp only [execOp, ho, hx, hy]
  clear ho hx hy
  go_simp
theorem ex_build3 {ρ : Operand → Value} {o : Oper} {w : World} {c : Nat} (hc : c = 3) (ho : o.op = .build 24 #[(0, .const (.int .u64 3))]) (hx : ρ (.const (.int .u64 3)) = .int .u64 3) : (execOp ρ o).run Tryd.prog w = .ok (.value (N c)) w := by
  subst hc
  have h1 : wd 3 1 = 0 := wd_small 3 0 (by decide)
  have h2 : wd 3 2 = 0 := wd_small 3 1 (by decide)
  have h3 : wd 3 3 = 0 := wd_small 3 2 (by decide)
  have h4 : wd 3 4 = 0 := wd_small 3 3 (by decide)
  have h5 : wd 3 5 = 0 := wd_small 3 4 (by decide)
  have h0 : wd 3 0 = 3 := wd_small0 3 (by decide)
  unfold N
  rw [h0, h1, h2, h3, h4, h5]
  simp only [execOp, ho]
  clear h0 h1 h2 h3 h4 h5
  go_simp
set_option maxRecDepth 100000 in
theorem rreduce_gen (n a q r : Nat)
    (c0 : ∀ w, Calls Tryd.prog 33 #[N a, N n] w fun e w' => e = .returned (.tuple #[N q, N r, .int .i64 0]) ∧ Below w.heap.size w w') (w : World) :
    Calls Tryd.prog 8 #[N n, N a] w fun e w' => e = .returned (N r) ∧ Below w.heap.size w w' := by
  have H0 : Hid (_ ∧ _) := ⟨Mm.nil w, Below.refl w.heap.size w⟩
  have C0 : Hid _ := c0
  clear c0
  go_enter Tryd.func8, Tryd.ntmps8
  refine wp_seq ?_
  refine walk_seq 3 [.made (cells6 n) 24, .made (cells6 a) 24, .made zero6 24] (fun w' => Mm w' []) ?pre1 ?F1 ?hpre1 (fun γ => ?hF1) (by kernel_rfl) ?hL1 ?hS1 ?ho1 ?he1
  case hpre1 =>
    simp only [List.take_succ_cons, List.take_zero]
    exact rfl
  case hF1 =>
    simp only [fill, Kind.val, Act.put, List.setIfInBounds_toArray, List.set_cons_zero, List.set_cons_succ]
    exact rfl
  case hL1 => exact trivial
  case hS1 => exact fun w' hb => H0.out.1.below hb
  case ho1 =>
    refine AllOk.cons ?_ ?_
    · exact fun γ => ⟨rfl, fun w' => ex_box6 rfl rfl⟩
    refine AllOk.cons ?_ ?_
    · exact fun γ => ⟨rfl, fun w' => ex_box6 rfl rfl⟩
    refine AllOk.cons ?_ ?_
    · exact fun γ => ⟨rfl, fun w' => exec_made6 rfl⟩
    exact trivial
  intro γ w1 l hM hl
  have M1 : Mm w1 [(γ 0, cells6 n), (γ 1, cells6 a), (γ 2, zero6)] := H0.out.1.grow hM (Nat.le_refl _) hl [0, 1, 2] rfl (by decide)
  have B1 : Below w.heap.size w w1 := H0.out.2.trans (hM.below.mono H0.out.2.size)
  have o1_0 : Hid (w.heap.size ≤ γ 0) := Nat.le_trans H0.out.2.size (hM.fin (Nat.le_refl _) hl (i := 0) rfl).2.1
  have o1_1 : Hid (w.heap.size ≤ γ 1) := Nat.le_trans H0.out.2.size (hM.fin (Nat.le_refl _) hl (i := 1) rfl).2.1
  have o1_2 : Hid (w.heap.size ≤ γ 2) := Nat.le_trans H0.out.2.size (hM.fin (Nat.le_refl _) hl (i := 2) rfl).2.1
  clear hM hl l
  generalize γ 0 = γ1_0 at M1 o1_0 ⊢
  generalize γ 1 = γ1_1 at M1 o1_1 ⊢
  generalize γ 2 = γ1_2 at M1 o1_2 ⊢
  clear γ
  have H1 : Hid (_ ∧ _) := ⟨M1, B1⟩
  clear M1 B1
  refine rest_at (l := []) rfl ?_
  refine rest_nil ?_
  refine then_normal ?_
  refine wp_seq ?_
  refine walk_seq 12 [.quiet (N a), .quiet (N n), .call (.tuple #[N q, N r, .int .i64 0]), .quiet (.tuple #[N q, N r, .int .i64 0]), .quiet (N q), .quiet (N r), .quiet (.int .i64 0), .made zero6 24, .made zero6 24, .laid 7 zero6 (cells6 q), .laid 8 zero6 (cells6 r), .quiet (.int .i64 0)] (fun w' => Mm w' [(γ1_0, cells6 n), (γ1_1, cells6 a), (γ1_2, zero6)]) ?pre2 ?F2 ?hpre2 (fun γ => ?hF2) (by kernel_rfl) ?hL2 ?hS2 ?ho2 ?he2
  case hpre2 =>
    simp only [List.take_succ_cons, List.take_zero]
    exact rfl
  case hF2 =>
    simp only [fill, Kind.val, Act.put, List.setIfInBounds_toArray, List.set_cons_zero, List.set_cons_succ]
    exact rfl
  case hL2 => exact ⟨⟨_, rfl⟩, ⟨_, rfl⟩, trivial⟩
  case hS2 => exact fun w' hb => H1.out.1.below hb
  case ho2 =>
    refine AllOk.cons ?_ ?_
    · exact fun γ => ⟨rfl, fun w' h => ex_load6 h 1 rfl rfl rfl rfl⟩
    refine AllOk.cons ?_ ?_
    · exact fun γ => ⟨rfl, fun w' h => ex_load6 h 0 rfl rfl rfl rfl⟩
    refine AllOk.cons ?_ ?_
    · exact fun γ => ⟨rfl, fun w' h => ⟨33, #[N a, N n], exec_call rfl call33 rfl (by simp only [List.map_toArray, List.map_cons, List.map_nil]; rfl), C0.out w'⟩⟩
    refine AllOk.cons ?_ ?_
    · exact fun γ => ⟨rfl, fun w' _ => rfl⟩
    refine AllOk.cons ?_ ?_
    · (refine fun γ => ⟨rfl, fun w' h => ?_⟩; clear h; go_simp)
    refine AllOk.cons ?_ ?_
    · (refine fun γ => ⟨rfl, fun w' h => ?_⟩; clear h; go_simp)
    refine AllOk.cons ?_ ?_
    · (refine fun γ => ⟨rfl, fun w' h => ?_⟩; clear h; go_simp)
    refine AllOk.cons ?_ ?_
    · exact fun γ => ⟨rfl, fun w' => exec_made6 rfl⟩
    refine AllOk.cons ?_ ?_
    · exact fun γ => ⟨rfl, fun w' => exec_made6 rfl⟩
    refine AllOk.cons ?_ ?_
    · exact fun γ => ⟨rfl, rfl, rfl, fun w' h => exec_laid6 h rfl rfl rfl⟩
    refine AllOk.cons ?_ ?_
    · exact fun γ => ⟨rfl, rfl, rfl, fun w' h => exec_laid6 h rfl rfl rfl⟩
    refine AllOk.cons ?_ ?_
    · exact fun γ => ⟨rfl, fun w' _ => rfl⟩
    exact trivial
  intro γ w2 l hM hl
  have M2 : Mm w2 [(γ 7, cells6 q), (γ 8, cells6 r), (γ1_0, cells6 n), (γ1_1, cells6 a), (γ1_2, zero6)] := H1.out.1.grow hM (Nat.le_refl _) hl [7, 8] rfl (by decide)
  have B2 : Below w.heap.size w w2 := H1.out.2.trans (hM.below.mono H1.out.2.size)
  have o2_7 : Hid (w.heap.size ≤ γ 7) := Nat.le_trans H1.out.2.size (hM.fin (Nat.le_refl _) hl (i := 7) rfl).2.1
  have o2_8 : Hid (w.heap.size ≤ γ 8) := Nat.le_trans H1.out.2.size (hM.fin (Nat.le_refl _) hl (i := 8) rfl).2.1
  clear hM hl l H1
  generalize γ 7 = γ2_7 at M2 o2_7 ⊢
  generalize γ 8 = γ2_8 at M2 o2_8 ⊢
  clear γ
  have H2 : Hid (_ ∧ _) := ⟨M2, B2⟩
  clear M2 B2
  refine rest_at (l := []) rfl ?_
  refine rest_nil ?_
  refine then_normal ?_
  refine wp_seq ?_
  refine walk_seq 1 [.quiet (N r)] (fun w' => Mm w' [(γ2_7, cells6 q), (γ2_8, cells6 r), (γ1_0, cells6 n), (γ1_1, cells6 a), (γ1_2, zero6)]) ?pre3 ?F3 ?hpre3 (fun γ => ?hF3) (by kernel_rfl) ?hL3 ?hS3 ?ho3 ?he3
  case hpre3 =>
    simp only [List.take_succ_cons, List.take_zero]
    exact rfl
  case hF3 =>
    simp only [fill, Kind.val, Act.put, List.setIfInBounds_toArray, List.set_cons_zero, List.set_cons_succ]
    exact rfl
  case hL3 => exact trivial
  case hS3 => exact fun w' hb => H2.out.1.below hb
  case ho3 =>
    refine AllOk.cons ?_ ?_
    · exact fun γ => ⟨rfl, fun w' h => ex_load6 h 1 rfl rfl rfl rfl⟩
    exact trivial
  intro γ w3 l hM hl
  have M3 : Mm w3 [(γ2_7, cells6 q), (γ2_8, cells6 r), (γ1_0, cells6 n), (γ1_1, cells6 a), (γ1_2, zero6)] := H2.out.1.grow hM (Nat.le_refl _) hl [] rfl (by decide)
  have B3 : Below w.heap.size w w3 := H2.out.2.trans (hM.below.mono H2.out.2.size)
  clear hM hl l H2
  clear γ
  have H3 : Hid (_ ∧ _) := ⟨M3, B3⟩
  clear M3 B3
  refine rest_at (l := [1]) rfl ?_
  refine rest_store rfl rfl rfl (ex_store6 H3.out.1 4 rfl rfl rfl rfl (Nat.le_of_ble_eq_true rfl)) ?_
  have H4 : Hid (Mm (w3.setCells γ1_2 0 (cells6 r)) [(γ2_7, cells6 q), (γ2_8, cells6 r), (γ1_0, cells6 n), (γ1_1, cells6 a), (γ1_2, cells6 r)] ∧ Below w.heap.size w (w3.setCells γ1_2 0 (cells6 r))) := ⟨H3.out.1.put 4 (off := 0) (vs := cells6 r) rfl (Nat.le_of_ble_eq_true rfl), below_setCells _ o1_2.out _ _ _ H3.out.2⟩
  clear H3
  generalize hgw : World.setCells _ _ _ _ = w4 at H4 ⊢
  clear hgw
  refine rest_nil ?_
  refine then_normal ?_
  refine wp_ret ?_
  repeat (first | refine then_ret ?_ | refine block_ret ?_)
  have c0 := H4.out.1.get 4 rfl 0 rfl
  have c1 := H4.out.1.get 4 rfl 1 rfl
  have c2 := H4.out.1.get 4 rfl 2 rfl
  have c3 := H4.out.1.get 4 rfl 3 rfl
  have c4 := H4.out.1.get 4 rfl 4 rfl
  have c5 := H4.out.1.get 4 rfl 5 rfl
  refine bodyPost_ret (v := N r) (by simp [results, Tryd.results8, go_sem, *]) rfl ?_
  exact ⟨rfl, H4.out.2⟩
set_option maxRecDepth 100000 in
theorem radd_gen (n a b x y u r : Nat)
    (c0 : ∀ w, Calls Tryd.prog 8 #[N n, N a] w fun e w' => e = .returned (N x) ∧ Below w.heap.size w w')
    (c1 : ∀ w, Calls Tryd.prog 8 #[N n, N b] w fun e w' => e = .returned (N y) ∧ Below w.heap.size w w')
    (c2 : ∀ w, Calls Tryd.prog 38 #[N x, N y] w fun e w' => e = .returned (.tuple #[N u, .bool false]) ∧ Below w.heap.size w w')
    (c3 : ∀ w, Calls Tryd.prog 8 #[N n, N u] w fun e w' => e = .returned (N r) ∧ Below w.heap.size w w') (w : World) :
    Calls Tryd.prog 12 #[N n, N a, N b] w fun e w' => e = .returned (N r) ∧ Below w.heap.size w w' := by
  have H0 : Hid (_ ∧ _) := ⟨Mm.nil w, Below.refl w.heap.size w⟩
  have C0 : Hid _ := c0
  have C1 : Hid _ := c1
  have C2 : Hid _ := c2
  have C3 : Hid _ := c3
  clear c0 c1 c2 c3
  go_enter Tryd.func12, Tryd.ntmps12
  refine wp_seq ?_
  refine walk_seq 4 [.made (cells6 n) 24, .made (cells6 a) 24, .made (cells6 b) 24, .made zero6 24] (fun w' => Mm w' []) ?pre1 ?F1 ?hpre1 (fun γ => ?hF1) (by kernel_rfl) ?hL1 ?hS1 ?ho1 ?he1
  case hpre1 =>
    simp only [List.take_succ_cons, List.take_zero]
    exact rfl
  case hF1 =>
    simp only [fill, Kind.val, Act.put, List.setIfInBounds_toArray, List.set_cons_zero, List.set_cons_succ]
    exact rfl
  case hL1 => exact trivial
  case hS1 => exact fun w' hb => H0.out.1.below hb
  case ho1 =>
    refine AllOk.cons ?_ ?_
    · exact fun γ => ⟨rfl, fun w' => ex_box6 rfl rfl⟩
    refine AllOk.cons ?_ ?_
    · exact fun γ => ⟨rfl, fun w' => ex_box6 rfl rfl⟩
    refine AllOk.cons ?_ ?_
    · exact fun γ => ⟨rfl, fun w' => ex_box6 rfl rfl⟩
    refine AllOk.cons ?_ ?_
    · exact fun γ => ⟨rfl, fun w' => exec_made6 rfl⟩
    exact trivial
  intro γ w1 l hM hl
  have M1 : Mm w1 [(γ 0, cells6 n), (γ 1, cells6 a), (γ 2, cells6 b), (γ 3, zero6)] := H0.out.1.grow hM (Nat.le_refl _) hl [0, 1, 2, 3] rfl (by decide)
  have B1 : Below w.heap.size w w1 := H0.out.2.trans (hM.below.mono H0.out.2.size)
  have o1_0 : Hid (w.heap.size ≤ γ 0) := Nat.le_trans H0.out.2.size (hM.fin (Nat.le_refl _) hl (i := 0) rfl).2.1
  have o1_1 : Hid (w.heap.size ≤ γ 1) := Nat.le_trans H0.out.2.size (hM.fin (Nat.le_refl _) hl (i := 1) rfl).2.1
  have o1_2 : Hid (w.heap.size ≤ γ 2) := Nat.le_trans H0.out.2.size (hM.fin (Nat.le_refl _) hl (i := 2) rfl).2.1
  have o1_3 : Hid (w.heap.size ≤ γ 3) := Nat.le_trans H0.out.2.size (hM.fin (Nat.le_refl _) hl (i := 3) rfl).2.1
  clear hM hl l
  generalize γ 0 = γ1_0 at M1 o1_0 ⊢
  generalize γ 1 = γ1_1 at M1 o1_1 ⊢
  generalize γ 2 = γ1_2 at M1 o1_2 ⊢
  generalize γ 3 = γ1_3 at M1 o1_3 ⊢
  clear γ
  have H1 : Hid (_ ∧ _) := ⟨M1, B1⟩
  clear M1 B1
  refine rest_at (l := []) rfl ?_
  refine rest_nil ?_
  refine then_normal ?_
  refine wp_seq ?_
  refine walk_any (by kernel_rfl) 13 [.quiet (N n), .quiet (N a), .call (N x), .quiet (N n), .quiet (N b), .call (N y), .call (.tuple #[N u, .bool false]), .quiet (.tuple #[N u, .bool false]), .quiet (N u), .quiet (.bool false), .made zero6 24, .laid 10 zero6 (cells6 u), .quiet (.bool false)] (fun w' => Mm w' [(γ1_0, cells6 n), (γ1_1, cells6 a), (γ1_2, cells6 b), (γ1_3, zero6)]) ?pre2 ?F2 ?hpre2 (fun γ => ?hF2) (by kernel_rfl) ?hL2 ?hS2 ?ho2 ?he2
  case hpre2 =>
    simp only [List.take_succ_cons, List.take_zero]
    exact rfl
  case hF2 =>
    simp only [fill, Kind.val, Act.put, List.setIfInBounds_toArray, List.set_cons_zero, List.set_cons_succ]
    exact rfl
  case hL2 => exact ⟨⟨_, rfl⟩, trivial⟩
  case hS2 => exact fun w' hb => H1.out.1.below hb
  case ho2 =>
    refine AllOk.cons ?_ ?_
    · exact fun γ => ⟨rfl, fun w' h => ex_load6 h 0 rfl rfl rfl rfl⟩
    refine AllOk.cons ?_ ?_
    · exact fun γ => ⟨rfl, fun w' h => ex_load6 h 1 rfl rfl rfl rfl⟩
    refine AllOk.cons ?_ ?_
    · exact fun γ => ⟨rfl, fun w' h => ⟨8, #[N n, N a], exec_call rfl call8 rfl (by simp only [List.map_toArray, List.map_cons, List.map_nil]; rfl), C0.out w'⟩⟩
    refine AllOk.cons ?_ ?_
    · exact fun γ => ⟨rfl, fun w' h => ex_load6 h 0 rfl rfl rfl rfl⟩
    refine AllOk.cons ?_ ?_
    · exact fun γ => ⟨rfl, fun w' h => ex_load6 h 2 rfl rfl rfl rfl⟩
    refine AllOk.cons ?_ ?_
    · exact fun γ => ⟨rfl, fun w' h => ⟨8, #[N n, N b], exec_call rfl call8 rfl (by simp only [List.map_toArray, List.map_cons, List.map_nil]; rfl), C1.out w'⟩⟩
    refine AllOk.cons ?_ ?_
    · exact fun γ => ⟨rfl, fun w' h => ⟨38, #[N x, N y], exec_call rfl call38 rfl (by simp only [List.map_toArray, List.map_cons, List.map_nil]; rfl), C2.out w'⟩⟩
    refine AllOk.cons ?_ ?_
    · exact fun γ => ⟨rfl, fun w' _ => rfl⟩
    refine AllOk.cons ?_ ?_
    · (refine fun γ => ⟨rfl, fun w' h => ?_⟩; clear h; go_simp)
    refine AllOk.cons ?_ ?_
    · (refine fun γ => ⟨rfl, fun w' h => ?_⟩; clear h; go_simp)
    refine AllOk.cons ?_ ?_
    · exact fun γ => ⟨rfl, fun w' => exec_made6 rfl⟩
    refine AllOk.cons ?_ ?_
    · exact fun γ => ⟨rfl, rfl, rfl, fun w' h => exec_laid6 h rfl rfl rfl⟩
    refine AllOk.cons ?_ ?_
    · exact fun γ => ⟨rfl, fun w' _ => rfl⟩
    exact trivial
  intro γ w2 l hM hl
  have M2 : Mm w2 [(γ 10, cells6 u), (γ1_0, cells6 n), (γ1_1, cells6 a), (γ1_2, cells6 b), (γ1_3, zero6)] := H1.out.1.grow hM (Nat.le_refl _) hl [10] rfl (by decide)
  have B2 : Below w.heap.size w w2 := H1.out.2.trans (hM.below.mono H1.out.2.size)
  have o2_10 : Hid (w.heap.size ≤ γ 10) := Nat.le_trans H1.out.2.size (hM.fin (Nat.le_refl _) hl (i := 10) rfl).2.1
  clear hM hl l H1
  generalize γ 10 = γ2_10 at M2 o2_10 ⊢
  clear γ
  have H2 : Hid (_ ∧ _) := ⟨M2, B2⟩
  clear M2 B2
  refine rest_at (l := []) rfl ?_
  refine rest_nil ?_
  refine then_normal ?_
  refine wp_seq ?_
  refine walk_seq 3 [.quiet (N n), .quiet (N u), .call (N r)] (fun w' => Mm w' [(γ2_10, cells6 u), (γ1_0, cells6 n), (γ1_1, cells6 a), (γ1_2, cells6 b), (γ1_3, zero6)]) ?pre3 ?F3 ?hpre3 (fun γ => ?hF3) (by kernel_rfl) ?hL3 ?hS3 ?ho3 ?he3
  case hpre3 =>
    simp only [List.take_succ_cons, List.take_zero]
    exact rfl
  case hF3 =>
    simp only [fill, Kind.val, Act.put, List.setIfInBounds_toArray, List.set_cons_zero, List.set_cons_succ]
    exact rfl
  case hL3 => exact trivial
  case hS3 => exact fun w' hb => H2.out.1.below hb
  case ho3 =>
    refine AllOk.cons ?_ ?_
    · exact fun γ => ⟨rfl, fun w' h => ex_load6 h 1 rfl rfl rfl rfl⟩
    refine AllOk.cons ?_ ?_
    · exact fun γ => ⟨rfl, fun w' h => ex_load6 h 0 rfl rfl rfl rfl⟩
    refine AllOk.cons ?_ ?_
    · exact fun γ => ⟨rfl, fun w' h => ⟨8, #[N n, N u], exec_call rfl call8 rfl (by simp only [List.map_toArray, List.map_cons, List.map_nil]; rfl), C3.out w'⟩⟩
    exact trivial
  intro γ w3 l hM hl
  have M3 : Mm w3 [(γ2_10, cells6 u), (γ1_0, cells6 n), (γ1_1, cells6 a), (γ1_2, cells6 b), (γ1_3, zero6)] := H2.out.1.grow hM (Nat.le_refl _) hl [] rfl (by decide)
  have B3 : Below w.heap.size w w3 := H2.out.2.trans (hM.below.mono H2.out.2.size)
  clear hM hl l H2
  clear γ
  have H3 : Hid (_ ∧ _) := ⟨M3, B3⟩
  clear M3 B3
  refine rest_at (l := [3]) rfl ?_
  refine rest_store rfl rfl rfl (ex_store6 H3.out.1 4 rfl rfl rfl rfl (Nat.le_of_ble_eq_true rfl)) ?_
  have H4 : Hid (Mm (w3.setCells γ1_3 0 (cells6 r)) [(γ2_10, cells6 u), (γ1_0, cells6 n), (γ1_1, cells6 a), (γ1_2, cells6 b), (γ1_3, cells6 r)] ∧ Below w.heap.size w (w3.setCells γ1_3 0 (cells6 r))) := ⟨H3.out.1.put 4 (off := 0) (vs := cells6 r) rfl (Nat.le_of_ble_eq_true rfl), below_setCells _ o1_3.out _ _ _ H3.out.2⟩
  clear H3
  generalize hgw : World.setCells _ _ _ _ = w4 at H4 ⊢
  clear hgw
  refine rest_nil ?_
  refine then_normal ?_
  refine wp_ret ?_
  repeat (first | refine then_ret ?_ | refine block_ret ?_)
  have c0 := H4.out.1.get 4 rfl 0 rfl
  have c1 := H4.out.1.get 4 rfl 1 rfl
  have c2 := H4.out.1.get 4 rfl 2 rfl
  have c3 := H4.out.1.get 4 rfl 3 rfl
  have c4 := H4.out.1.get 4 rfl 4 rfl
  have c5 := H4.out.1.get 4 rfl 5 rfl
  refine bodyPost_ret (v := N r) (by simp [results, Tryd.results12, go_sem, *]) rfl ?_
  exact ⟨rfl, H4.out.2⟩
set_option maxRecDepth 100000 in
theorem rneg_gen (n a x u r : Nat)
    (c0 : ∀ w, Calls Tryd.prog 8 #[N n, N a] w fun e w' => e = .returned (N x) ∧ Below w.heap.size w w')
    (c1 : ∀ w, Calls Tryd.prog 39 #[N n, N x] w fun e w' => e = .returned (.tuple #[N u, .bool false]) ∧ Below w.heap.size w w')
    (c2 : ∀ w, Calls Tryd.prog 8 #[N n, N u] w fun e w' => e = .returned (N r) ∧ Below w.heap.size w w') (w : World) :
    Calls Tryd.prog 16 #[N n, N a] w fun e w' => e = .returned (N r) ∧ Below w.heap.size w w' := by
  have H0 : Hid (_ ∧ _) := ⟨Mm.nil w, Below.refl w.heap.size w⟩
  have C0 : Hid _ := c0
  have C1 : Hid _ := c1
  have C2 : Hid _ := c2
  clear c0 c1 c2
  go_enter Tryd.func16, Tryd.ntmps16
  refine wp_seq ?_
  refine walk_seq 3 [.made (cells6 n) 24, .made (cells6 a) 24, .made zero6 24] (fun w' => Mm w' []) ?pre1 ?F1 ?hpre1 (fun γ => ?hF1) (by kernel_rfl) ?hL1 ?hS1 ?ho1 ?he1
  case hpre1 =>
    simp only [List.take_succ_cons, List.take_zero]
    exact rfl
  case hF1 =>
    simp only [fill, Kind.val, Act.put, List.setIfInBounds_toArray, List.set_cons_zero, List.set_cons_succ]
    exact rfl
  case hL1 => exact trivial
  case hS1 => exact fun w' hb => H0.out.1.below hb
  case ho1 =>
    refine AllOk.cons ?_ ?_
    · exact fun γ => ⟨rfl, fun w' => ex_box6 rfl rfl⟩
    refine AllOk.cons ?_ ?_
    · exact fun γ => ⟨rfl, fun w' => ex_box6 rfl rfl⟩
    refine AllOk.cons ?_ ?_
    · exact fun γ => ⟨rfl, fun w' => exec_made6 rfl⟩
    exact trivial
  intro γ w1 l hM hl
  have M1 : Mm w1 [(γ 0, cells6 n), (γ 1, cells6 a), (γ 2, zero6)] := H0.out.1.grow hM (Nat.le_refl _) hl [0, 1, 2] rfl (by decide)
  have B1 : Below w.heap.size w w1 := H0.out.2.trans (hM.below.mono H0.out.2.size)
  have o1_0 : Hid (w.heap.size ≤ γ 0) := Nat.le_trans H0.out.2.size (hM.fin (Nat.le_refl _) hl (i := 0) rfl).2.1
  have o1_1 : Hid (w.heap.size ≤ γ 1) := Nat.le_trans H0.out.2.size (hM.fin (Nat.le_refl _) hl (i := 1) rfl).2.1
  have o1_2 : Hid (w.heap.size ≤ γ 2) := Nat.le_trans H0.out.2.size (hM.fin (Nat.le_refl _) hl (i := 2) rfl).2.1
  clear hM hl l
  generalize γ 0 = γ1_0 at M1 o1_0 ⊢
  generalize γ 1 = γ1_1 at M1 o1_1 ⊢
  generalize γ 2 = γ1_2 at M1 o1_2 ⊢
  clear γ
  have H1 : Hid (_ ∧ _) := ⟨M1, B1⟩
  clear M1 B1
  refine rest_at (l := []) rfl ?_
  refine rest_nil ?_
  refine then_normal ?_
  refine wp_seq ?_
  refine walk_any (by kernel_rfl) 11 [.quiet (N n), .quiet (N n), .quiet (N a), .call (N x), .call (.tuple #[N u, .bool false]), .quiet (.tuple #[N u, .bool false]), .quiet (N u), .quiet (.bool false), .made zero6 24, .laid 8 zero6 (cells6 u), .quiet (.bool false)] (fun w' => Mm w' [(γ1_0, cells6 n), (γ1_1, cells6 a), (γ1_2, zero6)]) ?pre2 ?F2 ?hpre2 (fun γ => ?hF2) (by kernel_rfl) ?hL2 ?hS2 ?ho2 ?he2
  case hpre2 =>
    simp only [List.take_succ_cons, List.take_zero]
    exact rfl
  case hF2 =>
    simp only [fill, Kind.val, Act.put, List.setIfInBounds_toArray, List.set_cons_zero, List.set_cons_succ]
    exact rfl
  case hL2 => exact ⟨⟨_, rfl⟩, trivial⟩
  case hS2 => exact fun w' hb => H1.out.1.below hb
  case ho2 =>
    refine AllOk.cons ?_ ?_
    · exact fun γ => ⟨rfl, fun w' h => ex_load6 h 0 rfl rfl rfl rfl⟩
    refine AllOk.cons ?_ ?_
    · exact fun γ => ⟨rfl, fun w' h => ex_load6 h 0 rfl rfl rfl rfl⟩
    refine AllOk.cons ?_ ?_
    · exact fun γ => ⟨rfl, fun w' h => ex_load6 h 1 rfl rfl rfl rfl⟩
    refine AllOk.cons ?_ ?_
    · exact fun γ => ⟨rfl, fun w' h => ⟨8, #[N n, N a], exec_call rfl call8 rfl (by simp only [List.map_toArray, List.map_cons, List.map_nil]; rfl), C0.out w'⟩⟩
    refine AllOk.cons ?_ ?_
    · exact fun γ => ⟨rfl, fun w' h => ⟨39, #[N n, N x], exec_call rfl call39 rfl (by simp only [List.map_toArray, List.map_cons, List.map_nil]; rfl), C1.out w'⟩⟩
    refine AllOk.cons ?_ ?_
    · exact fun γ => ⟨rfl, fun w' _ => rfl⟩
    refine AllOk.cons ?_ ?_
    · (refine fun γ => ⟨rfl, fun w' h => ?_⟩; clear h; go_simp)
    refine AllOk.cons ?_ ?_
    · (refine fun γ => ⟨rfl, fun w' h => ?_⟩; clear h; go_simp)
    refine AllOk.cons ?_ ?_
    · exact fun γ => ⟨rfl, fun w' => exec_made6 rfl⟩
    refine AllOk.cons ?_ ?_
    · exact fun γ => ⟨rfl, rfl, rfl, fun w' h => exec_laid6 h rfl rfl rfl⟩
    refine AllOk.cons ?_ ?_
    · exact fun γ => ⟨rfl, fun w' _ => rfl⟩
    exact trivial
  intro γ w2 l hM hl
  have M2 : Mm w2 [(γ 8, cells6 u), (γ1_0, cells6 n), (γ1_1, cells6 a), (γ1_2, zero6)] := H1.out.1.grow hM (Nat.le_refl _) hl [8] rfl (by decide)
  have B2 : Below w.heap.size w w2 := H1.out.2.trans (hM.below.mono H1.out.2.size)
  have o2_8 : Hid (w.heap.size ≤ γ 8) := Nat.le_trans H1.out.2.size (hM.fin (Nat.le_refl _) hl (i := 8) rfl).2.1
  clear hM hl l H1
  generalize γ 8 = γ2_8 at M2 o2_8 ⊢
  clear γ
  have H2 : Hid (_ ∧ _) := ⟨M2, B2⟩
  clear M2 B2
  refine rest_at (l := []) rfl ?_
  refine rest_nil ?_
  refine then_normal ?_
  refine wp_seq ?_
  refine walk_seq 3 [.quiet (N n), .quiet (N u), .call (N r)] (fun w' => Mm w' [(γ2_8, cells6 u), (γ1_0, cells6 n), (γ1_1, cells6 a), (γ1_2, zero6)]) ?pre3 ?F3 ?hpre3 (fun γ => ?hF3) (by kernel_rfl) ?hL3 ?hS3 ?ho3 ?he3
  case hpre3 =>
    simp only [List.take_succ_cons, List.take_zero]
    exact rfl
  case hF3 =>
    simp only [fill, Kind.val, Act.put, List.setIfInBounds_toArray, List.set_cons_zero, List.set_cons_succ]
    exact rfl
  case hL3 => exact trivial
  case hS3 => exact fun w' hb => H2.out.1.below hb
  case ho3 =>
    refine AllOk.cons ?_ ?_
    · exact fun γ => ⟨rfl, fun w' h => ex_load6 h 1 rfl rfl rfl rfl⟩
    refine AllOk.cons ?_ ?_
    · exact fun γ => ⟨rfl, fun w' h => ex_load6 h 0 rfl rfl rfl rfl⟩
    refine AllOk.cons ?_ ?_
    · exact fun γ => ⟨rfl, fun w' h => ⟨8, #[N n, N u], exec_call rfl call8 rfl (by simp only [List.map_toArray, List.map_cons, List.map_nil]; rfl), C2.out w'⟩⟩
    exact trivial
  intro γ w3 l hM hl
  have M3 : Mm w3 [(γ2_8, cells6 u), (γ1_0, cells6 n), (γ1_1, cells6 a), (γ1_2, zero6)] := H2.out.1.grow hM (Nat.le_refl _) hl [] rfl (by decide)
  have B3 : Below w.heap.size w w3 := H2.out.2.trans (hM.below.mono H2.out.2.size)
  clear hM hl l H2
  clear γ
  have H3 : Hid (_ ∧ _) := ⟨M3, B3⟩
  clear M3 B3
  refine rest_at (l := [3]) rfl ?_
  refine rest_store rfl rfl rfl (ex_store6 H3.out.1 3 rfl rfl rfl rfl (Nat.le_of_ble_eq_true rfl)) ?_
  have H4 : Hid (Mm (w3.setCells γ1_2 0 (cells6 r)) [(γ2_8, cells6 u), (γ1_0, cells6 n), (γ1_1, cells6 a), (γ1_2, cells6 r)] ∧ Below w.heap.size w (w3.setCells γ1_2 0 (cells6 r))) := ⟨H3.out.1.put 3 (off := 0) (vs := cells6 r) rfl (Nat.le_of_ble_eq_true rfl), below_setCells _ o1_2.out _ _ _ H3.out.2⟩
  clear H3
  generalize hgw : World.setCells _ _ _ _ = w4 at H4 ⊢
  clear hgw
  refine rest_nil ?_
  refine then_normal ?_
  refine wp_ret ?_
  repeat (first | refine then_ret ?_ | refine block_ret ?_)
  have c0 := H4.out.1.get 3 rfl 0 rfl
  have c1 := H4.out.1.get 3 rfl 1 rfl
  have c2 := H4.out.1.get 3 rfl 2 rfl
  have c3 := H4.out.1.get 3 rfl 3 rfl
  have c4 := H4.out.1.get 3 rfl 4 rfl
  have c5 := H4.out.1.get 3 rfl 5 rfl
  refine bodyPost_ret (v := N r) (by simp [results, Tryd.results16, go_sem, *]) rfl ?_
  exact ⟨rfl, H4.out.2⟩
set_option maxRecDepth 100000 in
theorem rsub_gen (n a b x r : Nat)
    (c0 : ∀ w, Calls Tryd.prog 16 #[N n, N b] w fun e w' => e = .returned (N x) ∧ Below w.heap.size w w')
    (c1 : ∀ w, Calls Tryd.prog 12 #[N n, N a, N x] w fun e w' => e = .returned (N r) ∧ Below w.heap.size w w') (w : World) :
    Calls Tryd.prog 14 #[N n, N a, N b] w fun e w' => e = .returned (N r) ∧ Below w.heap.size w w' := by
  have H0 : Hid (_ ∧ _) := ⟨Mm.nil w, Below.refl w.heap.size w⟩
  have C0 : Hid _ := c0
  have C1 : Hid _ := c1
  clear c0 c1
  go_enter Tryd.func14, Tryd.ntmps14
  refine wp_seq ?_
  refine walk_seq 4 [.made (cells6 n) 24, .made (cells6 a) 24, .made (cells6 b) 24, .made zero6 24] (fun w' => Mm w' []) ?pre1 ?F1 ?hpre1 (fun γ => ?hF1) (by kernel_rfl) ?hL1 ?hS1 ?ho1 ?he1
  case hpre1 =>
    simp only [List.take_succ_cons, List.take_zero]
    exact rfl
  case hF1 =>
    simp only [fill, Kind.val, Act.put, List.setIfInBounds_toArray, List.set_cons_zero, List.set_cons_succ]
    exact rfl
  case hL1 => exact trivial
  case hS1 => exact fun w' hb => H0.out.1.below hb
  case ho1 =>
    refine AllOk.cons ?_ ?_
    · exact fun γ => ⟨rfl, fun w' => ex_box6 rfl rfl⟩
    refine AllOk.cons ?_ ?_
    · exact fun γ => ⟨rfl, fun w' => ex_box6 rfl rfl⟩
    refine AllOk.cons ?_ ?_
    · exact fun γ => ⟨rfl, fun w' => ex_box6 rfl rfl⟩
    refine AllOk.cons ?_ ?_
    · exact fun γ => ⟨rfl, fun w' => exec_made6 rfl⟩
    exact trivial
  intro γ w1 l hM hl
  have M1 : Mm w1 [(γ 0, cells6 n), (γ 1, cells6 a), (γ 2, cells6 b), (γ 3, zero6)] := H0.out.1.grow hM (Nat.le_refl _) hl [0, 1, 2, 3] rfl (by decide)
  have B1 : Below w.heap.size w w1 := H0.out.2.trans (hM.below.mono H0.out.2.size)
  have o1_0 : Hid (w.heap.size ≤ γ 0) := Nat.le_trans H0.out.2.size (hM.fin (Nat.le_refl _) hl (i := 0) rfl).2.1
  have o1_1 : Hid (w.heap.size ≤ γ 1) := Nat.le_trans H0.out.2.size (hM.fin (Nat.le_refl _) hl (i := 1) rfl).2.1
  have o1_2 : Hid (w.heap.size ≤ γ 2) := Nat.le_trans H0.out.2.size (hM.fin (Nat.le_refl _) hl (i := 2) rfl).2.1
  have o1_3 : Hid (w.heap.size ≤ γ 3) := Nat.le_trans H0.out.2.size (hM.fin (Nat.le_refl _) hl (i := 3) rfl).2.1
  clear hM hl l
  generalize γ 0 = γ1_0 at M1 o1_0 ⊢
  generalize γ 1 = γ1_1 at M1 o1_1 ⊢
  generalize γ 2 = γ1_2 at M1 o1_2 ⊢
  generalize γ 3 = γ1_3 at M1 o1_3 ⊢
  clear γ
  have H1 : Hid (_ ∧ _) := ⟨M1, B1⟩
  clear M1 B1
  refine rest_at (l := []) rfl ?_
  refine rest_nil ?_
  refine then_normal ?_
  refine wp_seq ?_
  refine walk_any (by kernel_rfl) 6 [.quiet (N n), .quiet (N a), .quiet (N n), .quiet (N b), .call (N x), .call (N r)] (fun w' => Mm w' [(γ1_0, cells6 n), (γ1_1, cells6 a), (γ1_2, cells6 b), (γ1_3, zero6)]) ?pre2 ?F2 ?hpre2 (fun γ => ?hF2) (by kernel_rfl) ?hL2 ?hS2 ?ho2 ?he2
  case hpre2 =>
    simp only [List.take_succ_cons, List.take_zero]
    exact rfl
  case hF2 =>
    simp only [fill, Kind.val, Act.put, List.setIfInBounds_toArray, List.set_cons_zero, List.set_cons_succ]
    exact rfl
  case hL2 => exact trivial
  case hS2 => exact fun w' hb => H1.out.1.below hb
  case ho2 =>
    refine AllOk.cons ?_ ?_
    · exact fun γ => ⟨rfl, fun w' h => ex_load6 h 0 rfl rfl rfl rfl⟩
    refine AllOk.cons ?_ ?_
    · exact fun γ => ⟨rfl, fun w' h => ex_load6 h 1 rfl rfl rfl rfl⟩
    refine AllOk.cons ?_ ?_
    · exact fun γ => ⟨rfl, fun w' h => ex_load6 h 0 rfl rfl rfl rfl⟩
    refine AllOk.cons ?_ ?_
    · exact fun γ => ⟨rfl, fun w' h => ex_load6 h 2 rfl rfl rfl rfl⟩
    refine AllOk.cons ?_ ?_
    · exact fun γ => ⟨rfl, fun w' h => ⟨16, #[N n, N b], exec_call rfl call16 rfl (by simp only [List.map_toArray, List.map_cons, List.map_nil]; rfl), C0.out w'⟩⟩
    refine AllOk.cons ?_ ?_
    · exact fun γ => ⟨rfl, fun w' h => ⟨12, #[N n, N a, N x], exec_call rfl call12 rfl (by simp only [List.map_toArray, List.map_cons, List.map_nil]; rfl), C1.out w'⟩⟩
    exact trivial
  intro γ w2 l hM hl
  have M2 : Mm w2 [(γ1_0, cells6 n), (γ1_1, cells6 a), (γ1_2, cells6 b), (γ1_3, zero6)] := H1.out.1.grow hM (Nat.le_refl _) hl [] rfl (by decide)
  have B2 : Below w.heap.size w w2 := H1.out.2.trans (hM.below.mono H1.out.2.size)
  clear hM hl l H1
  clear γ
  have H2 : Hid (_ ∧ _) := ⟨M2, B2⟩
  clear M2 B2
  refine rest_at (l := [6]) rfl ?_
  refine rest_store rfl rfl rfl (ex_store6 H2.out.1 3 rfl rfl rfl rfl (Nat.le_of_ble_eq_true rfl)) ?_
  have H3 : Hid (Mm (w2.setCells γ1_3 0 (cells6 r)) [(γ1_0, cells6 n), (γ1_1, cells6 a), (γ1_2, cells6 b), (γ1_3, cells6 r)] ∧ Below w.heap.size w (w2.setCells γ1_3 0 (cells6 r))) := ⟨H2.out.1.put 3 (off := 0) (vs := cells6 r) rfl (Nat.le_of_ble_eq_true rfl), below_setCells _ o1_3.out _ _ _ H2.out.2⟩
  clear H2
  generalize hgw : World.setCells _ _ _ _ = w3 at H3 ⊢
  clear hgw
  refine rest_nil ?_
  refine then_normal ?_
  refine wp_ret ?_
  repeat (first | refine then_ret ?_ | refine block_ret ?_)
  have c0 := H3.out.1.get 3 rfl 0 rfl
  have c1 := H3.out.1.get 3 rfl 1 rfl
  have c2 := H3.out.1.get 3 rfl 2 rfl
  have c3 := H3.out.1.get 3 rfl 3 rfl
  have c4 := H3.out.1.get 3 rfl 4 rfl
  have c5 := H3.out.1.get 3 rfl 5 rfl
  refine bodyPost_ret (v := N r) (by simp [results, Tryd.results14, go_sem, *]) rfl ?_
  exact ⟨rfl, H3.out.2⟩
set_option maxRecDepth 100000 in
theorem rmul_gen (n a b lo hi r : Nat)
    (c0 : ∀ w, Calls Tryd.prog 40 #[N a, N b] w fun e w' => e = .returned (.tuple #[N lo, N hi]) ∧ Below w.heap.size w w')
    (c1 : ∀ w, Calls Tryd.prog 10 #[N n, N lo, N hi] w fun e w' => e = .returned (N r) ∧ Below w.heap.size w w') (w : World) :
    Calls Tryd.prog 18 #[N n, N a, N b] w fun e w' => e = .returned (N r) ∧ Below w.heap.size w w' := by
  have H0 : Hid (_ ∧ _) := ⟨Mm.nil w, Below.refl w.heap.size w⟩
  have C0 : Hid _ := c0
  have C1 : Hid _ := c1
  clear c0 c1
  go_enter Tryd.func18, Tryd.ntmps18
  refine wp_seq ?_
  refine walk_seq 4 [.made (cells6 n) 24, .made (cells6 a) 24, .made (cells6 b) 24, .made zero6 24] (fun w' => Mm w' []) ?pre1 ?F1 ?hpre1 (fun γ => ?hF1) (by kernel_rfl) ?hL1 ?hS1 ?ho1 ?he1
  case hpre1 =>
    simp only [List.take_succ_cons, List.take_zero]
    exact rfl
  case hF1 =>
    simp only [fill, Kind.val, Act.put, List.setIfInBounds_toArray, List.set_cons_zero, List.set_cons_succ]
    exact rfl
  case hL1 => exact trivial
  case hS1 => exact fun w' hb => H0.out.1.below hb
  case ho1 =>
    refine AllOk.cons ?_ ?_
    · exact fun γ => ⟨rfl, fun w' => ex_box6 rfl rfl⟩
    refine AllOk.cons ?_ ?_
    · exact fun γ => ⟨rfl, fun w' => ex_box6 rfl rfl⟩
    refine AllOk.cons ?_ ?_
    · exact fun γ => ⟨rfl, fun w' => ex_box6 rfl rfl⟩
    refine AllOk.cons ?_ ?_
    · exact fun γ => ⟨rfl, fun w' => exec_made6 rfl⟩
    exact trivial
  intro γ w1 l hM hl
  have M1 : Mm w1 [(γ 0, cells6 n), (γ 1, cells6 a), (γ 2, cells6 b), (γ 3, zero6)] := H0.out.1.grow hM (Nat.le_refl _) hl [0, 1, 2, 3] rfl (by decide)
  have B1 : Below w.heap.size w w1 := H0.out.2.trans (hM.below.mono H0.out.2.size)
  have o1_0 : Hid (w.heap.size ≤ γ 0) := Nat.le_trans H0.out.2.size (hM.fin (Nat.le_refl _) hl (i := 0) rfl).2.1
  have o1_1 : Hid (w.heap.size ≤ γ 1) := Nat.le_trans H0.out.2.size (hM.fin (Nat.le_refl _) hl (i := 1) rfl).2.1
  have o1_2 : Hid (w.heap.size ≤ γ 2) := Nat.le_trans H0.out.2.size (hM.fin (Nat.le_refl _) hl (i := 2) rfl).2.1
  have o1_3 : Hid (w.heap.size ≤ γ 3) := Nat.le_trans H0.out.2.size (hM.fin (Nat.le_refl _) hl (i := 3) rfl).2.1
  clear hM hl l
  generalize γ 0 = γ1_0 at M1 o1_0 ⊢
  generalize γ 1 = γ1_1 at M1 o1_1 ⊢
  generalize γ 2 = γ1_2 at M1 o1_2 ⊢
  generalize γ 3 = γ1_3 at M1 o1_3 ⊢
  clear γ
  have H1 : Hid (_ ∧ _) := ⟨M1, B1⟩
  clear M1 B1
  refine rest_at (l := []) rfl ?_
  refine rest_nil ?_
  refine then_normal ?_
  refine wp_seq ?_
  refine walk_seq 10 [.quiet (N a), .quiet (N b), .call (.tuple #[N lo, N hi]), .quiet (.tuple #[N lo, N hi]), .quiet (N lo), .quiet (N hi), .made zero6 24, .made zero6 24, .laid 6 zero6 (cells6 lo), .laid 7 zero6 (cells6 hi)] (fun w' => Mm w' [(γ1_0, cells6 n), (γ1_1, cells6 a), (γ1_2, cells6 b), (γ1_3, zero6)]) ?pre2 ?F2 ?hpre2 (fun γ => ?hF2) (by kernel_rfl) ?hL2 ?hS2 ?ho2 ?he2
  case hpre2 =>
    simp only [List.take_succ_cons, List.take_zero]
    exact rfl
  case hF2 =>
    simp only [fill, Kind.val, Act.put, List.setIfInBounds_toArray, List.set_cons_zero, List.set_cons_succ]
    exact rfl
  case hL2 => exact ⟨⟨_, rfl⟩, ⟨_, rfl⟩, trivial⟩
  case hS2 => exact fun w' hb => H1.out.1.below hb
  case ho2 =>
    refine AllOk.cons ?_ ?_
    · exact fun γ => ⟨rfl, fun w' h => ex_load6 h 1 rfl rfl rfl rfl⟩
    refine AllOk.cons ?_ ?_
    · exact fun γ => ⟨rfl, fun w' h => ex_load6 h 2 rfl rfl rfl rfl⟩
    refine AllOk.cons ?_ ?_
    · exact fun γ => ⟨rfl, fun w' h => ⟨40, #[N a, N b], exec_call rfl call40 rfl (by simp only [List.map_toArray, List.map_cons, List.map_nil]; rfl), C0.out w'⟩⟩
    refine AllOk.cons ?_ ?_
    · exact fun γ => ⟨rfl, fun w' _ => rfl⟩
    refine AllOk.cons ?_ ?_
    · (refine fun γ => ⟨rfl, fun w' h => ?_⟩; clear h; go_simp)
    refine AllOk.cons ?_ ?_
    · (refine fun γ => ⟨rfl, fun w' h => ?_⟩; clear h; go_simp)
    refine AllOk.cons ?_ ?_
    · exact fun γ => ⟨rfl, fun w' => exec_made6 rfl⟩
    refine AllOk.cons ?_ ?_
    · exact fun γ => ⟨rfl, fun w' => exec_made6 rfl⟩
    refine AllOk.cons ?_ ?_
    · exact fun γ => ⟨rfl, rfl, rfl, fun w' h => exec_laid6 h rfl rfl rfl⟩
    refine AllOk.cons ?_ ?_
    · exact fun γ => ⟨rfl, rfl, rfl, fun w' h => exec_laid6 h rfl rfl rfl⟩
    exact trivial
  intro γ w2 l hM hl
  have M2 : Mm w2 [(γ 6, cells6 lo), (γ 7, cells6 hi), (γ1_0, cells6 n), (γ1_1, cells6 a), (γ1_2, cells6 b), (γ1_3, zero6)] := H1.out.1.grow hM (Nat.le_refl _) hl [6, 7] rfl (by decide)
  have B2 : Below w.heap.size w w2 := H1.out.2.trans (hM.below.mono H1.out.2.size)
  have o2_6 : Hid (w.heap.size ≤ γ 6) := Nat.le_trans H1.out.2.size (hM.fin (Nat.le_refl _) hl (i := 6) rfl).2.1
  have o2_7 : Hid (w.heap.size ≤ γ 7) := Nat.le_trans H1.out.2.size (hM.fin (Nat.le_refl _) hl (i := 7) rfl).2.1
  clear hM hl l H1
  generalize γ 6 = γ2_6 at M2 o2_6 ⊢
  generalize γ 7 = γ2_7 at M2 o2_7 ⊢
  clear γ
  have H2 : Hid (_ ∧ _) := ⟨M2, B2⟩
  clear M2 B2
  refine rest_at (l := []) rfl ?_
  refine rest_nil ?_
  refine then_normal ?_
  refine wp_seq ?_
  refine walk_seq 4 [.quiet (N n), .quiet (N lo), .quiet (N hi), .call (N r)] (fun w' => Mm w' [(γ2_6, cells6 lo), (γ2_7, cells6 hi), (γ1_0, cells6 n), (γ1_1, cells6 a), (γ1_2, cells6 b), (γ1_3, zero6)]) ?pre3 ?F3 ?hpre3 (fun γ => ?hF3) (by kernel_rfl) ?hL3 ?hS3 ?ho3 ?he3
  case hpre3 =>
    simp only [List.take_succ_cons, List.take_zero]
    exact rfl
  case hF3 =>
    simp only [fill, Kind.val, Act.put, List.setIfInBounds_toArray, List.set_cons_zero, List.set_cons_succ]
    exact rfl
  case hL3 => exact trivial
  case hS3 => exact fun w' hb => H2.out.1.below hb
  case ho3 =>
    refine AllOk.cons ?_ ?_
    · exact fun γ => ⟨rfl, fun w' h => ex_load6 h 2 rfl rfl rfl rfl⟩
    refine AllOk.cons ?_ ?_
    · exact fun γ => ⟨rfl, fun w' h => ex_load6 h 0 rfl rfl rfl rfl⟩
    refine AllOk.cons ?_ ?_
    · exact fun γ => ⟨rfl, fun w' h => ex_load6 h 1 rfl rfl rfl rfl⟩
    refine AllOk.cons ?_ ?_
    · exact fun γ => ⟨rfl, fun w' h => ⟨10, #[N n, N lo, N hi], exec_call rfl call10 rfl (by simp only [List.map_toArray, List.map_cons, List.map_nil]; rfl), C1.out w'⟩⟩
    exact trivial
  intro γ w3 l hM hl
  have M3 : Mm w3 [(γ2_6, cells6 lo), (γ2_7, cells6 hi), (γ1_0, cells6 n), (γ1_1, cells6 a), (γ1_2, cells6 b), (γ1_3, zero6)] := H2.out.1.grow hM (Nat.le_refl _) hl [] rfl (by decide)
  have B3 : Below w.heap.size w w3 := H2.out.2.trans (hM.below.mono H2.out.2.size)
  clear hM hl l H2
  clear γ
  have H3 : Hid (_ ∧ _) := ⟨M3, B3⟩
  clear M3 B3
  refine rest_at (l := [4]) rfl ?_
  refine rest_store rfl rfl rfl (ex_store6 H3.out.1 5 rfl rfl rfl rfl (Nat.le_of_ble_eq_true rfl)) ?_
  have H4 : Hid (Mm (w3.setCells γ1_3 0 (cells6 r)) [(γ2_6, cells6 lo), (γ2_7, cells6 hi), (γ1_0, cells6 n), (γ1_1, cells6 a), (γ1_2, cells6 b), (γ1_3, cells6 r)] ∧ Below w.heap.size w (w3.setCells γ1_3 0 (cells6 r))) := ⟨H3.out.1.put 5 (off := 0) (vs := cells6 r) rfl (Nat.le_of_ble_eq_true rfl), below_setCells _ o1_3.out _ _ _ H3.out.2⟩
  clear H3
  generalize hgw : World.setCells _ _ _ _ = w4 at H4 ⊢
  clear hgw
  refine rest_nil ?_
  refine then_normal ?_
  refine wp_ret ?_
  repeat (first | refine then_ret ?_ | refine block_ret ?_)
  have c0 := H4.out.1.get 5 rfl 0 rfl
  have c1 := H4.out.1.get 5 rfl 1 rfl
  have c2 := H4.out.1.get 5 rfl 2 rfl
  have c3 := H4.out.1.get 5 rfl 3 rfl
  have c4 := H4.out.1.get 5 rfl 4 rfl
  have c5 := H4.out.1.get 5 rfl 5 rfl
  refine bodyPost_ret (v := N r) (by simp [results, Tryd.results18, go_sem, *]) rfl ?_
  exact ⟨rfl, H4.out.2⟩
end Rg
end Go.Proofs.YtfmjfgkgoenhnaaDoor
end
section
namespace Go.Proofs.YtfmjfgkgoenhnaaDoor
open Go.RowKit
set_option maxHeartbeats 400000 in
set_option maxRecDepth 100000 in
theorem bit_ref_in (a i : Nat) (hi : i < 384) (w : World) :
    Calls Tryd.prog 37 #[N a, .int .i64 i] w fun e w' => e = .returned (.int .i64 (bitv a i)) ∧ Below w.heap.size w w' := by
  have d0 : decide ((i : Int) < 0) = false := decide_eq_false (by omega)
  have d1 : decide ((383 : Int) < i) = false := decide_eq_false (by omega)
  have hA : Row (w.alloc (.cells #[.int .u64 (wd a 0), .int .u64 (wd a 1), .int .u64 (wd a 2), .int .u64 (wd a 3), .int .u64 (wd a 4), .int .u64 (wd a 5)] 24)) w.heap.size 6 (wd a) := Row.new w _ 24 rfl (six_lt rfl)
  have hA1 := (hA (i / 64) (by omega)).1
  clear hA
  go_enter Tryd.func37, Tryd.ntmps37
  go_wp2
  rw [bitv_word, show wrap64 (bitv a i) = bitv a i by have := bitv_bd a i; unfold wrap64; omega]
  go_ret
  exact ⟨rfl, (Below.refl _ _).alloc (Nat.le_refl _) _⟩
theorem call38 : ∀ args w, (callFunc 38 args).run Tryd.prog w = .ok (.enter 38 args) w := by intro args w; go_simp
theorem call39 : ∀ args w, (callFunc 39 args).run Tryd.prog w = .ok (.enter 39 args) w := by intro args w; go_simp
theorem call28 : ∀ args w, (callFunc 28 args).run Tryd.prog w = .ok (.enter 28 args) w := by intro args w; go_simp
theorem call40 : ∀ args w, (callFunc 40 args).run Tryd.prog w = .ok (.enter 40 args) w := by intro args w; go_simp
theorem call33 : ∀ args w, (callFunc 33 args).run Tryd.prog w = .ok (.enter 33 args) w := by intro args w; go_simp
theorem call37 : ∀ args w, (callFunc 37 args).run Tryd.prog w = .ok (.enter 37 args) w := by intro args w; go_simp
theorem call27 : ∀ args w, (callFunc 27 args).run Tryd.prog w = .ok (.enter 27 args) w := by intro args w; go_simp
theorem call53 : ∀ args w, (callFunc 53 args).run Tryd.prog w = .ok (.enter 53 args) w := by intro args w; go_simp
end Go.Proofs.YtfmjfgkgoenhnaaDoor
end
section
namespace Go.Proofs.YtfmjfgkgoenhnaaDoor
open Go.RowKit
theorem high_step (a k : Nat) : ((a / 2 ^ (64 * k) : Nat) : Int) = wd a k + 18446744073709551616 * ((a / 2 ^ (64 * (k + 1)) : Nat) : Int) := by
  unfold wd
  rw [pow_step, ← Nat.div_div_eq_div_mul]
  omega
theorem high_none (a : Nat) (ha : a < big) : a / 2 ^ (64 * 6) = 0 := by
  rw [← big_eq]; exact Nat.div_eq_of_lt ha
theorem lt_of_high {a b k : Nat} (h : a / 2 ^ (64 * k) < b / 2 ^ (64 * k)) : a < b := by
  rcases Nat.lt_or_ge a b with h' | h'
  · exact h'
  · have := Nat.div_le_div_right (c := 2 ^ (64 * k)) h'
    omega
set_option maxHeartbeats 1000000 in
set_option maxRecDepth 100000 in
theorem compare_ref (a b : Nat) (ha : a < big) (hb : b < big) (w : World) :
    Calls Tryd.prog 28 #[N a, N b] w fun e w' => e = .returned (.int .i64 (cmpv a b)) ∧ Below w.heap.size w w' := by
  have HA : Hid (a < big ∧ b < big) := ⟨ha, hb⟩
  clear ha hb
  go_enter Tryd.func28, Tryd.ntmps28
  go_wp2
  go_loopw [5] (fun i wr => ∃ k : Nat, k ≤ 6 ∧ i = .int .i64 ((k : Int) - 1) ∧ a / 2 ^ (64 * k) = b / 2 ^ (64 * k) ∧ Row wr w.heap.size 6 (wd a) ∧ Row wr (w.heap.size + 1) 6 (wd b) ∧ Below w.heap.size w wr) (fun i _ => (RowKit.intOf i + 1).toNat)
  case atStart =>
    refine ⟨6, by omega, rfl, ?_, (Row.new w _ 24 rfl (six_lt rfl)).alloc (by simp) _, Row.new _ _ 24 (by simp) (six_lt rfl), ((Below.refl _ _).alloc (Nat.le_refl _) _).alloc (by simp) _⟩
    rw [high_none a HA.out.1, high_none b HA.out.2]
  case round =>
    obtain ⟨k, hk, rfl, hz, hA, hB, hw⟩ := hrel
    have HZ : Hid _ := hz
    clear hz
    by_cases h0 : 1 ≤ k
    · obtain ⟨i, rfl⟩ : ∃ i, k = i + 1 := ⟨k - 1, by omega⟩
      rw [show (((i + 1 : Nat) : Int) - 1) = (i : Int) by omega]
      have hA1 := (hA i (by omega)).1
      have hB1 := (hB i (by omega)).1
      have HR : Hid (_ ∧ _ ∧ _) := ⟨hA, hB, hw⟩
      clear hA hB hw
      by_cases hx : wd a i < wd b i
      · have d1 : decide (wd a i < wd b i) = true := decide_eq_true hx
        have hfin : Hid (cmpv a b = -1) := by
          have h1 := high_step a i
          have h2 := high_step b i
          rw [HZ.out] at h1
          have h3 : a < b := lt_of_high (k := i) (by omega)
          show cmpv a b = -1
          unfold cmpv
          rw [if_neg (by omega), if_pos h3]
        clear hx
        go_wp2
        go_region
        go_wp2
        go_ret
        refine ⟨?_, HR.out.2.2.drew⟩
        rw [hfin.out]
        rfl
      · have d1 : decide (wd a i < wd b i) = false := decide_eq_false hx
        by_cases hy : wd b i < wd a i
        · have d2 : decide (wd b i < wd a i) = true := decide_eq_true hy
          have hfin : Hid (cmpv a b = 1) := by
            have h1 := high_step a i
            have h2 := high_step b i
            rw [HZ.out] at h1
            have h3 : b < a := lt_of_high (k := i) (by omega)
            show cmpv a b = 1
            unfold cmpv
            rw [if_neg (by omega), if_neg (by omega)]
          clear hx hy
          go_wp2
          go_region
          go_wp2
          go_region
          go_wp2
          go_ret
          refine ⟨?_, HR.out.2.2.drew.drew⟩
          rw [hfin.out]
          rfl
        · have d2 : decide (wd b i < wd a i) = false := decide_eq_false hy
          have HE : Hid (wd a i = wd b i) := (by omega : wd a i = wd b i)
          clear hx hy
          go_wp2
          go_region
          go_wp2
          go_region
          go_wp2
          go_roundw
          case rel =>
            obtain ⟨hA, hB, hw⟩ := HR.out
            refine ⟨i, by omega, by go_num, ?_, hA.drew.drew, hB.drew.drew, hw.drew.drew⟩
            have h1 := high_step a i
            have h2 := high_step b i
            rw [HZ.out] at h1
            have h3 := HE.out
            omega
          case measure => simp [RowKit.intOf] <;> omega
    · have hk0 : k = 0 := by omega
      subst hk0
      rw [show (((0 : Nat) : Int) - 1) = -1 from rfl]
      have hfin : Hid (cmpv a b = 0) := by
        have h1 := HZ.out
        simp only [Nat.mul_zero, Nat.pow_zero, Nat.div_one] at h1
        show cmpv a b = 0
        unfold cmpv
        rw [if_pos h1]
      clear hA hB HZ
      go_wp2
      go_ret
      refine ⟨?_, hw⟩
      rw [hfin.out]
      rfl
theorem top_bit (a i : Nat) (h : a < 2 ^ (i + 1)) : (bitv a i = 1 ∧ bl a = i + 1) ∨ (bitv a i = 0 ∧ a < 2 ^ i) := by
  unfold bitv
  have h1 : a / 2 ^ i < 2 := by
    rw [Nat.div_lt_iff_lt_mul (Nat.two_pow_pos _), Nat.mul_comm, ← Nat.pow_succ]
    exact h
  rcases Nat.lt_or_ge a (2 ^ i) with h2 | h2
  · right
    rw [Nat.div_eq_of_lt h2]
    exact ⟨rfl, h2⟩
  · left
    have h3 := Nat.div_pos h2 (Nat.two_pow_pos i)
    exact ⟨by omega, bl_unique a i h2 h⟩
set_option maxHeartbeats 1000000 in
set_option maxRecDepth 100000 in
theorem len_ref (a : Nat) (ha : a < big) (w : World) :
    Calls Tryd.prog 27 #[N a] w fun e w' => e = .returned (.int .i64 (bl a)) ∧ Below w.heap.size w w' := by
  have CB : Hid _ := fun i hi w => bit_ref_in a i hi w
  have HA : Hid (a < 2 ^ 384) := by
    obtain ⟨n, hn, e⟩ := big_pow
    show a < 2 ^ 384
    rw [e, show 64 * n = 384 by omega] at ha
    exact ha
  clear ha
  go_enter Tryd.func27, Tryd.ntmps27
  go_wp2
  go_loopw [3] (fun i wr => ∃ k : Nat, k ≤ 384 ∧ i = .int .i64 ((k : Int) - 1) ∧ a < 2 ^ k ∧ Rws wr [(w.heap.size, a)] ∧ Below w.heap.size w wr) (fun i _ => (RowKit.intOf i + 1).toNat)
  case atStart =>
    exact ⟨384, by omega, rfl, HA.out, (Rws.nil w).alloc a rfl, (Below.refl _ _).alloc (Nat.le_refl _) _⟩
  case round =>
    obtain ⟨k, hk, rfl, hz, hR, hw⟩ := hrel
    have HZ : Hid _ := hz
    clear hz HA
    by_cases h0 : 1 ≤ k
    · obtain ⟨i, rfl⟩ : ∃ i, k = i + 1 := ⟨k - 1, by omega⟩
      rw [show (((i + 1 : Nat) : Int) - 1) = (i : Int) by omega]
      obtain ⟨pa, a0, a1, a2, a3, a4, a5⟩ := hR.at (g := w.heap.size) (v := a) (by simp)
      have HR : Hid (_ ∧ _) := ⟨hR, hw⟩
      clear hR hw
      go_wp2_with fail
      refine (CB.out i (by omega) _).mono ?_
      rintro e wx ⟨rfl, hb⟩
      rcases top_bit a i HZ.out with ⟨h1, h2⟩ | ⟨h1, h2⟩
      · rw [h1]
        have H2 : Hid (bl a = i + 1) := h2
        clear h1 h2
        go_wp2
        go_ret
        refine ⟨?_, HR.out.2.trans (hb.mono HR.out.2.size)⟩
        rw [H2.out]
        refine congrArg Ending.returned (congrArg (Value.int IntKind.i64) ?_)
        omega
      · rw [h1]
        have H2 : Hid (a < 2 ^ i) := h2
        clear h1 h2
        go_wp2
        go_roundw
        case rel => exact ⟨i, by omega, by go_num, H2.out, HR.out.1.below hb, HR.out.2.trans (hb.mono HR.out.2.size)⟩
        case measure => simp [RowKit.intOf] <;> omega
    · have hk0 : k = 0 := by omega
      subst hk0
      rw [show (((0 : Nat) : Int) - 1) = -1 from rfl]
      have hfin : Hid (bl a = 0) := by
        have h1 := HZ.out
        have : a = 0 := by simpa using h1
        show bl a = 0
        rw [this]; rfl
      clear HZ hR
      go_wp2
      go_ret
      refine ⟨?_, hw⟩
      rw [hfin.out]
      rfl
end Go.Proofs.YtfmjfgkgoenhnaaDoor
end
section
namespace Go.Proofs.YtfmjfgkgoenhnaaDoor
open Go.RowKit
/-- A sum by halves of the carry. -/
theorem add_two (x y c : Int) (hx0 : 0 ≤ x) (hx1 : x < 18446744073709551616) (hy0 : 0 ≤ y) (hy1 : y < 18446744073709551616) (hc0 : 0 ≤ c) (hc1 : c ≤ 1) :
    ∃ s t : Int, IntKind.u64.wrap (x + y) = s ∧ IntKind.u64.wrap (s + c) = t ∧ t = addLo x y c ∧
      ((decide (s < x) = true ∧ decide (t < s) = false ∧ addHi x y c = 1) ∨ (decide (s < x) = false ∧ decide (t < s) = true ∧ addHi x y c = 1) ∨ (decide (s < x) = false ∧ decide (t < s) = false ∧ addHi x y c = 0)) := by
  refine ⟨_, _, rfl, rfl, ?_, ?_⟩
  · rw [IntKind.wrap_u64, IntKind.wrap_u64]; unfold addLo; omega
  · rw [IntKind.wrap_u64, IntKind.wrap_u64]
    unfold addHi
    simp only [decide_eq_true_eq, decide_eq_false_iff_not]
    omega
set_option maxHeartbeats 1000000 in
set_option maxRecDepth 100000 in
theorem add_ref (a b : Nat) (ha : a < big) (hb : b < big) (w : World) :
    Calls Tryd.prog 38 #[N a, N b] w fun e w' => e = .returned (.tuple #[N ((a + b) % big), .bool (decide (big ≤ a + b))]) ∧ Below w.heap.size w w' := by
  have hend := cry_end a b ha hb
  have He : Hid ((cry a b 6 == 1) = decide (big ≤ a + b)) := by
    show _ = _
    rw [← hend]
    have := cry_bd a b 6
    by_cases h : cry a b 6 = 0
    · rw [h]; rfl
    · rw [show cry a b 6 = 1 by omega]; rfl
  clear hend ha hb
  go_enter Tryd.func38, Tryd.ntmps38
  go_wp2
  go_loopw [7, 8] (fun c i wr => ∃ k : Nat, k ≤ 6 ∧ i = .int .i64 k ∧ c = .int .u64 (cry a b k) ∧ Row wr w.heap.size 6 (wd a) ∧ Row wr (w.heap.size + 1) 6 (wd b) ∧ Row wr (w.heap.size + 1 + 1) 6 (fun _ => 0) ∧ Row wr (w.heap.size + 1 + 1 + 1) 6 (part (a + b) k) ∧ Below w.heap.size w wr) (fun _ i _ => 6 - (RowKit.intOf i).toNat)
  case atStart =>
    refine ⟨0, by omega, rfl, by simp [cry], ?_, ?_, ?_, ?_, ?_⟩
    · exact (((Row.new w _ 24 rfl (six_lt rfl)).alloc (by simp <;> omega) _).alloc (by simp <;> omega) _).alloc (by simp <;> omega) _
    · exact ((Row.new _ _ 24 (by simp <;> omega) (six_lt rfl)).alloc (by simp <;> omega) _).alloc (by simp <;> omega) _
    · exact (Row.new _ _ 24 (by simp <;> omega) (six_lt (f := fun _ => 0) rfl)).alloc (by simp <;> omega) _
    · exact Row.new _ _ 24 (by simp <;> omega) (six_lt (f := part (a + b) 0) rfl)
    · exact ((((Below.refl _ _).alloc (Nat.le_refl _) _).alloc (by simp <;> omega) _).alloc (by simp <;> omega) _).alloc (by simp <;> omega) _
  case round =>
    obtain ⟨k, hk, rfl, rfl, hA, hB, hZ, hS, hw⟩ := hrel
    by_cases hlt : k < 6
    · obtain ⟨hc0, hc1⟩ := cry_bd a b k
      obtain ⟨ha0, ha1⟩ := wd_bd a k
      obtain ⟨hb0, hb1⟩ := wd_bd b k
      obtain ⟨s, t, hs, ht, htt, hcs⟩ := add_two (wd a k) (wd b k) (cry a b k) ha0 ha1 hb0 hb1 hc0 hc1
      rw [add_word] at htt
      rw [add_cry] at hcs
      have HT : Hid (t = wd (a + b) k) := htt
      have hA1 := (hA k hlt).1
      have hB1 := (hB k hlt).1
      obtain ⟨hS1, hS2⟩ := hS k hlt
      have R1 : Hid (_ ∧ _ ∧ _ ∧ _ ∧ _) := ⟨hA, hB, hZ, hS, hw⟩
      clear hA hB hZ hS hw htt hc0 hc1 ha0 ha1 hb0 hb1
      rcases hcs with ⟨d1, d2, d3⟩ | ⟨d1, d2, d3⟩ | ⟨d1, d2, d3⟩
      all_goals
        have H3 : Hid _ := d3
        clear d3
        go_wp2
        go_region
        go_wp2
        go_roundw
        case rel =>
          obtain ⟨hA, hB, hZ, hS, hw⟩ := R1.out
          exact ⟨k + 1, by omega, by go_num, by rw [H3.out], (hA.set_other _ (by simp <;> omega)), (hB.set_other _ (by simp <;> omega)), (hZ.set_other _ (by simp <;> omega)), ((hS.set _).congr (fun j _ => part_step HT.out j)), (hw.drew.setCell (by simp <;> omega) _)⟩
        case measure => simp [RowKit.intOf]; omega
    · have hk6 : k = 6 := by omega
      subst hk6
      obtain ⟨s0, s1, s2, s3, s4, s5⟩ := (hS.congr (f' := wd ((a + b) % big)) (fun j hj => by rw [part_lt hj, wd_mod _ _ hj])).reads
      obtain ⟨z0, z1, z2, z3, z4, z5⟩ := hZ.writes
      obtain ⟨y0, y1, y2, y3, y4, y5⟩ := hZ.reads
      clear hA hB hZ hS
      go_wp2
      rw [He.out]
      exact bodyPost_ret (v := .tuple #[N ((a + b) % big), .bool (decide (big ≤ a + b))]) (by simp [results, Tryd.results38, go_sem, *]) rfl ⟨rfl, (((((hw.setCell (by simp <;> omega) _).setCell (by simp <;> omega) _).setCell (by simp <;> omega) _).setCell (by simp <;> omega) _).setCell (by simp <;> omega) _).setCell (by simp <;> omega) _⟩
end Go.Proofs.YtfmjfgkgoenhnaaDoor
end
section
namespace Go.Proofs.YtfmjfgkgoenhnaaDoor
open Go.RowKit
theorem sub_two (x y c : Int) (hx0 : 0 ≤ x) (hx1 : x < 18446744073709551616) (hy0 : 0 ≤ y) (hy1 : y < 18446744073709551616) (hc0 : 0 ≤ c) (hc1 : c ≤ 1) :
    ∃ s t : Int, IntKind.u64.wrap (x - y) = s ∧ IntKind.u64.wrap (s - c) = t ∧ t = subLo x y c ∧
      ((decide (x < y) = true ∧ decide (s < c) = false ∧ bor x (y + c) = 1) ∨ (decide (x < y) = false ∧ decide (s < c) = true ∧ bor x (y + c) = 1) ∨ (decide (x < y) = false ∧ decide (s < c) = false ∧ bor x (y + c) = 0)) := by
  refine ⟨_, _, rfl, rfl, ?_, ?_⟩
  · rw [IntKind.wrap_u64, IntKind.wrap_u64]; unfold subLo; omega
  · rw [IntKind.wrap_u64]
    unfold bor
    simp only [decide_eq_true_eq, decide_eq_false_iff_not]
    split <;> omega
set_option maxHeartbeats 1000000 in
set_option maxRecDepth 100000 in
theorem sub_ref (a b : Nat) (ha : a < big) (hb : b < big) (w : World) :
    Calls Tryd.prog 39 #[N a, N b] w fun e w' => e = .returned (.tuple #[N ((a + big - b) % big), .bool (decide (a < b))]) ∧ Below w.heap.size w w' := by
  have hend := brw_end a b ha hb
  have HB : Hid (b < big) := hb
  have He : Hid ((brw a b 6 == 1) = decide (a < b)) := by
    show _ = _
    rw [← hend]
    have := brw_bd a b 6
    by_cases h : brw a b 6 = 0
    · rw [h]; rfl
    · rw [show brw a b 6 = 1 by omega]; rfl
  clear hend ha hb
  go_enter Tryd.func39, Tryd.ntmps39
  go_wp2
  go_loopw [7, 8] (fun c i wr => ∃ k : Nat, k ≤ 6 ∧ i = .int .i64 k ∧ c = .int .u64 (brw a b k) ∧ Row wr w.heap.size 6 (wd a) ∧ Row wr (w.heap.size + 1) 6 (wd b) ∧ Row wr (w.heap.size + 1 + 1) 6 (fun _ => 0) ∧ Row wr (w.heap.size + 1 + 1 + 1) 6 (part (a + big - b) k) ∧ Below w.heap.size w wr) (fun _ i _ => 6 - (RowKit.intOf i).toNat)
  case atStart =>
    refine ⟨0, by omega, rfl, by simp [brw, Nat.mod_one], ?_, ?_, ?_, ?_, ?_⟩
    · exact (((Row.new w _ 24 rfl (six_lt rfl)).alloc (by simp <;> omega) _).alloc (by simp <;> omega) _).alloc (by simp <;> omega) _
    · exact ((Row.new _ _ 24 (by simp <;> omega) (six_lt rfl)).alloc (by simp <;> omega) _).alloc (by simp <;> omega) _
    · exact (Row.new _ _ 24 (by simp <;> omega) (six_lt (f := fun _ => 0) rfl)).alloc (by simp <;> omega) _
    · exact Row.new _ _ 24 (by simp <;> omega) (six_lt (f := part (a + big - b) 0) rfl)
    · exact ((((Below.refl _ _).alloc (Nat.le_refl _) _).alloc (by simp <;> omega) _).alloc (by simp <;> omega) _).alloc (by simp <;> omega) _
  case round =>
    obtain ⟨k, hk, rfl, rfl, hA, hB, hZ, hS, hw⟩ := hrel
    by_cases hlt : k < 6
    · obtain ⟨hc0, hc1⟩ := brw_bd a b k
      obtain ⟨ha0, ha1⟩ := wd_bd a k
      obtain ⟨hb0, hb1⟩ := wd_bd b k
      obtain ⟨s, t, hs, ht, htt, hcs⟩ := sub_two (wd a k) (wd b k) (brw a b k) ha0 ha1 hb0 hb1 hc0 hc1
      rw [sub_word a b k hlt HB.out] at htt
      rw [sub_cry] at hcs
      have HT : Hid (t = wd (a + big - b) k) := htt
      have hA1 := (hA k hlt).1
      have hB1 := (hB k hlt).1
      obtain ⟨hS1, hS2⟩ := hS k hlt
      have R1 : Hid (_ ∧ _ ∧ _ ∧ _ ∧ _) := ⟨hA, hB, hZ, hS, hw⟩
      clear hA hB hZ hS hw htt hc0 hc1 ha0 ha1 hb0 hb1
      rcases hcs with ⟨d1, d2, d3⟩ | ⟨d1, d2, d3⟩ | ⟨d1, d2, d3⟩
      all_goals
        have H3 : Hid _ := d3
        clear d3
        go_wp2
        go_region
        go_wp2
        go_region
        go_wp2
        go_roundw
        case rel =>
          obtain ⟨hA, hB, hZ, hS, hw⟩ := R1.out
          exact ⟨k + 1, by omega, by go_num, by rw [H3.out], (hA.set_other _ (by simp <;> omega)), (hB.set_other _ (by simp <;> omega)), (hZ.set_other _ (by simp <;> omega)), ((hS.set _).congr (fun j _ => part_step HT.out j)), (hw.drew.drew.setCell (by simp <;> omega) _)⟩
        case measure => simp [RowKit.intOf]; omega
    · have hk6 : k = 6 := by omega
      subst hk6
      obtain ⟨s0, s1, s2, s3, s4, s5⟩ := (hS.congr (f' := wd ((a + big - b) % big)) (fun j hj => by rw [part_lt hj, wd_mod _ _ hj])).reads
      obtain ⟨z0, z1, z2, z3, z4, z5⟩ := hZ.writes
      obtain ⟨y0, y1, y2, y3, y4, y5⟩ := hZ.reads
      clear hA hB hZ hS
      go_wp2
      rw [He.out]
      exact bodyPost_ret (v := .tuple #[N ((a + big - b) % big), .bool (decide (a < b))]) (by simp [results, Tryd.results39, go_sem, *]) rfl ⟨rfl, (((((hw.setCell (by simp <;> omega) _).setCell (by simp <;> omega) _).setCell (by simp <;> omega) _).setCell (by simp <;> omega) _).setCell (by simp <;> omega) _).setCell (by simp <;> omega) _⟩
end Go.Proofs.YtfmjfgkgoenhnaaDoor
end
section
namespace Go.Proofs.YtfmjfgkgoenhnaaDoor
open Go.RowKit
namespace Rg
theorem call28 : ∀ args w, (callFunc 28 args).run Tryd.prog w = .ok (.enter 28 args) w := by intro args w; go_simp
set_option maxRecDepth 100000 in
theorem twice_1 (n a u t : Nat) (bt z : Int) (hb0 : 0 ≤ bt) (hb1 : bt ≤ 1) (ho : bits BinOp.or IntKind.u64 (wd u 0) bt = z) (hp : patch (cells6 u) 0 [.int .u64 z] = cells6 t)
    (c0 : ∀ w, Calls Tryd.prog 38 #[N a, N a] w fun e w' => e = .returned (.tuple #[N u, .bool false]) ∧ Below w.heap.size w w')
    (c1 : ∀ w, Calls Tryd.prog 28 #[N t, N n] w fun e w' => e = .returned (.int .i64 (-1)) ∧ Below w.heap.size w w') (w : World) :
    Calls Tryd.prog 36 #[N n, N a, .int .i64 bt] w fun e w' => e = .returned (N t) ∧ Below w.heap.size w w' := by
  have H0 : Hid (_ ∧ _) := ⟨Mm.nil w, Below.refl w.heap.size w⟩
  have C0 : Hid _ := c0
  have C1 : Hid _ := c1
  have HO : Hid _ := ho
  have HP : Hid _ := hp
  clear c0 c1 ho hp
  go_enter Tryd.func36, Tryd.ntmps36
  refine wp_seq ?_
  refine walk_seq 3 [.made (cells6 n) 24, .made (cells6 a) 24, .made zero6 24] (fun w' => Mm w' []) ?pre1 ?F1 ?hpre1 (fun γ => ?hF1) (by kernel_rfl) ?hL1 ?hS1 ?ho1 ?he1
  case hpre1 =>
    simp only [List.take_succ_cons, List.take_zero]
    exact rfl
  case hF1 =>
    simp only [fill, Kind.val, Act.put, List.setIfInBounds_toArray, List.set_cons_zero, List.set_cons_succ]
    exact rfl
  case hL1 => exact trivial
  case hS1 => exact fun w' hb => H0.out.1.below hb
  case ho1 =>
    refine AllOk.cons ?_ ?_
    · exact fun γ => ⟨rfl, fun w' => ex_box6 rfl rfl⟩
    refine AllOk.cons ?_ ?_
    · exact fun γ => ⟨rfl, fun w' => ex_box6 rfl rfl⟩
    refine AllOk.cons ?_ ?_
    · exact fun γ => ⟨rfl, fun w' => exec_made6 rfl⟩
    exact trivial
  intro γ w1 l hM hl
  have M1 : Mm w1 [(γ 0, cells6 n), (γ 1, cells6 a), (γ 2, zero6)] := H0.out.1.grow hM (Nat.le_refl _) hl [0, 1, 2] rfl (by decide)
  have B1 : Below w.heap.size w w1 := H0.out.2.trans (hM.below.mono H0.out.2.size)
  have o1_0 : Hid (w.heap.size ≤ γ 0) := Nat.le_trans H0.out.2.size (hM.fin (Nat.le_refl _) hl (i := 0) rfl).2.1
  have o1_1 : Hid (w.heap.size ≤ γ 1) := Nat.le_trans H0.out.2.size (hM.fin (Nat.le_refl _) hl (i := 1) rfl).2.1
  have o1_2 : Hid (w.heap.size ≤ γ 2) := Nat.le_trans H0.out.2.size (hM.fin (Nat.le_refl _) hl (i := 2) rfl).2.1
  clear hM hl l
  generalize γ 0 = γ1_0 at M1 o1_0 ⊢
  generalize γ 1 = γ1_1 at M1 o1_1 ⊢
  generalize γ 2 = γ1_2 at M1 o1_2 ⊢
  clear γ
  have H1 : Hid (_ ∧ _) := ⟨M1, B1⟩
  clear M1 B1
  refine rest_at (l := []) rfl ?_
  refine rest_nil ?_
  refine then_normal ?_
  refine wp_seq ?_
  refine walk_seq 9 [.quiet (N a), .quiet (N a), .call (.tuple #[N u, .bool false]), .quiet (.tuple #[N u, .bool false]), .quiet (N u), .quiet (.bool false), .made zero6 24, .laid 6 zero6 (cells6 u), .quiet (.bool false)] (fun w' => Mm w' [(γ1_0, cells6 n), (γ1_1, cells6 a), (γ1_2, zero6)]) ?pre2 ?F2 ?hpre2 (fun γ => ?hF2) (by kernel_rfl) ?hL2 ?hS2 ?ho2 ?he2
  case hpre2 =>
    simp only [List.take_succ_cons, List.take_zero]
    exact rfl
  case hF2 =>
    simp only [fill, Kind.val, Act.put, List.setIfInBounds_toArray, List.set_cons_zero, List.set_cons_succ]
    exact rfl
  case hL2 => exact ⟨⟨_, rfl⟩, trivial⟩
  case hS2 => exact fun w' hb => H1.out.1.below hb
  case ho2 =>
    refine AllOk.cons ?_ ?_
    · exact fun γ => ⟨rfl, fun w' h => ex_load6 h 1 rfl rfl rfl rfl⟩
    refine AllOk.cons ?_ ?_
    · exact fun γ => ⟨rfl, fun w' h => ex_load6 h 1 rfl rfl rfl rfl⟩
    refine AllOk.cons ?_ ?_
    · exact fun γ => ⟨rfl, fun w' h => ⟨38, #[N a, N a], exec_call rfl call38 rfl (by simp only [List.map_toArray, List.map_cons, List.map_nil]; rfl), C0.out w'⟩⟩
    refine AllOk.cons ?_ ?_
    · exact fun γ => ⟨rfl, fun w' _ => rfl⟩
    refine AllOk.cons ?_ ?_
    · (refine fun γ => ⟨rfl, fun w' h => ?_⟩; clear h; go_simp)
    refine AllOk.cons ?_ ?_
    · (refine fun γ => ⟨rfl, fun w' h => ?_⟩; clear h; go_simp)
    refine AllOk.cons ?_ ?_
    · exact fun γ => ⟨rfl, fun w' => exec_made6 rfl⟩
    refine AllOk.cons ?_ ?_
    · exact fun γ => ⟨rfl, rfl, rfl, fun w' h => exec_laid6 h rfl rfl rfl⟩
    refine AllOk.cons ?_ ?_
    · exact fun γ => ⟨rfl, fun w' _ => rfl⟩
    exact trivial
  intro γ w2 l hM hl
  have M2 : Mm w2 [(γ 6, cells6 u), (γ1_0, cells6 n), (γ1_1, cells6 a), (γ1_2, zero6)] := H1.out.1.grow hM (Nat.le_refl _) hl [6] rfl (by decide)
  have B2 : Below w.heap.size w w2 := H1.out.2.trans (hM.below.mono H1.out.2.size)
  have o2_6 : Hid (w.heap.size ≤ γ 6) := Nat.le_trans H1.out.2.size (hM.fin (Nat.le_refl _) hl (i := 6) rfl).2.1
  clear hM hl l H1
  generalize γ 6 = γ2_6 at M2 o2_6 ⊢
  clear γ
  have H2 : Hid (_ ∧ _) := ⟨M2, B2⟩
  clear M2 B2
  refine rest_at (l := []) rfl ?_
  refine rest_nil ?_
  refine then_normal ?_
  refine wp_seq ?_
  refine walk_seq 6 [.quiet (PT γ2_6 0), .quiet (.int .u64 (wd u 0)), .quiet (.int .i64 bt), .quiet (.int .u64 bt), .quiet (.int .u64 z), .quiet (PT γ2_6 0)] (fun w' => Mm w' [(γ2_6, cells6 u), (γ1_0, cells6 n), (γ1_1, cells6 a), (γ1_2, zero6)]) ?pre3 ?F3 ?hpre3 (fun γ => ?hF3) (by kernel_rfl) ?hL3 ?hS3 ?ho3 ?he3
  case hpre3 =>
    simp only [List.take_succ_cons, List.take_zero]
    exact rfl
  case hF3 =>
    simp only [fill, Kind.val, Act.put, List.setIfInBounds_toArray, List.set_cons_zero, List.set_cons_succ]
    exact rfl
  case hL3 => exact trivial
  case hS3 => exact fun w' hb => H2.out.1.below hb
  case ho3 =>
    refine AllOk.cons ?_ ?_
    · (refine fun γ => ⟨rfl, fun w' h => ?_⟩; clear h; go_simp)
    refine AllOk.cons ?_ ?_
    · exact fun γ => ⟨rfl, fun w' h => ex_load1 h 0 rfl rfl rfl rfl⟩
    refine AllOk.cons ?_ ?_
    · exact fun γ => ⟨rfl, fun w' _ => rfl⟩
    refine AllOk.cons ?_ ?_
    · (refine fun γ => ⟨rfl, fun w' h => ?_⟩; clear h; go_simp; rw [IntKind.wrap_u64]; omega)
    refine AllOk.cons ?_ ?_
    · exact fun γ => ⟨rfl, fun w' _ => ex_bor HO.out rfl rfl rfl⟩
    refine AllOk.cons ?_ ?_
    · (refine fun γ => ⟨rfl, fun w' h => ?_⟩; clear h; go_simp)
    exact trivial
  intro γ w3 l hM hl
  have M3 : Mm w3 [(γ2_6, cells6 u), (γ1_0, cells6 n), (γ1_1, cells6 a), (γ1_2, zero6)] := H2.out.1.grow hM (Nat.le_refl _) hl [] rfl (by decide)
  have B3 : Below w.heap.size w w3 := H2.out.2.trans (hM.below.mono H2.out.2.size)
  clear hM hl l H2
  clear γ
  have H3 : Hid (_ ∧ _) := ⟨M3, B3⟩
  clear M3 B3
  refine rest_at (l := [6]) rfl ?_
  refine rest_store rfl rfl rfl (ex_storeI H3.out.1 0 rfl rfl Tryd.sizeOf22 rfl rfl (Nat.le_of_ble_eq_true rfl)) ?_
  have H4 : Hid (Mm (w3.setCells γ2_6 0 [.int .u64 z]) [(γ2_6, cells6 t), (γ1_0, cells6 n), (γ1_1, cells6 a), (γ1_2, zero6)] ∧ Below w.heap.size w (w3.setCells γ2_6 0 [.int .u64 z])) := ⟨by
    have h := H3.out.1.put 0 (off := 0) (vs := [.int .u64 z]) rfl (Nat.le_of_ble_eq_true rfl)
    rw [HP.out] at h
    exact h, below_setCells _ o2_6.out _ _ _ H3.out.2⟩
  clear H3
  generalize hgw : World.setCells _ _ _ _ = w4 at H4 ⊢
  clear hgw
  refine rest_nil ?_
  refine then_normal ?_
  refine wp_seq ?_
  refine wp_seq ?_
  refine walk_seq 4 [.quiet (N t), .quiet (N n), .call (.int .i64 (-1)), .quiet (.bool false)] (fun w' => Mm w' [(γ2_6, cells6 t), (γ1_0, cells6 n), (γ1_1, cells6 a), (γ1_2, zero6)]) ?pre4 ?F4 ?hpre4 (fun γ => ?hF4) (by kernel_rfl) ?hL4 ?hS4 ?ho4 ?he4
  case hpre4 =>
    simp only [List.take_succ_cons, List.take_zero]
    exact rfl
  case hF4 =>
    simp only [fill, Kind.val, Act.put, List.setIfInBounds_toArray, List.set_cons_zero, List.set_cons_succ]
    exact rfl
  case hL4 => exact trivial
  case hS4 => exact fun w' hb => H4.out.1.below hb
  case ho4 =>
    refine AllOk.cons ?_ ?_
    · exact fun γ => ⟨rfl, fun w' h => ex_load6 h 0 rfl rfl rfl rfl⟩
    refine AllOk.cons ?_ ?_
    · exact fun γ => ⟨rfl, fun w' h => ex_load6 h 1 rfl rfl rfl rfl⟩
    refine AllOk.cons ?_ ?_
    · exact fun γ => ⟨rfl, fun w' h => ⟨28, #[N t, N n], exec_call rfl call28 rfl (by simp only [List.map_toArray, List.map_cons, List.map_nil]; rfl), C1.out w'⟩⟩
    refine AllOk.cons ?_ ?_
    · (refine fun γ => ⟨rfl, fun w' h => ?_⟩; clear h; go_simp)
    exact trivial
  intro γ w5 l hM hl
  have M5 : Mm w5 [(γ2_6, cells6 t), (γ1_0, cells6 n), (γ1_1, cells6 a), (γ1_2, zero6)] := H4.out.1.grow hM (Nat.le_refl _) hl [] rfl (by decide)
  have B5 : Below w.heap.size w w5 := H4.out.2.trans (hM.below.mono H4.out.2.size)
  clear hM hl l H4
  clear γ
  have H5 : Hid (_ ∧ _) := ⟨M5, B5⟩
  clear M5 B5
  refine rest_at (l := []) rfl ?_
  refine rest_nil ?_
  refine then_normal ?_
  refine wp_cond_false rfl ?_
  refine wp_skip ?_
  refine then_normal ?_
  refine wp_seq ?_
  refine walk_seq 1 [.quiet (N t)] (fun w' => Mm w' [(γ2_6, cells6 t), (γ1_0, cells6 n), (γ1_1, cells6 a), (γ1_2, zero6)]) ?pre5 ?F5 ?hpre5 (fun γ => ?hF5) (by kernel_rfl) ?hL5 ?hS5 ?ho5 ?he5
  case hpre5 =>
    simp only [List.take_succ_cons, List.take_zero]
    exact rfl
  case hF5 =>
    simp only [fill, Kind.val, Act.put, List.setIfInBounds_toArray, List.set_cons_zero, List.set_cons_succ]
    exact rfl
  case hL5 => exact trivial
  case hS5 => exact fun w' hb => H5.out.1.below hb
  case ho5 =>
    refine AllOk.cons ?_ ?_
    · exact fun γ => ⟨rfl, fun w' h => ex_load6 h 0 rfl rfl rfl rfl⟩
    exact trivial
  intro γ w6 l hM hl
  have M6 : Mm w6 [(γ2_6, cells6 t), (γ1_0, cells6 n), (γ1_1, cells6 a), (γ1_2, zero6)] := H5.out.1.grow hM (Nat.le_refl _) hl [] rfl (by decide)
  have B6 : Below w.heap.size w w6 := H5.out.2.trans (hM.below.mono H5.out.2.size)
  clear hM hl l H5
  clear γ
  have H6 : Hid (_ ∧ _) := ⟨M6, B6⟩
  clear M6 B6
  refine rest_at (l := [1]) rfl ?_
  refine rest_store rfl rfl rfl (ex_store6 H6.out.1 3 rfl rfl rfl rfl (Nat.le_of_ble_eq_true rfl)) ?_
  have H7 : Hid (Mm (w6.setCells γ1_2 0 (cells6 t)) [(γ2_6, cells6 t), (γ1_0, cells6 n), (γ1_1, cells6 a), (γ1_2, cells6 t)] ∧ Below w.heap.size w (w6.setCells γ1_2 0 (cells6 t))) := ⟨H6.out.1.put 3 (off := 0) (vs := cells6 t) rfl (Nat.le_of_ble_eq_true rfl), below_setCells _ o1_2.out _ _ _ H6.out.2⟩
  clear H6
  generalize hgw : World.setCells _ _ _ _ = w7 at H7 ⊢
  clear hgw
  refine rest_nil ?_
  refine then_normal ?_
  refine wp_ret ?_
  repeat (first | refine then_ret ?_ | refine block_ret ?_)
  have c0 := H7.out.1.get 3 rfl 0 rfl
  have c1 := H7.out.1.get 3 rfl 1 rfl
  have c2 := H7.out.1.get 3 rfl 2 rfl
  have c3 := H7.out.1.get 3 rfl 3 rfl
  have c4 := H7.out.1.get 3 rfl 4 rfl
  have c5 := H7.out.1.get 3 rfl 5 rfl
  refine bodyPost_ret (v := N t) (by simp [results, Tryd.results36, go_sem, *]) rfl ?_
  exact ⟨rfl, H7.out.2⟩
set_option maxRecDepth 100000 in
theorem twice_2 (n a u t r : Nat) (bt z c : Int) (hb0 : 0 ≤ bt) (hb1 : bt ≤ 1) (hc : ¬ c < 0) (ho : bits BinOp.or IntKind.u64 (wd u 0) bt = z) (hp : patch (cells6 u) 0 [.int .u64 z] = cells6 t)
    (c0 : ∀ w, Calls Tryd.prog 38 #[N a, N a] w fun e w' => e = .returned (.tuple #[N u, .bool false]) ∧ Below w.heap.size w w')
    (c1 : ∀ w, Calls Tryd.prog 28 #[N t, N n] w fun e w' => e = .returned (.int .i64 c) ∧ Below w.heap.size w w')
    (c2 : ∀ w, Calls Tryd.prog 39 #[N t, N n] w fun e w' => e = .returned (.tuple #[N r, .bool false]) ∧ Below w.heap.size w w') (w : World) :
    Calls Tryd.prog 36 #[N n, N a, .int .i64 bt] w fun e w' => e = .returned (N r) ∧ Below w.heap.size w w' := by
  have H0 : Hid (_ ∧ _) := ⟨Mm.nil w, Below.refl w.heap.size w⟩
  have C0 : Hid _ := c0
  have C1 : Hid _ := c1
  have C2 : Hid _ := c2
  have HO : Hid _ := ho
  have HP : Hid _ := hp
  clear c0 c1 c2 ho hp
  go_enter Tryd.func36, Tryd.ntmps36
  refine wp_seq ?_
  refine walk_seq 3 [.made (cells6 n) 24, .made (cells6 a) 24, .made zero6 24] (fun w' => Mm w' []) ?pre1 ?F1 ?hpre1 (fun γ => ?hF1) (by kernel_rfl) ?hL1 ?hS1 ?ho1 ?he1
  case hpre1 =>
    simp only [List.take_succ_cons, List.take_zero]
    exact rfl
  case hF1 =>
    simp only [fill, Kind.val, Act.put, List.setIfInBounds_toArray, List.set_cons_zero, List.set_cons_succ]
    exact rfl
  case hL1 => exact trivial
  case hS1 => exact fun w' hb => H0.out.1.below hb
  case ho1 =>
    refine AllOk.cons ?_ ?_
    · exact fun γ => ⟨rfl, fun w' => ex_box6 rfl rfl⟩
    refine AllOk.cons ?_ ?_
    · exact fun γ => ⟨rfl, fun w' => ex_box6 rfl rfl⟩
    refine AllOk.cons ?_ ?_
    · exact fun γ => ⟨rfl, fun w' => exec_made6 rfl⟩
    exact trivial
  intro γ w1 l hM hl
  have M1 : Mm w1 [(γ 0, cells6 n), (γ 1, cells6 a), (γ 2, zero6)] := H0.out.1.grow hM (Nat.le_refl _) hl [0, 1, 2] rfl (by decide)
  have B1 : Below w.heap.size w w1 := H0.out.2.trans (hM.below.mono H0.out.2.size)
  have o1_0 : Hid (w.heap.size ≤ γ 0) := Nat.le_trans H0.out.2.size (hM.fin (Nat.le_refl _) hl (i := 0) rfl).2.1
  have o1_1 : Hid (w.heap.size ≤ γ 1) := Nat.le_trans H0.out.2.size (hM.fin (Nat.le_refl _) hl (i := 1) rfl).2.1
  have o1_2 : Hid (w.heap.size ≤ γ 2) := Nat.le_trans H0.out.2.size (hM.fin (Nat.le_refl _) hl (i := 2) rfl).2.1
  clear hM hl l
  generalize γ 0 = γ1_0 at M1 o1_0 ⊢
  generalize γ 1 = γ1_1 at M1 o1_1 ⊢
  generalize γ 2 = γ1_2 at M1 o1_2 ⊢
  clear γ
  have H1 : Hid (_ ∧ _) := ⟨M1, B1⟩
  clear M1 B1
  refine rest_at (l := []) rfl ?_
  refine rest_nil ?_
  refine then_normal ?_
  refine wp_seq ?_
  refine walk_seq 9 [.quiet (N a), .quiet (N a), .call (.tuple #[N u, .bool false]), .quiet (.tuple #[N u, .bool false]), .quiet (N u), .quiet (.bool false), .made zero6 24, .laid 6 zero6 (cells6 u), .quiet (.bool false)] (fun w' => Mm w' [(γ1_0, cells6 n), (γ1_1, cells6 a), (γ1_2, zero6)]) ?pre2 ?F2 ?hpre2 (fun γ => ?hF2) (by kernel_rfl) ?hL2 ?hS2 ?ho2 ?he2
  case hpre2 =>
    simp only [List.take_succ_cons, List.take_zero]
    exact rfl
  case hF2 =>
    simp only [fill, Kind.val, Act.put, List.setIfInBounds_toArray, List.set_cons_zero, List.set_cons_succ]
    exact rfl
  case hL2 => exact ⟨⟨_, rfl⟩, trivial⟩
  case hS2 => exact fun w' hb => H1.out.1.below hb
  case ho2 =>
    refine AllOk.cons ?_ ?_
    · exact fun γ => ⟨rfl, fun w' h => ex_load6 h 1 rfl rfl rfl rfl⟩
    refine AllOk.cons ?_ ?_
    · exact fun γ => ⟨rfl, fun w' h => ex_load6 h 1 rfl rfl rfl rfl⟩
    refine AllOk.cons ?_ ?_
    · exact fun γ => ⟨rfl, fun w' h => ⟨38, #[N a, N a], exec_call rfl call38 rfl (by simp only [List.map_toArray, List.map_cons, List.map_nil]; rfl), C0.out w'⟩⟩
    refine AllOk.cons ?_ ?_
    · exact fun γ => ⟨rfl, fun w' _ => rfl⟩
    refine AllOk.cons ?_ ?_
    · (refine fun γ => ⟨rfl, fun w' h => ?_⟩; clear h; go_simp)
    refine AllOk.cons ?_ ?_
    · (refine fun γ => ⟨rfl, fun w' h => ?_⟩; clear h; go_simp)
    refine AllOk.cons ?_ ?_
    · exact fun γ => ⟨rfl, fun w' => exec_made6 rfl⟩
    refine AllOk.cons ?_ ?_
    · exact fun γ => ⟨rfl, rfl, rfl, fun w' h => exec_laid6 h rfl rfl rfl⟩
    refine AllOk.cons ?_ ?_
    · exact fun γ => ⟨rfl, fun w' _ => rfl⟩
    exact trivial
  intro γ w2 l hM hl
  have M2 : Mm w2 [(γ 6, cells6 u), (γ1_0, cells6 n), (γ1_1, cells6 a), (γ1_2, zero6)] := H1.out.1.grow hM (Nat.le_refl _) hl [6] rfl (by decide)
  have B2 : Below w.heap.size w w2 := H1.out.2.trans (hM.below.mono H1.out.2.size)
  have o2_6 : Hid (w.heap.size ≤ γ 6) := Nat.le_trans H1.out.2.size (hM.fin (Nat.le_refl _) hl (i := 6) rfl).2.1
  clear hM hl l H1
  generalize γ 6 = γ2_6 at M2 o2_6 ⊢
  clear γ
  have H2 : Hid (_ ∧ _) := ⟨M2, B2⟩
  clear M2 B2
  refine rest_at (l := []) rfl ?_
  refine rest_nil ?_
  refine then_normal ?_
  refine wp_seq ?_
  refine walk_seq 6 [.quiet (PT γ2_6 0), .quiet (.int .u64 (wd u 0)), .quiet (.int .i64 bt), .quiet (.int .u64 bt), .quiet (.int .u64 z), .quiet (PT γ2_6 0)] (fun w' => Mm w' [(γ2_6, cells6 u), (γ1_0, cells6 n), (γ1_1, cells6 a), (γ1_2, zero6)]) ?pre3 ?F3 ?hpre3 (fun γ => ?hF3) (by kernel_rfl) ?hL3 ?hS3 ?ho3 ?he3
  case hpre3 =>
    simp only [List.take_succ_cons, List.take_zero]
    exact rfl
  case hF3 =>
    simp only [fill, Kind.val, Act.put, List.setIfInBounds_toArray, List.set_cons_zero, List.set_cons_succ]
    exact rfl
  case hL3 => exact trivial
  case hS3 => exact fun w' hb => H2.out.1.below hb
  case ho3 =>
    refine AllOk.cons ?_ ?_
    · (refine fun γ => ⟨rfl, fun w' h => ?_⟩; clear h; go_simp)
    refine AllOk.cons ?_ ?_
    · exact fun γ => ⟨rfl, fun w' h => ex_load1 h 0 rfl rfl rfl rfl⟩
    refine AllOk.cons ?_ ?_
    · exact fun γ => ⟨rfl, fun w' _ => rfl⟩
    refine AllOk.cons ?_ ?_
    · (refine fun γ => ⟨rfl, fun w' h => ?_⟩; clear h; go_simp; rw [IntKind.wrap_u64]; omega)
    refine AllOk.cons ?_ ?_
    · exact fun γ => ⟨rfl, fun w' _ => ex_bor HO.out rfl rfl rfl⟩
    refine AllOk.cons ?_ ?_
    · (refine fun γ => ⟨rfl, fun w' h => ?_⟩; clear h; go_simp)
    exact trivial
  intro γ w3 l hM hl
  have M3 : Mm w3 [(γ2_6, cells6 u), (γ1_0, cells6 n), (γ1_1, cells6 a), (γ1_2, zero6)] := H2.out.1.grow hM (Nat.le_refl _) hl [] rfl (by decide)
  have B3 : Below w.heap.size w w3 := H2.out.2.trans (hM.below.mono H2.out.2.size)
  clear hM hl l H2
  clear γ
  have H3 : Hid (_ ∧ _) := ⟨M3, B3⟩
  clear M3 B3
  refine rest_at (l := [6]) rfl ?_
  refine rest_store rfl rfl rfl (ex_storeI H3.out.1 0 rfl rfl Tryd.sizeOf22 rfl rfl (Nat.le_of_ble_eq_true rfl)) ?_
  have H4 : Hid (Mm (w3.setCells γ2_6 0 [.int .u64 z]) [(γ2_6, cells6 t), (γ1_0, cells6 n), (γ1_1, cells6 a), (γ1_2, zero6)] ∧ Below w.heap.size w (w3.setCells γ2_6 0 [.int .u64 z])) := ⟨by
    have h := H3.out.1.put 0 (off := 0) (vs := [.int .u64 z]) rfl (Nat.le_of_ble_eq_true rfl)
    rw [HP.out] at h
    exact h, below_setCells _ o2_6.out _ _ _ H3.out.2⟩
  clear H3
  generalize hgw : World.setCells _ _ _ _ = w4 at H4 ⊢
  clear hgw
  refine rest_nil ?_
  refine then_normal ?_
  refine wp_seq ?_
  refine wp_seq ?_
  refine walk_seq 4 [.quiet (N t), .quiet (N n), .call (.int .i64 c), .quiet (.bool true)] (fun w' => Mm w' [(γ2_6, cells6 t), (γ1_0, cells6 n), (γ1_1, cells6 a), (γ1_2, zero6)]) ?pre4 ?F4 ?hpre4 (fun γ => ?hF4) (by kernel_rfl) ?hL4 ?hS4 ?ho4 ?he4
  case hpre4 =>
    simp only [List.take_succ_cons, List.take_zero]
    exact rfl
  case hF4 =>
    simp only [fill, Kind.val, Act.put, List.setIfInBounds_toArray, List.set_cons_zero, List.set_cons_succ]
    exact rfl
  case hL4 => exact trivial
  case hS4 => exact fun w' hb => H4.out.1.below hb
  case ho4 =>
    refine AllOk.cons ?_ ?_
    · exact fun γ => ⟨rfl, fun w' h => ex_load6 h 0 rfl rfl rfl rfl⟩
    refine AllOk.cons ?_ ?_
    · exact fun γ => ⟨rfl, fun w' h => ex_load6 h 1 rfl rfl rfl rfl⟩
    refine AllOk.cons ?_ ?_
    · exact fun γ => ⟨rfl, fun w' h => ⟨28, #[N t, N n], exec_call rfl call28 rfl (by simp only [List.map_toArray, List.map_cons, List.map_nil]; rfl), C1.out w'⟩⟩
    refine AllOk.cons ?_ ?_
    · (refine fun γ => ⟨rfl, fun w' h => ?_⟩; clear h; go_simp <;> omega)
    exact trivial
  intro γ w5 l hM hl
  have M5 : Mm w5 [(γ2_6, cells6 t), (γ1_0, cells6 n), (γ1_1, cells6 a), (γ1_2, zero6)] := H4.out.1.grow hM (Nat.le_refl _) hl [] rfl (by decide)
  have B5 : Below w.heap.size w w5 := H4.out.2.trans (hM.below.mono H4.out.2.size)
  clear hM hl l H4
  clear γ
  have H5 : Hid (_ ∧ _) := ⟨M5, B5⟩
  clear M5 B5
  refine rest_at (l := []) rfl ?_
  refine rest_nil ?_
  refine then_normal ?_
  refine wp_cond_true rfl ?_
  refine walk_seq 6 [.quiet (N t), .quiet (N n), .call (.tuple #[N r, .bool false]), .quiet (.tuple #[N r, .bool false]), .quiet (N r), .quiet (.bool false)] (fun w' => Mm w' [(γ2_6, cells6 t), (γ1_0, cells6 n), (γ1_1, cells6 a), (γ1_2, zero6)]) ?pre5 ?F5 ?hpre5 (fun γ => ?hF5) (by kernel_rfl) ?hL5 ?hS5 ?ho5 ?he5
  case hpre5 =>
    simp only [List.take_succ_cons, List.take_zero]
    exact rfl
  case hF5 =>
    simp only [fill, Kind.val, Act.put, List.setIfInBounds_toArray, List.set_cons_zero, List.set_cons_succ]
    exact rfl
  case hL5 => exact trivial
  case hS5 => exact fun w' hb => H5.out.1.below hb
  case ho5 =>
    refine AllOk.cons ?_ ?_
    · exact fun γ => ⟨rfl, fun w' h => ex_load6 h 0 rfl rfl rfl rfl⟩
    refine AllOk.cons ?_ ?_
    · exact fun γ => ⟨rfl, fun w' h => ex_load6 h 1 rfl rfl rfl rfl⟩
    refine AllOk.cons ?_ ?_
    · exact fun γ => ⟨rfl, fun w' h => ⟨39, #[N t, N n], exec_call rfl call39 rfl (by simp only [List.map_toArray, List.map_cons, List.map_nil]; rfl), C2.out w'⟩⟩
    refine AllOk.cons ?_ ?_
    · exact fun γ => ⟨rfl, fun w' _ => rfl⟩
    refine AllOk.cons ?_ ?_
    · (refine fun γ => ⟨rfl, fun w' h => ?_⟩; clear h; go_simp)
    refine AllOk.cons ?_ ?_
    · (refine fun γ => ⟨rfl, fun w' h => ?_⟩; clear h; go_simp)
    exact trivial
  intro γ w6 l hM hl
  have M6 : Mm w6 [(γ2_6, cells6 t), (γ1_0, cells6 n), (γ1_1, cells6 a), (γ1_2, zero6)] := H5.out.1.grow hM (Nat.le_refl _) hl [] rfl (by decide)
  have B6 : Below w.heap.size w w6 := H5.out.2.trans (hM.below.mono H5.out.2.size)
  clear hM hl l H5
  clear γ
  have H6 : Hid (_ ∧ _) := ⟨M6, B6⟩
  clear M6 B6
  refine rest_at (l := [6]) rfl ?_
  refine rest_store rfl rfl rfl (ex_store6 H6.out.1 0 rfl rfl rfl rfl (Nat.le_of_ble_eq_true rfl)) ?_
  have H7 : Hid (Mm (w6.setCells γ2_6 0 (cells6 r)) [(γ2_6, cells6 r), (γ1_0, cells6 n), (γ1_1, cells6 a), (γ1_2, zero6)] ∧ Below w.heap.size w (w6.setCells γ2_6 0 (cells6 r))) := ⟨H6.out.1.put 0 (off := 0) (vs := cells6 r) rfl (Nat.le_of_ble_eq_true rfl), below_setCells _ o2_6.out _ _ _ H6.out.2⟩
  clear H6
  generalize hgw : World.setCells _ _ _ _ = w7 at H7 ⊢
  clear hgw
  refine rest_nil ?_
  refine then_normal ?_
  refine wp_seq ?_
  refine walk_seq 1 [.quiet (N r)] (fun w' => Mm w' [(γ2_6, cells6 r), (γ1_0, cells6 n), (γ1_1, cells6 a), (γ1_2, zero6)]) ?pre6 ?F6 ?hpre6 (fun γ => ?hF6) (by kernel_rfl) ?hL6 ?hS6 ?ho6 ?he6
  case hpre6 =>
    simp only [List.take_succ_cons, List.take_zero]
    exact rfl
  case hF6 =>
    simp only [fill, Kind.val, Act.put, List.setIfInBounds_toArray, List.set_cons_zero, List.set_cons_succ]
    exact rfl
  case hL6 => exact trivial
  case hS6 => exact fun w' hb => H7.out.1.below hb
  case ho6 =>
    refine AllOk.cons ?_ ?_
    · exact fun γ => ⟨rfl, fun w' h => ex_load6 h 0 rfl rfl rfl rfl⟩
    exact trivial
  intro γ w8 l hM hl
  have M8 : Mm w8 [(γ2_6, cells6 r), (γ1_0, cells6 n), (γ1_1, cells6 a), (γ1_2, zero6)] := H7.out.1.grow hM (Nat.le_refl _) hl [] rfl (by decide)
  have B8 : Below w.heap.size w w8 := H7.out.2.trans (hM.below.mono H7.out.2.size)
  clear hM hl l H7
  clear γ
  have H8 : Hid (_ ∧ _) := ⟨M8, B8⟩
  clear M8 B8
  refine rest_at (l := [1]) rfl ?_
  refine rest_store rfl rfl rfl (ex_store6 H8.out.1 3 rfl rfl rfl rfl (Nat.le_of_ble_eq_true rfl)) ?_
  have H9 : Hid (Mm (w8.setCells γ1_2 0 (cells6 r)) [(γ2_6, cells6 r), (γ1_0, cells6 n), (γ1_1, cells6 a), (γ1_2, cells6 r)] ∧ Below w.heap.size w (w8.setCells γ1_2 0 (cells6 r))) := ⟨H8.out.1.put 3 (off := 0) (vs := cells6 r) rfl (Nat.le_of_ble_eq_true rfl), below_setCells _ o1_2.out _ _ _ H8.out.2⟩
  clear H8
  generalize hgw : World.setCells _ _ _ _ = w9 at H9 ⊢
  clear hgw
  refine rest_nil ?_
  refine then_normal ?_
  refine wp_ret ?_
  repeat (first | refine then_ret ?_ | refine block_ret ?_)
  have c0 := H9.out.1.get 3 rfl 0 rfl
  have c1 := H9.out.1.get 3 rfl 1 rfl
  have c2 := H9.out.1.get 3 rfl 2 rfl
  have c3 := H9.out.1.get 3 rfl 3 rfl
  have c4 := H9.out.1.get 3 rfl 4 rfl
  have c5 := H9.out.1.get 3 rfl 5 rfl
  refine bodyPost_ret (v := N r) (by simp [results, Tryd.results36, go_sem, *]) rfl ?_
  exact ⟨rfl, H9.out.2⟩
theorem or_bit (x b : Nat) (hx : x < 18446744073709551616) (he : x % 2 = 0) (hb : b ≤ 1) : bits BinOp.or IntKind.u64 (x : Int) (b : Int) = ((x + b : Nat) : Int) := by
  have h := bits_or_u64_nat x b hx (by omega)
  have e : x ||| b = x + b := by
    rcases (by omega : b = 0 ∨ b = 1) with rfl | rfl
    · simp
    · apply Nat.eq_of_testBit_eq
      intro i
      rw [Nat.testBit_or]
      cases i with
      | zero => simp [Nat.testBit_zero]; omega
      | succ i => 
        rw [Nat.testBit_succ, Nat.testBit_succ, Nat.testBit_succ, show (x + 1) / 2 = x / 2 by omega]
        simp
  rw [e] at h
  exact h
theorem even_wd (u b k : Nat) (he : u % 2 = 0) (hb : b ≤ 1) : wd (u + b) (k + 1) = wd u (k + 1) := by
  unfold wd
  rw [Nat.mul_add, Nat.mul_one, Nat.pow_add, Nat.mul_comm (2 ^ (64 * k)), ← Nat.div_div_eq_div_mul, ← Nat.div_div_eq_div_mul]
  have : (u + b) / 2 ^ 64 = u / 2 ^ 64 := by omega
  rw [this]
theorem twice_any (n a b : Nat) (ok : Ok n) (ha : a < n) (hb : b ≤ 1) (w : World) :
    Calls Tryd.prog 36 #[N n, N a, .int .i64 ((b : Nat) : Int)] w fun e w' => e = .returned (N ((2 * a + b) % n)) ∧ Below w.heap.size w w' := by
  have hbn := ok.big
  have ht := ok.top
  have c46 := fun w => add_ref a a (by omega) (by omega) w
  rw [decide_eq_false (by omega), Nat.mod_eq_of_lt (show a + a < big by omega), ← Nat.two_mul] at c46
  have h0 : wd (2 * a) 0 = ((2 * a % 18446744073709551616 : Nat) : Int) := by unfold wd; rw [Nat.mul_zero, Nat.pow_zero, Nat.div_one]
  have ho := or_bit (2 * a % 18446744073709551616) b (Nat.mod_lt _ (by decide)) (by omega) hb
  rw [← h0] at ho
  have h1 : ((2 * a % 18446744073709551616 + b : Nat) : Int) = wd (2 * a + b) 0 := by
    unfold wd; rw [Nat.mul_zero, Nat.pow_zero, Nat.div_one]; omega
  rw [h1] at ho
  have hp : patch (cells6 (2 * a)) 0 [.int .u64 (wd (2 * a + b) 0)] = cells6 (2 * a + b) := by
    have e := fun k => (even_wd (2 * a) b k (by omega) hb).symm
    show [Value.int .u64 (wd (2 * a + b) 0), .int .u64 (wd (2 * a) 1), .int .u64 (wd (2 * a) 2), .int .u64 (wd (2 * a) 3), .int .u64 (wd (2 * a) 4), .int .u64 (wd (2 * a) 5)] = _
    rw [show wd (2 * a) 1 = wd (2 * a + b) 1 from e 0, show wd (2 * a) 2 = wd (2 * a + b) 2 from e 1, show wd (2 * a) 3 = wd (2 * a + b) 3 from e 2, show wd (2 * a) 4 = wd (2 * a + b) 4 from e 3, show wd (2 * a) 5 = wd (2 * a + b) 5 from e 4]
  have c38 := fun w => compare_ref (2 * a + b) n (by omega) hbn w
  by_cases h : 2 * a + b < n
  · rw [cmp_lt h] at c38
    rw [Nat.mod_eq_of_lt h]
    exact twice_1 n a (2 * a) (2 * a + b) _ _ (by omega) (by omega) ho hp c46 c38 w
  · have c47 := fun w => sub_ref (2 * a + b) n (by omega) hbn w
    rw [decide_eq_false h, show 2 * a + b + big - n = 2 * a + b - n + big by omega, Nat.add_mod_right, Nat.mod_eq_of_lt (show 2 * a + b - n < big by omega)] at c47
    have e : (2 * a + b) % n = 2 * a + b - n := by rw [Nat.mod_eq_sub_mod (by omega), Nat.mod_eq_of_lt (by omega)]
    rw [e]
    exact twice_2 n a (2 * a) (2 * a + b) _ _ _ _ (by omega) (by omega) (cmp_ge h) ho hp c46 c38 c47 w
end Rg
end Go.Proofs.YtfmjfgkgoenhnaaDoor
end
