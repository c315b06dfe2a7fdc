/- R5, M17s, M20, M21, M22, M23, M24 in one text -/
import Derived.Test.YtkfannhbnbgloaaDoorR3
import Derived.Test.YtkfannhbnbgloaaDoorM14
import Derived.Test.YtkfannhbnbgloaaDoorDT
/- Regions whose last operations are stores into blocks that were there, for the first of which some loads need not have waited: these are asked behind that store too. -/
namespace Go.Proofs.YtkfannhbnbgloaaDoor
open Go.RowKit
namespace Rg
section
variable {P : Program} {ops : Array Oper} {ks : List Kind} {a₀ : Act} {w₀ : World} {Q : Exit → Act → World → Prop}
/-- An operation that the store need not wait for: it tells its value behind it. -/
def LateAt (P : Program) (ops : Array Oper) (ks : List Kind) (a : Act) (w : World) : List Nat → Prop
  | [] => True
  | i :: r => (∃ o v, ops[i]? = some o ∧ ks[i]? = some (.quiet v) ∧ Region.wanted o (yielded ops a.tmps) = true ∧ (execOp a.eval o).run P w = .ok (.value v) w) ∧ LateAt P ops ks a w r
theorem LateAt.at {a : Act} {w : World} : ∀ {late : List Nat}, LateAt P ops ks a w late → ∀ {i : Nat}, i ∈ late → ∃ o v, ops[i]? = some o ∧ ks[i]? = some (.quiet v) ∧ Region.wanted o (yielded ops a.tmps) = true ∧ (execOp a.eval o).run P w = .ok (.value v) w
  | [], _, _, h => by cases h
  | j :: r, hl, i, h => by
    rcases List.mem_cons.1 h with e | h
    · subst e; exact hl.1
    · exact hl.2.at h
def isQuiet : Option Kind → Bool
  | some (.quiet _) => true
  | _ => false
theorem isQuiet_spec {k : Option Kind} (h : isQuiet k = true) : ∃ v, k = some (.quiet v) := by
  cases k with
  | none => cases h
  | some k => cases k <;> first | exact ⟨_, rfl⟩ | cases h
theorem mem_late2 {γ : Nat → Nat} {w : World} : ∀ {late : List Nat} {l : Array Bool}, (late.all fun i => isQuiet ks[i]?) = true → Mem ks w₀ l γ w → ∃ l', Mem ks w₀ l' γ w ∧ l'.size = l.size ∧ (∀ i, l.getD i false = true → l'.getD i false = true) ∧ ∀ i ∈ late, i < l.size → l'.getD i false = true
  | [], l, _, h => ⟨l, h, rfl, fun _ h => h, fun _ h => by cases h⟩
  | j :: r, l, hl, h => by
    simp only [List.all_cons, Bool.and_eq_true] at hl
    obtain ⟨v, hk⟩ := isQuiet_spec hl.1
    obtain ⟨l', h1, h2, h3, h4⟩ := mem_late2 (late := r) hl.2 (h.still (Below.refl _ _) hk rfl (fun _ _ _ h => by cases h))
    refine ⟨l', h1, by rw [h2]; simp, fun i hi => h3 i (getD_true hi), fun i hi hlt => ?_⟩
    rcases List.mem_cons.1 hi with e | hi
    · subst e
      exact h3 i (by simp [hlt])
    · exact h4 i hi (by simpa using hlt)
theorem after_put2 {full : Array Oper} {n p : Nat} (hO : Orderly ops ks n) (hn : n = a₀.tmps.size) (hp : ops.size = p) (hpf : p + 1 ≤ full.size) (hfull : ∀ i, i < p → full[i]? = ops[i]?) (hgd : ∀ {i : Nat} {o : Oper} {g : Nat} {b : Bool}, ops[i]? = some o → o.guard = some (g, b) → g < p)
    (hup : ∀ {i : Nat} {o : Oper}, full[i]? = some o → ∀ e ∈ o.after, Region.binds .any e = true → e.on < i)
    (hwt : ∀ {i : Nat} {o : Oper}, full[i]? = some o → p + 1 ≤ i → ∀ j, j < i → waitsT full 4 o j = true)
    {late : List Nat} {γ : Nat → Nat} {w : World} (hlate : LateAt P ops ks (fill γ 0 ops.toList ks a₀) w late) (hQ : wpOps P full Q (List.range' (p + 1) (full.size - (p + 1))) (fill γ 0 ops.toList ks a₀) w) :
    ∀ (fuel : Nat) (l : Array Bool) (a : Act), l.size = full.size → l.toList.count false ≤ fuel → Closed full l → (∀ i, i ≤ p → l.getD i true = false → i ∈ late) → (∀ i, p + 1 ≤ i → i < full.size → l.getD i true = false) → Agree ops ks a₀ l γ a → wpAny P .any full Q fuel l a w := by
  intro fuel
  induction fuel with
  | zero =>
    intro l a hsz hc hcl hu ht hA
    have hall : ∀ i, i < full.size → l.getD i false = true := fun i hi => by
      cases hb : l.getD i true with
      | false => have := count_set hb; omega
      | true =>
        have hi' : i < l.size := by omega
        simpa [hi'] using hb
    rw [hA.whole (fun i hi => hall i (by omega))]
    have h0 := tail_count full.size (full.size - (p + 1)) l hsz (by omega) (fun i hi1 hi2 => ht i (by omega) hi2)
    exact rest_anyT (p + 1) hup hwt (full.size - (p + 1)) 0 (p + 1) l _ w (by omega) (Nat.le_refl _) hsz (by omega) hcl (fun i hi => hall i (by omega)) ht hQ
  | succ fuel ih =>
    intro l a hsz hc hcl hu ht hA
    by_cases hall : ∀ i, i < p + 1 → l.getD i false = true
    · rw [hA.whole (fun i hi => hall i (by omega))]
      have h0 := tail_count full.size (full.size - (p + 1)) l hsz (by omega) (fun i hi1 hi2 => ht i (by omega) hi2)
      exact rest_anyT (p + 1) hup hwt (full.size - (p + 1)) (fuel + 1) (p + 1) l _ w (by omega) (Nat.le_refl _) hsz (by omega) hcl hall ht hQ
    · have hex : ∃ x, x < p + 1 ∧ l.getD x false = false := by
        apply Classical.byContradiction
        intro hno
        apply hall
        intro i hi
        cases hb : l.getD i false with
        | true => rfl
        | false => exact absurd ⟨i, hi, hb⟩ hno
      obtain ⟨x, hx, hxf⟩ := hex
      refine ⟨fun hr => ?_, fun i hi => ?_⟩
      · have := ready_all hup hsz hr x (by omega)
        rw [hxf] at this
        cases this
      · obtain ⟨hun, o, ho, hedge⟩ := mem_ready.1 hi
        have hilt : i < full.size := (Array.getElem?_eq_some_iff.1 ho).1
        have hip1 : i < p + 1 := by
          rcases Nat.lt_or_ge i (p + 1) with h' | h'
          · exact h'
          · have := waitsT_spec hcl 4 o (hwt ho h' x (by omega)) hedge
            rw [hxf] at this
            cases this
        obtain ⟨o', v, ho', hk, hxq⟩ := hlate.at (hu i (by omega) hun)
        have hip : i < p := by rw [← hp]; exact (Array.getElem?_eq_some_iff.1 ho').1
        have hof := ho
        rw [hfull i hip, ho'] at ho
        injection ho with ho
        subst ho
        obtain ⟨he, hw0⟩ := hA.sees hO ho' hedge
        have hy : ∀ ts, Region.wanted o' (yielded full ts) = Region.wanted o' (yielded ops ts) := fun ts => by
          unfold Region.wanted
          cases hg : o'.guard with
          | none => rfl
          | some gw =>
            obtain ⟨g, want⟩ := gw
            have : yielded full ts g = yielded ops ts g := by unfold yielded; rw [hfull g (hgd ho' hg)]
            simp only [this]
        have hc' := count_set hun
        refine wpOp_step hof (fun K' hK => ?_)
        rw [hy, hw0, if_pos hxq.1]
        unfold Oper.wp
        rw [he, hxq.2]
        refine hK _ _ (ih _ _ (by simp [hsz]) (by omega) (hcl.step hof hedge) (fun j hj hj2 => ?_) (fun j hj hj2 => ?_) (hA.step hO hn ho' hk (fun _ _ => rfl)))
        · by_cases e : i = j
          · subst e
            have hi' : i < l.size := by omega
            simp [hi'] at hj2
          · rw [getD_set_ne true e] at hj2
            exact hu j hj hj2
        · rw [getD_set_ne true (by omega)]
          exact ht j hj hj2

theorem first_put2 {full : Array Oper} {n p : Nat} {op : Oper} (hO : Orderly ops ks n) (hn : n = a₀.tmps.size) (hL : LaidOk ks ks) {S : World → Prop} (hS : ∀ w, Below w₀.heap.size w₀ w → S w)
    (hp : ops.size = p) (hpf : p + 1 ≤ full.size) (hfull : ∀ i, i < p → full[i]? = ops[i]?) (hgd : ∀ {i : Nat} {o : Oper} {g : Nat} {b : Bool}, ops[i]? = some o → o.guard = some (g, b) → g < p)
    (hup : ∀ {i : Nat} {o : Oper}, full[i]? = some o → ∀ e ∈ o.after, Region.binds .any e = true → e.on < i)
    (hop : full[p]? = some op) (hdst : op.dst = none) (hgu : op.guard = none) (hsel : ∀ cs b, op.op ≠ .select cs b)
    {late : List Nat} (hwp : ∀ j, j < p → waitsT full 4 op j = true ∨ j ∈ late) (hlook : ∀ d ∈ op.looksAt full, ∀ j oj, ops[j]? = some oj → oj.dst = some d → waitsT full 4 op j = true)
    (hwt : ∀ {i : Nat} {o : Oper}, full[i]? = some o → p + 1 ≤ i → ∀ j, j < i → waitsT full 4 o j = true)
    (hlate : (late.all fun i => isQuiet ks[i]?) = true)
    (hops : AllOk P ops S (fun γ => fill γ 0 ops.toList ks a₀) ops.toList ks)
    (hend : ∀ γ w l, Mem ks w₀ l γ w → (∀ i, i < p → l.getD i false = true) → ∃ w', (execOp (fill γ 0 ops.toList ks a₀).eval op).run P w = .ok .skip w' ∧ LateAt P ops ks (fill γ 0 ops.toList ks a₀) w' late ∧ wpOps P full Q (List.range' (p + 1) (full.size - (p + 1))) (fill γ 0 ops.toList ks a₀) w') :
    ∀ (fuel : Nat) (l : Array Bool) (γ : Nat → Nat) (a : Act) (w : World), l.size = full.size → l.toList.count false ≤ fuel → Closed full l → (∀ i, p ≤ i → i < full.size → l.getD i true = false) → Agree ops ks a₀ l γ a → Mem ks w₀ l γ w → wpAny P .any full Q fuel l a w := by
  intro fuel
  induction fuel with
  | zero =>
    intro l γ a w hsz hc hcl ht hA hM
    have := count_set (ht p (Nat.le_refl _) (by omega))
    omega
  | succ fuel ih =>
    intro l γ a w hsz hc hcl ht hA hM
    have hpu := ht p (Nat.le_refl _) (by omega)
    refine ⟨fun hr => ?_, fun i hi => ?_⟩
    · have := ready_all hup hsz hr p (by omega)
      rw [(getD_same hpu).1] at this
      cases this
    · obtain ⟨hun, o, ho, hedge⟩ := mem_ready.1 hi
      have hilt : i < full.size := (Array.getElem?_eq_some_iff.1 ho).1
      have hc' := count_set hun
      have hip1 : i < p + 1 := by
        rcases Nat.lt_or_ge i (p + 1) with h' | h'
        · exact h'
        · have := waitsT_spec hcl 4 o (hwt ho h' p (by omega)) hedge
          rw [(getD_same hpu).1] at this
          cases this
      by_cases hip : i = p
      · subst hip
        have ho2 := ho
        rw [hop] at ho
        injection ho with ho
        subst ho
        have hbefore : ∀ j, j < i → j ∉ late → l.getD j false = true := fun j hj hnl => by
          rcases hwp j hj with h | h
          · exact waitsT_spec hcl 4 _ h hedge
          · exact absurd h hnl
        obtain ⟨l', hM', hs', hl1, hl2⟩ := mem_late2 hlate hM
        have hfin : ∀ j, j < i → l'.getD j false = true := fun j hj => by
          by_cases h : j ∈ late
          · exact hl2 j h (by omega)
          · exact hl1 j (hbefore j hj h)
        obtain ⟨w', hx, hla, hQ⟩ := hend γ w l' hM' hfin
        have he := see_all (full := full) hA hsel (fun d hd j oj hj hdj => waitsT_spec hcl 4 _ (hlook d hd j oj hj hdj) hedge)
        refine wpOp_step hop (fun K' hK => ?_)
        have hwn : Region.wanted op (yielded full a.tmps) = true := by unfold Region.wanted; rw [hgu]
        rw [if_pos hwn]
        unfold Oper.wp
        rw [he, hx]
        have hA' : Agree ops ks a₀ (l.setIfInBounds i true) γ (a.put op.dst undef) := by
          rw [hdst]
          refine ⟨hA.defers, hA.size, fun d hd => hA.slots d (fun j oj hj hdj => ?_)⟩
          have h1 := hd j oj hj hdj
          have hj' : j < i := by rw [← hp]; exact (Array.getElem?_eq_some_iff.1 hj).1
          rwa [getD_set_ne false (by omega)] at h1
        refine hK _ _ (after_put2 hO hn hp hpf hfull hgd hup hwt hla hQ fuel _ _ (by simp [hsz]) (by omega) (hcl.step ho2 hedge) (fun j hj hj2 => ?_) (fun j hj hj2 => ?_) hA')
        · by_cases e : i = j
          · subst e
            have hi' : i < l.size := by omega
            simp [hi'] at hj2
          · rw [getD_set_ne true e] at hj2
            apply Classical.byContradiction
            intro hnl
            have := hbefore j (by omega) hnl
            rw [(getD_same hj2).1] at this
            cases this
        · rw [getD_set_ne true (by omega)]
          exact ht j (by omega) hj2
      · have hlt : i < p := by omega
        have ho' : ops[i]? = some o := by rw [← hfull i hlt]; exact ho
        refine kind_step hO hn hL hS hfull hgd hops hA hM hlt ho' hun hedge (fun γ' a' w' hA' hM' => ?_)
        exact ih _ γ' a' w' (by simp [hsz]) (by omega) (hcl.step ho hedge) (fun j hj hj2 => by rw [getD_set_ne true (by omega)]; exact ht j hj hj2) hA' hM'

/-- **The law of such a region.** -/
theorem walk_put2 {full : Array Oper} {a : Act} {w : World} {id : Nat} (hm : P.follows .mixedOrders = true) (p : Nat) (late : List Nat) (ks : List Kind) (S : World → Prop) (pre : List Oper) (F : (Nat → Nat) → Act) (op : Oper) (hpre : full.toList.take p = pre)
    (hF : ∀ γ, fill γ 0 pre ks a = F γ) (hor : (orderly pre.toArray ks a.tmps.size && guarded pre.toArray p && putly full p late) = true) (hop : full[p]? = some op) (hL : LaidOk ks ks) (hS : ∀ w', Below w.heap.size w w' → S w')
    (hops : AllOk P pre.toArray S F pre ks) (hlate : (late.all fun i => isQuiet ks[i]?) = true)
    (hend : ∀ γ w' l, Mem ks w l γ w' → (∀ i, i < p → l.getD i false = true) → ∃ w'', (execOp (F γ).eval op).run P w' = .ok .skip w'' ∧ LateAt P pre.toArray ks (F γ) w'' late ∧ wpOps P full Q (List.range' (p + 1) (full.size - (p + 1))) (F γ) w'') :
    (Code.region id full true).wp P Q a w := by
  subst hpre
  obtain rfl : (fun γ => fill γ 0 (full.toList.take p) ks a) = F := funext hF
  simp only [Bool.and_eq_true] at hor
  obtain ⟨⟨h1, h2⟩, h3⟩ := hor
  unfold putly at h3
  rw [hop] at h3
  simp only [Bool.and_eq_true, decide_eq_true_eq, Option.isNone_iff_eq_none] at h3
  obtain ⟨⟨⟨⟨h5, h6⟩, h7⟩, ⟨⟨h8, h9⟩, h10⟩, h11⟩, h12⟩ := h3
  have hsz : (full.toList.take p).toArray.size = p := by simp; omega
  have hfu : ∀ i, i < p → full[i]? = (full.toList.take p).toArray[i]? := fun i hi => by rw [← take_arr]; exact first_full hi
  refine wp_region_any hm (first_put2 (ops := (full.toList.take p).toArray) (Orderly.of h1) rfl hL hS hsz h6 hfu (fun ho hg => guarded_spec h2 ho hg) (fun ho e he hb => ?_) hop h8 h9 (fun cs b => Region.noSelect_spec h7 p op cs b hop) (late := late) (fun j hj => ?_) (fun d hd j oj hj hdj => ?_) (fun ho hi j hj => ?_) hlate hops hend full.size _ (fun _ => 0) a w.drew (by simp) (by simp) (Closed.none _ _) (fun i _ hi => none_listed' hi) (start_agree _ _) (start_mem _ _ (Below.refl _ _).drew))
  · have := Array.all_eq_true_iff_forall_mem.1 (eachOp_spec h5 ho) e he
    simpa [hb] using this
  · have := List.all_eq_true.1 h10 j (List.mem_range.2 hj)
    simpa using this
  · have hj' : j < p := by rw [← hsz]; exact (Array.getElem?_eq_some_iff.1 hj).1
    have := eachOp_spec (List.all_eq_true.1 h11 d hd) (by rw [hfu j hj']; exact hj)
    simp only [hdj, bne_self_eq_false, Bool.false_or, Bool.or_eq_true, decide_eq_true_eq] at this
    rcases this with h | h
    · exact h
    · omega
  · have := eachOp_spec h12 ho
    simp only [Bool.or_eq_true, decide_eq_true_eq] at this
    rcases this with h | h
    · omega
    · exact List.all_eq_true.1 h j (List.mem_range.2 hj)
end
end Rg
end Go.Proofs.YtkfannhbnbgloaaDoor
/- The number that makes 1 with a is there -/
namespace Go.Proofs.YtkfannhbnbgloaaDoor
open Go.RowKit
namespace Rg
theorem call28 : ∀ args w, (callFunc 28 args).run Tryd.prog w = .ok (.enter 28 args) w := by intro args w; go_simp
theorem eq_refl7 {v : Nat} (h : v < big) (w : World) : (Op.equalIn 10000 24 (N v) (N v)).run Tryd.prog w = .ok true w := by
  rw [run_eqN v v h h, decide_eq_true rfl]
theorem inv_ex {n a : Nat} (ok : Ok n) (hg : Nat.gcd n a = 1) : ∃ x, x < n ∧ x * a % n = 1 := by
  have key : ∀ (m : Nat) (z : WS), z.o + z.r = m → WI n a z → ∃ x, x < n ∧ x * a % n = 1 := by
    intro m
    induction m using Nat.strongRecOn with
    | _ m ih =>
      intro z hz I
      obtain ⟨o, r, u, v, h, t⟩ := z
      simp only at hz
      by_cases hr : r = 0
      · subst hr
        have ho : o = 1 := by
          have h1 : Nat.gcd o 0 = Nat.gcd n a := I.gcd
          rw [Nat.gcd_zero_right] at h1
          rw [h1]; exact hg
        cases t with
        | true => exact ⟨_, Nat.mod_lt _ ok.pos, end_true ok I ho⟩
        | false => exact ⟨_, Nat.mod_lt _ ok.pos, end_false ok I ho⟩
      · have hrb : r < big := by have h1 : r ≤ n := I.rn; have := ok.big; omega
        obtain ⟨k, r1, hk, er, hr1, _⟩ := trailing_any hrb hr
        obtain ⟨p1, p2, _⟩ := I.facts hr er
        obtain ⟨i1, i2⟩ := I.next hr er hr1
        have hle : r1 ≤ r := by rw [er]; exact Nat.le_mul_of_pos_right _ (Nat.two_pow_pos k)
        by_cases hl : r1 < o
        · exact ih (r1 + (o - r1)) (by omega) _ rfl (i1 hl)
        · exact ih (o + (r1 - o)) (by omega) _ rfl (i2 hl)
  exact key _ ⟨n, a % n, 0, 1, 0, false⟩ rfl (WI.start ok)
theorem invm_spec {n a : Nat} (ok : Ok n) (hg : Nat.gcd n a = 1) : invm n a < n ∧ invm n a * a % n = 1 := by
  obtain ⟨x, hx, h1⟩ := inv_ex ok hg
  rw [invm_eq hx h1]
  exact ⟨hx, h1⟩
end Rg
end Go.Proofs.YtkfannhbnbgloaaDoor
/- The document's functions of a modulus, walked with contracts as premises -/
namespace Go.Proofs.YtkfannhbnbgloaaDoor
open Go.RowKit
namespace Rg
theorem call12 : ∀ args w, (callFunc 12 args).run Tryd.prog w = .ok (.enter 12 args) w := by intro args w; go_simp
theorem call14 : ∀ args w, (callFunc 14 args).run Tryd.prog w = .ok (.enter 14 args) w := by intro args w; go_simp
theorem call16 : ∀ args w, (callFunc 16 args).run Tryd.prog w = .ok (.enter 16 args) w := by intro args w; go_simp
theorem call20 : ∀ args w, (callFunc 20 args).run Tryd.prog w = .ok (.enter 20 args) w := by intro args w; go_simp
theorem call42 : ∀ args w, (callFunc 42 args).run Tryd.prog w = .ok (.enter 42 args) w := by intro args w; go_simp
theorem call46 : ∀ args w, (callFunc 46 args).run Tryd.prog w = .ok (.enter 46 args) w := by intro args w; go_simp
theorem call47 : ∀ args w, (callFunc 47 args).run Tryd.prog w = .ok (.enter 47 args) w := by intro args w; go_simp
theorem call48 : ∀ args w, (callFunc 48 args).run Tryd.prog w = .ok (.enter 48 args) w := by intro args w; go_simp

theorem ex_bor {ρ : Operand → Value} {o : Oper} {x y : Operand} {a b c : Int} {w : World} (he : bits BinOp.or IntKind.u64 a b = c) (ho : o.op = .binOp .or 22 x y 22) (hx : ρ x = .int .u64 a) (hy : ρ y = .int .u64 b) :
    (execOp ρ o).run Tryd.prog w = .ok (.value (.int .u64 c)) w := by
  simp only [execOp, ho, hx, hy]
  clear ho hx hy
  go_simp
theorem ex_build3 {ρ : Operand → Value} {o : Oper} {w : World} {c : Nat} (hc : c = 3) (ho : o.op = .build 24 #[(0, .const (.int .u64 3))]) (hx : ρ (.const (.int .u64 3)) = .int .u64 3) : (execOp ρ o).run Tryd.prog w = .ok (.value (N c)) w := by
  subst hc
  have h1 : wd 3 1 = 0 := wd_small 3 0 (by decide)
  have h2 : wd 3 2 = 0 := wd_small 3 1 (by decide)
  have h3 : wd 3 3 = 0 := wd_small 3 2 (by decide)
  have h4 : wd 3 4 = 0 := wd_small 3 3 (by decide)
  have h5 : wd 3 5 = 0 := wd_small 3 4 (by decide)
  have h0 : wd 3 0 = 3 := wd_small0 3 (by decide)
  unfold N
  rw [h0, h1, h2, h3, h4, h5]
  simp only [execOp, ho]
  clear h0 h1 h2 h3 h4 h5
  go_simp
set_option maxRecDepth 100000 in
theorem rreduce_gen (n a q r : Nat)
    (c0 : ∀ w, Calls Tryd.prog 42 #[N a, N n] w fun e w' => e = .returned (.tuple #[N q, N r, .int .i64 0]) ∧ Below w.heap.size w w') (w : World) :
    Calls Tryd.prog 12 #[N n, N a] w fun e w' => e = .returned (N r) ∧ Below w.heap.size w w' := by
  have H0 : Hid (_ ∧ _) := ⟨Mm.nil w, Below.refl w.heap.size w⟩
  have C0 : Hid _ := c0
  clear c0
  go_enter Tryd.func12, Tryd.ntmps12
  refine wp_seq ?_
  refine walk_seq 3 [.made (cells6 n) 24, .made (cells6 a) 24, .made zero6 24] (fun w' => Mm w' []) ?pre1 ?F1 ?hpre1 (fun γ => ?hF1) (by kernel_rfl) ?hL1 ?hS1 ?ho1 ?he1
  case hpre1 =>
    simp only [List.take_succ_cons, List.take_zero]
    exact rfl
  case hF1 =>
    simp only [fill, Kind.val, Act.put, List.setIfInBounds_toArray, List.set_cons_zero, List.set_cons_succ]
    exact rfl
  case hL1 => exact trivial
  case hS1 => exact fun w' hb => H0.out.1.below hb
  case ho1 =>
    refine AllOk.cons ?_ ?_
    · exact fun γ => ⟨rfl, fun w' => ex_box6 rfl rfl⟩
    refine AllOk.cons ?_ ?_
    · exact fun γ => ⟨rfl, fun w' => ex_box6 rfl rfl⟩
    refine AllOk.cons ?_ ?_
    · exact fun γ => ⟨rfl, fun w' => exec_made6 rfl⟩
    exact trivial
  intro γ w1 l hM hl
  have M1 : Mm w1 [(γ 0, cells6 n), (γ 1, cells6 a), (γ 2, zero6)] := H0.out.1.grow hM (Nat.le_refl _) hl [0, 1, 2] rfl (by decide)
  have B1 : Below w.heap.size w w1 := H0.out.2.trans (hM.below.mono H0.out.2.size)
  have o1_0 : Hid (w.heap.size ≤ γ 0) := Nat.le_trans H0.out.2.size (hM.fin (Nat.le_refl _) hl (i := 0) rfl).2.1
  have o1_1 : Hid (w.heap.size ≤ γ 1) := Nat.le_trans H0.out.2.size (hM.fin (Nat.le_refl _) hl (i := 1) rfl).2.1
  have o1_2 : Hid (w.heap.size ≤ γ 2) := Nat.le_trans H0.out.2.size (hM.fin (Nat.le_refl _) hl (i := 2) rfl).2.1
  clear hM hl l
  generalize γ 0 = γ1_0 at M1 o1_0 ⊢
  generalize γ 1 = γ1_1 at M1 o1_1 ⊢
  generalize γ 2 = γ1_2 at M1 o1_2 ⊢
  clear γ
  have H1 : Hid (_ ∧ _) := ⟨M1, B1⟩
  clear M1 B1
  refine rest_at (l := []) rfl ?_
  refine rest_nil ?_
  refine then_normal ?_
  refine wp_seq ?_
  refine walk_seq 12 [.quiet (N a), .quiet (N n), .call (.tuple #[N q, N r, .int .i64 0]), .quiet (.tuple #[N q, N r, .int .i64 0]), .quiet (N q), .quiet (N r), .quiet (.int .i64 0), .made zero6 24, .made zero6 24, .laid 7 zero6 (cells6 q), .laid 8 zero6 (cells6 r), .quiet (.int .i64 0)] (fun w' => Mm w' [(γ1_0, cells6 n), (γ1_1, cells6 a), (γ1_2, zero6)]) ?pre2 ?F2 ?hpre2 (fun γ => ?hF2) (by kernel_rfl) ?hL2 ?hS2 ?ho2 ?he2
  case hpre2 =>
    simp only [List.take_succ_cons, List.take_zero]
    exact rfl
  case hF2 =>
    simp only [fill, Kind.val, Act.put, List.setIfInBounds_toArray, List.set_cons_zero, List.set_cons_succ]
    exact rfl
  case hL2 => exact ⟨⟨_, rfl⟩, ⟨_, rfl⟩, trivial⟩
  case hS2 => exact fun w' hb => H1.out.1.below hb
  case ho2 =>
    refine AllOk.cons ?_ ?_
    · exact fun γ => ⟨rfl, fun w' h => ex_load6 h 1 rfl rfl rfl rfl⟩
    refine AllOk.cons ?_ ?_
    · exact fun γ => ⟨rfl, fun w' h => ex_load6 h 0 rfl rfl rfl rfl⟩
    refine AllOk.cons ?_ ?_
    · exact fun γ => ⟨rfl, fun w' h => ⟨42, #[N a, N n], exec_call rfl call42 rfl (by simp only [List.map_toArray, List.map_cons, List.map_nil]; rfl), C0.out w'⟩⟩
    refine AllOk.cons ?_ ?_
    · exact fun γ => ⟨rfl, fun w' _ => rfl⟩
    refine AllOk.cons ?_ ?_
    · (refine fun γ => ⟨rfl, fun w' h => ?_⟩; clear h; go_simp)
    refine AllOk.cons ?_ ?_
    · (refine fun γ => ⟨rfl, fun w' h => ?_⟩; clear h; go_simp)
    refine AllOk.cons ?_ ?_
    · (refine fun γ => ⟨rfl, fun w' h => ?_⟩; clear h; go_simp)
    refine AllOk.cons ?_ ?_
    · exact fun γ => ⟨rfl, fun w' => exec_made6 rfl⟩
    refine AllOk.cons ?_ ?_
    · exact fun γ => ⟨rfl, fun w' => exec_made6 rfl⟩
    refine AllOk.cons ?_ ?_
    · exact fun γ => ⟨rfl, rfl, rfl, fun w' h => exec_laid6 h rfl rfl rfl⟩
    refine AllOk.cons ?_ ?_
    · exact fun γ => ⟨rfl, rfl, rfl, fun w' h => exec_laid6 h rfl rfl rfl⟩
    refine AllOk.cons ?_ ?_
    · exact fun γ => ⟨rfl, fun w' _ => rfl⟩
    exact trivial
  intro γ w2 l hM hl
  have M2 : Mm w2 [(γ 7, cells6 q), (γ 8, cells6 r), (γ1_0, cells6 n), (γ1_1, cells6 a), (γ1_2, zero6)] := H1.out.1.grow hM (Nat.le_refl _) hl [7, 8] rfl (by decide)
  have B2 : Below w.heap.size w w2 := H1.out.2.trans (hM.below.mono H1.out.2.size)
  have o2_7 : Hid (w.heap.size ≤ γ 7) := Nat.le_trans H1.out.2.size (hM.fin (Nat.le_refl _) hl (i := 7) rfl).2.1
  have o2_8 : Hid (w.heap.size ≤ γ 8) := Nat.le_trans H1.out.2.size (hM.fin (Nat.le_refl _) hl (i := 8) rfl).2.1
  clear hM hl l H1
  generalize γ 7 = γ2_7 at M2 o2_7 ⊢
  generalize γ 8 = γ2_8 at M2 o2_8 ⊢
  clear γ
  have H2 : Hid (_ ∧ _) := ⟨M2, B2⟩
  clear M2 B2
  refine rest_at (l := []) rfl ?_
  refine rest_nil ?_
  refine then_normal ?_
  refine wp_seq ?_
  refine walk_seq 1 [.quiet (N r)] (fun w' => Mm w' [(γ2_7, cells6 q), (γ2_8, cells6 r), (γ1_0, cells6 n), (γ1_1, cells6 a), (γ1_2, zero6)]) ?pre3 ?F3 ?hpre3 (fun γ => ?hF3) (by kernel_rfl) ?hL3 ?hS3 ?ho3 ?he3
  case hpre3 =>
    simp only [List.take_succ_cons, List.take_zero]
    exact rfl
  case hF3 =>
    simp only [fill, Kind.val, Act.put, List.setIfInBounds_toArray, List.set_cons_zero, List.set_cons_succ]
    exact rfl
  case hL3 => exact trivial
  case hS3 => exact fun w' hb => H2.out.1.below hb
  case ho3 =>
    refine AllOk.cons ?_ ?_
    · exact fun γ => ⟨rfl, fun w' h => ex_load6 h 1 rfl rfl rfl rfl⟩
    exact trivial
  intro γ w3 l hM hl
  have M3 : Mm w3 [(γ2_7, cells6 q), (γ2_8, cells6 r), (γ1_0, cells6 n), (γ1_1, cells6 a), (γ1_2, zero6)] := H2.out.1.grow hM (Nat.le_refl _) hl [] rfl (by decide)
  have B3 : Below w.heap.size w w3 := H2.out.2.trans (hM.below.mono H2.out.2.size)
  clear hM hl l H2
  clear γ
  have H3 : Hid (_ ∧ _) := ⟨M3, B3⟩
  clear M3 B3
  refine rest_at (l := [1]) rfl ?_
  refine rest_store rfl rfl rfl (ex_store6 H3.out.1 4 rfl rfl rfl rfl (Nat.le_of_ble_eq_true rfl)) ?_
  have H4 : Hid (Mm (w3.setCells γ1_2 0 (cells6 r)) [(γ2_7, cells6 q), (γ2_8, cells6 r), (γ1_0, cells6 n), (γ1_1, cells6 a), (γ1_2, cells6 r)] ∧ Below w.heap.size w (w3.setCells γ1_2 0 (cells6 r))) := ⟨H3.out.1.put 4 (off := 0) (vs := cells6 r) rfl (Nat.le_of_ble_eq_true rfl), below_setCells _ o1_2.out _ _ _ H3.out.2⟩
  clear H3
  generalize hgw : World.setCells _ _ _ _ = w4 at H4 ⊢
  clear hgw
  refine rest_nil ?_
  refine then_normal ?_
  refine wp_ret ?_
  repeat (first | refine then_ret ?_ | refine block_ret ?_)
  have c0 := H4.out.1.get 4 rfl 0 rfl
  have c1 := H4.out.1.get 4 rfl 1 rfl
  have c2 := H4.out.1.get 4 rfl 2 rfl
  have c3 := H4.out.1.get 4 rfl 3 rfl
  have c4 := H4.out.1.get 4 rfl 4 rfl
  have c5 := H4.out.1.get 4 rfl 5 rfl
  refine bodyPost_ret (v := N r) (by simp [results, Tryd.results12, go_sem, *]) rfl ?_
  exact ⟨rfl, H4.out.2⟩
set_option maxRecDepth 100000 in
theorem radd_gen (n a b x y u r : Nat)
    (c0 : ∀ w, Calls Tryd.prog 12 #[N n, N a] w fun e w' => e = .returned (N x) ∧ Below w.heap.size w w')
    (c1 : ∀ w, Calls Tryd.prog 12 #[N n, N b] w fun e w' => e = .returned (N y) ∧ Below w.heap.size w w')
    (c2 : ∀ w, Calls Tryd.prog 46 #[N x, N y] w fun e w' => e = .returned (.tuple #[N u, .bool false]) ∧ Below w.heap.size w w')
    (c3 : ∀ w, Calls Tryd.prog 12 #[N n, N u] w fun e w' => e = .returned (N r) ∧ Below w.heap.size w w') (w : World) :
    Calls Tryd.prog 16 #[N n, N a, N b] w fun e w' => e = .returned (N r) ∧ Below w.heap.size w w' := by
  have H0 : Hid (_ ∧ _) := ⟨Mm.nil w, Below.refl w.heap.size w⟩
  have C0 : Hid _ := c0
  have C1 : Hid _ := c1
  have C2 : Hid _ := c2
  have C3 : Hid _ := c3
  clear c0 c1 c2 c3
  go_enter Tryd.func16, Tryd.ntmps16
  refine wp_seq ?_
  refine walk_seq 4 [.made (cells6 n) 24, .made (cells6 a) 24, .made (cells6 b) 24, .made zero6 24] (fun w' => Mm w' []) ?pre1 ?F1 ?hpre1 (fun γ => ?hF1) (by kernel_rfl) ?hL1 ?hS1 ?ho1 ?he1
  case hpre1 =>
    simp only [List.take_succ_cons, List.take_zero]
    exact rfl
  case hF1 =>
    simp only [fill, Kind.val, Act.put, List.setIfInBounds_toArray, List.set_cons_zero, List.set_cons_succ]
    exact rfl
  case hL1 => exact trivial
  case hS1 => exact fun w' hb => H0.out.1.below hb
  case ho1 =>
    refine AllOk.cons ?_ ?_
    · exact fun γ => ⟨rfl, fun w' => ex_box6 rfl rfl⟩
    refine AllOk.cons ?_ ?_
    · exact fun γ => ⟨rfl, fun w' => ex_box6 rfl rfl⟩
    refine AllOk.cons ?_ ?_
    · exact fun γ => ⟨rfl, fun w' => ex_box6 rfl rfl⟩
    refine AllOk.cons ?_ ?_
    · exact fun γ => ⟨rfl, fun w' => exec_made6 rfl⟩
    exact trivial
  intro γ w1 l hM hl
  have M1 : Mm w1 [(γ 0, cells6 n), (γ 1, cells6 a), (γ 2, cells6 b), (γ 3, zero6)] := H0.out.1.grow hM (Nat.le_refl _) hl [0, 1, 2, 3] rfl (by decide)
  have B1 : Below w.heap.size w w1 := H0.out.2.trans (hM.below.mono H0.out.2.size)
  have o1_0 : Hid (w.heap.size ≤ γ 0) := Nat.le_trans H0.out.2.size (hM.fin (Nat.le_refl _) hl (i := 0) rfl).2.1
  have o1_1 : Hid (w.heap.size ≤ γ 1) := Nat.le_trans H0.out.2.size (hM.fin (Nat.le_refl _) hl (i := 1) rfl).2.1
  have o1_2 : Hid (w.heap.size ≤ γ 2) := Nat.le_trans H0.out.2.size (hM.fin (Nat.le_refl _) hl (i := 2) rfl).2.1
  have o1_3 : Hid (w.heap.size ≤ γ 3) := Nat.le_trans H0.out.2.size (hM.fin (Nat.le_refl _) hl (i := 3) rfl).2.1
  clear hM hl l
  generalize γ 0 = γ1_0 at M1 o1_0 ⊢
  generalize γ 1 = γ1_1 at M1 o1_1 ⊢
  generalize γ 2 = γ1_2 at M1 o1_2 ⊢
  generalize γ 3 = γ1_3 at M1 o1_3 ⊢
  clear γ
  have H1 : Hid (_ ∧ _) := ⟨M1, B1⟩
  clear M1 B1
  refine rest_at (l := []) rfl ?_
  refine rest_nil ?_
  refine then_normal ?_
  refine wp_seq ?_
  refine walk_any (by kernel_rfl) 13 [.quiet (N n), .quiet (N a), .call (N x), .quiet (N n), .quiet (N b), .call (N y), .call (.tuple #[N u, .bool false]), .quiet (.tuple #[N u, .bool false]), .quiet (N u), .quiet (.bool false), .made zero6 24, .laid 10 zero6 (cells6 u), .quiet (.bool false)] (fun w' => Mm w' [(γ1_0, cells6 n), (γ1_1, cells6 a), (γ1_2, cells6 b), (γ1_3, zero6)]) ?pre2 ?F2 ?hpre2 (fun γ => ?hF2) (by kernel_rfl) ?hL2 ?hS2 ?ho2 ?he2
  case hpre2 =>
    simp only [List.take_succ_cons, List.take_zero]
    exact rfl
  case hF2 =>
    simp only [fill, Kind.val, Act.put, List.setIfInBounds_toArray, List.set_cons_zero, List.set_cons_succ]
    exact rfl
  case hL2 => exact ⟨⟨_, rfl⟩, trivial⟩
  case hS2 => exact fun w' hb => H1.out.1.below hb
  case ho2 =>
    refine AllOk.cons ?_ ?_
    · exact fun γ => ⟨rfl, fun w' h => ex_load6 h 0 rfl rfl rfl rfl⟩
    refine AllOk.cons ?_ ?_
    · exact fun γ => ⟨rfl, fun w' h => ex_load6 h 1 rfl rfl rfl rfl⟩
    refine AllOk.cons ?_ ?_
    · exact fun γ => ⟨rfl, fun w' h => ⟨12, #[N n, N a], exec_call rfl call12 rfl (by simp only [List.map_toArray, List.map_cons, List.map_nil]; rfl), C0.out w'⟩⟩
    refine AllOk.cons ?_ ?_
    · exact fun γ => ⟨rfl, fun w' h => ex_load6 h 0 rfl rfl rfl rfl⟩
    refine AllOk.cons ?_ ?_
    · exact fun γ => ⟨rfl, fun w' h => ex_load6 h 2 rfl rfl rfl rfl⟩
    refine AllOk.cons ?_ ?_
    · exact fun γ => ⟨rfl, fun w' h => ⟨12, #[N n, N b], exec_call rfl call12 rfl (by simp only [List.map_toArray, List.map_cons, List.map_nil]; rfl), C1.out w'⟩⟩
    refine AllOk.cons ?_ ?_
    · exact fun γ => ⟨rfl, fun w' h => ⟨46, #[N x, N y], exec_call rfl call46 rfl (by simp only [List.map_toArray, List.map_cons, List.map_nil]; rfl), C2.out w'⟩⟩
    refine AllOk.cons ?_ ?_
    · exact fun γ => ⟨rfl, fun w' _ => rfl⟩
    refine AllOk.cons ?_ ?_
    · (refine fun γ => ⟨rfl, fun w' h => ?_⟩; clear h; go_simp)
    refine AllOk.cons ?_ ?_
    · (refine fun γ => ⟨rfl, fun w' h => ?_⟩; clear h; go_simp)
    refine AllOk.cons ?_ ?_
    · exact fun γ => ⟨rfl, fun w' => exec_made6 rfl⟩
    refine AllOk.cons ?_ ?_
    · exact fun γ => ⟨rfl, rfl, rfl, fun w' h => exec_laid6 h rfl rfl rfl⟩
    refine AllOk.cons ?_ ?_
    · exact fun γ => ⟨rfl, fun w' _ => rfl⟩
    exact trivial
  intro γ w2 l hM hl
  have M2 : Mm w2 [(γ 10, cells6 u), (γ1_0, cells6 n), (γ1_1, cells6 a), (γ1_2, cells6 b), (γ1_3, zero6)] := H1.out.1.grow hM (Nat.le_refl _) hl [10] rfl (by decide)
  have B2 : Below w.heap.size w w2 := H1.out.2.trans (hM.below.mono H1.out.2.size)
  have o2_10 : Hid (w.heap.size ≤ γ 10) := Nat.le_trans H1.out.2.size (hM.fin (Nat.le_refl _) hl (i := 10) rfl).2.1
  clear hM hl l H1
  generalize γ 10 = γ2_10 at M2 o2_10 ⊢
  clear γ
  have H2 : Hid (_ ∧ _) := ⟨M2, B2⟩
  clear M2 B2
  refine rest_at (l := []) rfl ?_
  refine rest_nil ?_
  refine then_normal ?_
  refine wp_seq ?_
  refine walk_seq 3 [.quiet (N n), .quiet (N u), .call (N r)] (fun w' => Mm w' [(γ2_10, cells6 u), (γ1_0, cells6 n), (γ1_1, cells6 a), (γ1_2, cells6 b), (γ1_3, zero6)]) ?pre3 ?F3 ?hpre3 (fun γ => ?hF3) (by kernel_rfl) ?hL3 ?hS3 ?ho3 ?he3
  case hpre3 =>
    simp only [List.take_succ_cons, List.take_zero]
    exact rfl
  case hF3 =>
    simp only [fill, Kind.val, Act.put, List.setIfInBounds_toArray, List.set_cons_zero, List.set_cons_succ]
    exact rfl
  case hL3 => exact trivial
  case hS3 => exact fun w' hb => H2.out.1.below hb
  case ho3 =>
    refine AllOk.cons ?_ ?_
    · exact fun γ => ⟨rfl, fun w' h => ex_load6 h 1 rfl rfl rfl rfl⟩
    refine AllOk.cons ?_ ?_
    · exact fun γ => ⟨rfl, fun w' h => ex_load6 h 0 rfl rfl rfl rfl⟩
    refine AllOk.cons ?_ ?_
    · exact fun γ => ⟨rfl, fun w' h => ⟨12, #[N n, N u], exec_call rfl call12 rfl (by simp only [List.map_toArray, List.map_cons, List.map_nil]; rfl), C3.out w'⟩⟩
    exact trivial
  intro γ w3 l hM hl
  have M3 : Mm w3 [(γ2_10, cells6 u), (γ1_0, cells6 n), (γ1_1, cells6 a), (γ1_2, cells6 b), (γ1_3, zero6)] := H2.out.1.grow hM (Nat.le_refl _) hl [] rfl (by decide)
  have B3 : Below w.heap.size w w3 := H2.out.2.trans (hM.below.mono H2.out.2.size)
  clear hM hl l H2
  clear γ
  have H3 : Hid (_ ∧ _) := ⟨M3, B3⟩
  clear M3 B3
  refine rest_at (l := [3]) rfl ?_
  refine rest_store rfl rfl rfl (ex_store6 H3.out.1 4 rfl rfl rfl rfl (Nat.le_of_ble_eq_true rfl)) ?_
  have H4 : Hid (Mm (w3.setCells γ1_3 0 (cells6 r)) [(γ2_10, cells6 u), (γ1_0, cells6 n), (γ1_1, cells6 a), (γ1_2, cells6 b), (γ1_3, cells6 r)] ∧ Below w.heap.size w (w3.setCells γ1_3 0 (cells6 r))) := ⟨H3.out.1.put 4 (off := 0) (vs := cells6 r) rfl (Nat.le_of_ble_eq_true rfl), below_setCells _ o1_3.out _ _ _ H3.out.2⟩
  clear H3
  generalize hgw : World.setCells _ _ _ _ = w4 at H4 ⊢
  clear hgw
  refine rest_nil ?_
  refine then_normal ?_
  refine wp_ret ?_
  repeat (first | refine then_ret ?_ | refine block_ret ?_)
  have c0 := H4.out.1.get 4 rfl 0 rfl
  have c1 := H4.out.1.get 4 rfl 1 rfl
  have c2 := H4.out.1.get 4 rfl 2 rfl
  have c3 := H4.out.1.get 4 rfl 3 rfl
  have c4 := H4.out.1.get 4 rfl 4 rfl
  have c5 := H4.out.1.get 4 rfl 5 rfl
  refine bodyPost_ret (v := N r) (by simp [results, Tryd.results16, go_sem, *]) rfl ?_
  exact ⟨rfl, H4.out.2⟩
set_option maxRecDepth 100000 in
theorem rneg_gen (n a x u r : Nat)
    (c0 : ∀ w, Calls Tryd.prog 12 #[N n, N a] w fun e w' => e = .returned (N x) ∧ Below w.heap.size w w')
    (c1 : ∀ w, Calls Tryd.prog 47 #[N n, N x] w fun e w' => e = .returned (.tuple #[N u, .bool false]) ∧ Below w.heap.size w w')
    (c2 : ∀ w, Calls Tryd.prog 12 #[N n, N u] w fun e w' => e = .returned (N r) ∧ Below w.heap.size w w') (w : World) :
    Calls Tryd.prog 20 #[N n, N a] w fun e w' => e = .returned (N r) ∧ Below w.heap.size w w' := by
  have H0 : Hid (_ ∧ _) := ⟨Mm.nil w, Below.refl w.heap.size w⟩
  have C0 : Hid _ := c0
  have C1 : Hid _ := c1
  have C2 : Hid _ := c2
  clear c0 c1 c2
  go_enter Tryd.func20, Tryd.ntmps20
  refine wp_seq ?_
  refine walk_seq 3 [.made (cells6 n) 24, .made (cells6 a) 24, .made zero6 24] (fun w' => Mm w' []) ?pre1 ?F1 ?hpre1 (fun γ => ?hF1) (by kernel_rfl) ?hL1 ?hS1 ?ho1 ?he1
  case hpre1 =>
    simp only [List.take_succ_cons, List.take_zero]
    exact rfl
  case hF1 =>
    simp only [fill, Kind.val, Act.put, List.setIfInBounds_toArray, List.set_cons_zero, List.set_cons_succ]
    exact rfl
  case hL1 => exact trivial
  case hS1 => exact fun w' hb => H0.out.1.below hb
  case ho1 =>
    refine AllOk.cons ?_ ?_
    · exact fun γ => ⟨rfl, fun w' => ex_box6 rfl rfl⟩
    refine AllOk.cons ?_ ?_
    · exact fun γ => ⟨rfl, fun w' => ex_box6 rfl rfl⟩
    refine AllOk.cons ?_ ?_
    · exact fun γ => ⟨rfl, fun w' => exec_made6 rfl⟩
    exact trivial
  intro γ w1 l hM hl
  have M1 : Mm w1 [(γ 0, cells6 n), (γ 1, cells6 a), (γ 2, zero6)] := H0.out.1.grow hM (Nat.le_refl _) hl [0, 1, 2] rfl (by decide)
  have B1 : Below w.heap.size w w1 := H0.out.2.trans (hM.below.mono H0.out.2.size)
  have o1_0 : Hid (w.heap.size ≤ γ 0) := Nat.le_trans H0.out.2.size (hM.fin (Nat.le_refl _) hl (i := 0) rfl).2.1
  have o1_1 : Hid (w.heap.size ≤ γ 1) := Nat.le_trans H0.out.2.size (hM.fin (Nat.le_refl _) hl (i := 1) rfl).2.1
  have o1_2 : Hid (w.heap.size ≤ γ 2) := Nat.le_trans H0.out.2.size (hM.fin (Nat.le_refl _) hl (i := 2) rfl).2.1
  clear hM hl l
  generalize γ 0 = γ1_0 at M1 o1_0 ⊢
  generalize γ 1 = γ1_1 at M1 o1_1 ⊢
  generalize γ 2 = γ1_2 at M1 o1_2 ⊢
  clear γ
  have H1 : Hid (_ ∧ _) := ⟨M1, B1⟩
  clear M1 B1
  refine rest_at (l := []) rfl ?_
  refine rest_nil ?_
  refine then_normal ?_
  refine wp_seq ?_
  refine walk_any (by kernel_rfl) 11 [.quiet (N n), .quiet (N n), .quiet (N a), .call (N x), .call (.tuple #[N u, .bool false]), .quiet (.tuple #[N u, .bool false]), .quiet (N u), .quiet (.bool false), .made zero6 24, .laid 8 zero6 (cells6 u), .quiet (.bool false)] (fun w' => Mm w' [(γ1_0, cells6 n), (γ1_1, cells6 a), (γ1_2, zero6)]) ?pre2 ?F2 ?hpre2 (fun γ => ?hF2) (by kernel_rfl) ?hL2 ?hS2 ?ho2 ?he2
  case hpre2 =>
    simp only [List.take_succ_cons, List.take_zero]
    exact rfl
  case hF2 =>
    simp only [fill, Kind.val, Act.put, List.setIfInBounds_toArray, List.set_cons_zero, List.set_cons_succ]
    exact rfl
  case hL2 => exact ⟨⟨_, rfl⟩, trivial⟩
  case hS2 => exact fun w' hb => H1.out.1.below hb
  case ho2 =>
    refine AllOk.cons ?_ ?_
    · exact fun γ => ⟨rfl, fun w' h => ex_load6 h 0 rfl rfl rfl rfl⟩
    refine AllOk.cons ?_ ?_
    · exact fun γ => ⟨rfl, fun w' h => ex_load6 h 0 rfl rfl rfl rfl⟩
    refine AllOk.cons ?_ ?_
    · exact fun γ => ⟨rfl, fun w' h => ex_load6 h 1 rfl rfl rfl rfl⟩
    refine AllOk.cons ?_ ?_
    · exact fun γ => ⟨rfl, fun w' h => ⟨12, #[N n, N a], exec_call rfl call12 rfl (by simp only [List.map_toArray, List.map_cons, List.map_nil]; rfl), C0.out w'⟩⟩
    refine AllOk.cons ?_ ?_
    · exact fun γ => ⟨rfl, fun w' h => ⟨47, #[N n, N x], exec_call rfl call47 rfl (by simp only [List.map_toArray, List.map_cons, List.map_nil]; rfl), C1.out w'⟩⟩
    refine AllOk.cons ?_ ?_
    · exact fun γ => ⟨rfl, fun w' _ => rfl⟩
    refine AllOk.cons ?_ ?_
    · (refine fun γ => ⟨rfl, fun w' h => ?_⟩; clear h; go_simp)
    refine AllOk.cons ?_ ?_
    · (refine fun γ => ⟨rfl, fun w' h => ?_⟩; clear h; go_simp)
    refine AllOk.cons ?_ ?_
    · exact fun γ => ⟨rfl, fun w' => exec_made6 rfl⟩
    refine AllOk.cons ?_ ?_
    · exact fun γ => ⟨rfl, rfl, rfl, fun w' h => exec_laid6 h rfl rfl rfl⟩
    refine AllOk.cons ?_ ?_
    · exact fun γ => ⟨rfl, fun w' _ => rfl⟩
    exact trivial
  intro γ w2 l hM hl
  have M2 : Mm w2 [(γ 8, cells6 u), (γ1_0, cells6 n), (γ1_1, cells6 a), (γ1_2, zero6)] := H1.out.1.grow hM (Nat.le_refl _) hl [8] rfl (by decide)
  have B2 : Below w.heap.size w w2 := H1.out.2.trans (hM.below.mono H1.out.2.size)
  have o2_8 : Hid (w.heap.size ≤ γ 8) := Nat.le_trans H1.out.2.size (hM.fin (Nat.le_refl _) hl (i := 8) rfl).2.1
  clear hM hl l H1
  generalize γ 8 = γ2_8 at M2 o2_8 ⊢
  clear γ
  have H2 : Hid (_ ∧ _) := ⟨M2, B2⟩
  clear M2 B2
  refine rest_at (l := []) rfl ?_
  refine rest_nil ?_
  refine then_normal ?_
  refine wp_seq ?_
  refine walk_seq 3 [.quiet (N n), .quiet (N u), .call (N r)] (fun w' => Mm w' [(γ2_8, cells6 u), (γ1_0, cells6 n), (γ1_1, cells6 a), (γ1_2, zero6)]) ?pre3 ?F3 ?hpre3 (fun γ => ?hF3) (by kernel_rfl) ?hL3 ?hS3 ?ho3 ?he3
  case hpre3 =>
    simp only [List.take_succ_cons, List.take_zero]
    exact rfl
  case hF3 =>
    simp only [fill, Kind.val, Act.put, List.setIfInBounds_toArray, List.set_cons_zero, List.set_cons_succ]
    exact rfl
  case hL3 => exact trivial
  case hS3 => exact fun w' hb => H2.out.1.below hb
  case ho3 =>
    refine AllOk.cons ?_ ?_
    · exact fun γ => ⟨rfl, fun w' h => ex_load6 h 1 rfl rfl rfl rfl⟩
    refine AllOk.cons ?_ ?_
    · exact fun γ => ⟨rfl, fun w' h => ex_load6 h 0 rfl rfl rfl rfl⟩
    refine AllOk.cons ?_ ?_
    · exact fun γ => ⟨rfl, fun w' h => ⟨12, #[N n, N u], exec_call rfl call12 rfl (by simp only [List.map_toArray, List.map_cons, List.map_nil]; rfl), C2.out w'⟩⟩
    exact trivial
  intro γ w3 l hM hl
  have M3 : Mm w3 [(γ2_8, cells6 u), (γ1_0, cells6 n), (γ1_1, cells6 a), (γ1_2, zero6)] := H2.out.1.grow hM (Nat.le_refl _) hl [] rfl (by decide)
  have B3 : Below w.heap.size w w3 := H2.out.2.trans (hM.below.mono H2.out.2.size)
  clear hM hl l H2
  clear γ
  have H3 : Hid (_ ∧ _) := ⟨M3, B3⟩
  clear M3 B3
  refine rest_at (l := [3]) rfl ?_
  refine rest_store rfl rfl rfl (ex_store6 H3.out.1 3 rfl rfl rfl rfl (Nat.le_of_ble_eq_true rfl)) ?_
  have H4 : Hid (Mm (w3.setCells γ1_2 0 (cells6 r)) [(γ2_8, cells6 u), (γ1_0, cells6 n), (γ1_1, cells6 a), (γ1_2, cells6 r)] ∧ Below w.heap.size w (w3.setCells γ1_2 0 (cells6 r))) := ⟨H3.out.1.put 3 (off := 0) (vs := cells6 r) rfl (Nat.le_of_ble_eq_true rfl), below_setCells _ o1_2.out _ _ _ H3.out.2⟩
  clear H3
  generalize hgw : World.setCells _ _ _ _ = w4 at H4 ⊢
  clear hgw
  refine rest_nil ?_
  refine then_normal ?_
  refine wp_ret ?_
  repeat (first | refine then_ret ?_ | refine block_ret ?_)
  have c0 := H4.out.1.get 3 rfl 0 rfl
  have c1 := H4.out.1.get 3 rfl 1 rfl
  have c2 := H4.out.1.get 3 rfl 2 rfl
  have c3 := H4.out.1.get 3 rfl 3 rfl
  have c4 := H4.out.1.get 3 rfl 4 rfl
  have c5 := H4.out.1.get 3 rfl 5 rfl
  refine bodyPost_ret (v := N r) (by simp [results, Tryd.results20, go_sem, *]) rfl ?_
  exact ⟨rfl, H4.out.2⟩
set_option maxRecDepth 100000 in
theorem rsub_gen (n a b x r : Nat)
    (c0 : ∀ w, Calls Tryd.prog 20 #[N n, N b] w fun e w' => e = .returned (N x) ∧ Below w.heap.size w w')
    (c1 : ∀ w, Calls Tryd.prog 16 #[N n, N a, N x] w fun e w' => e = .returned (N r) ∧ Below w.heap.size w w') (w : World) :
    Calls Tryd.prog 18 #[N n, N a, N b] w fun e w' => e = .returned (N r) ∧ Below w.heap.size w w' := by
  have H0 : Hid (_ ∧ _) := ⟨Mm.nil w, Below.refl w.heap.size w⟩
  have C0 : Hid _ := c0
  have C1 : Hid _ := c1
  clear c0 c1
  go_enter Tryd.func18, Tryd.ntmps18
  refine wp_seq ?_
  refine walk_seq 4 [.made (cells6 n) 24, .made (cells6 a) 24, .made (cells6 b) 24, .made zero6 24] (fun w' => Mm w' []) ?pre1 ?F1 ?hpre1 (fun γ => ?hF1) (by kernel_rfl) ?hL1 ?hS1 ?ho1 ?he1
  case hpre1 =>
    simp only [List.take_succ_cons, List.take_zero]
    exact rfl
  case hF1 =>
    simp only [fill, Kind.val, Act.put, List.setIfInBounds_toArray, List.set_cons_zero, List.set_cons_succ]
    exact rfl
  case hL1 => exact trivial
  case hS1 => exact fun w' hb => H0.out.1.below hb
  case ho1 =>
    refine AllOk.cons ?_ ?_
    · exact fun γ => ⟨rfl, fun w' => ex_box6 rfl rfl⟩
    refine AllOk.cons ?_ ?_
    · exact fun γ => ⟨rfl, fun w' => ex_box6 rfl rfl⟩
    refine AllOk.cons ?_ ?_
    · exact fun γ => ⟨rfl, fun w' => ex_box6 rfl rfl⟩
    refine AllOk.cons ?_ ?_
    · exact fun γ => ⟨rfl, fun w' => exec_made6 rfl⟩
    exact trivial
  intro γ w1 l hM hl
  have M1 : Mm w1 [(γ 0, cells6 n), (γ 1, cells6 a), (γ 2, cells6 b), (γ 3, zero6)] := H0.out.1.grow hM (Nat.le_refl _) hl [0, 1, 2, 3] rfl (by decide)
  have B1 : Below w.heap.size w w1 := H0.out.2.trans (hM.below.mono H0.out.2.size)
  have o1_0 : Hid (w.heap.size ≤ γ 0) := Nat.le_trans H0.out.2.size (hM.fin (Nat.le_refl _) hl (i := 0) rfl).2.1
  have o1_1 : Hid (w.heap.size ≤ γ 1) := Nat.le_trans H0.out.2.size (hM.fin (Nat.le_refl _) hl (i := 1) rfl).2.1
  have o1_2 : Hid (w.heap.size ≤ γ 2) := Nat.le_trans H0.out.2.size (hM.fin (Nat.le_refl _) hl (i := 2) rfl).2.1
  have o1_3 : Hid (w.heap.size ≤ γ 3) := Nat.le_trans H0.out.2.size (hM.fin (Nat.le_refl _) hl (i := 3) rfl).2.1
  clear hM hl l
  generalize γ 0 = γ1_0 at M1 o1_0 ⊢
  generalize γ 1 = γ1_1 at M1 o1_1 ⊢
  generalize γ 2 = γ1_2 at M1 o1_2 ⊢
  generalize γ 3 = γ1_3 at M1 o1_3 ⊢
  clear γ
  have H1 : Hid (_ ∧ _) := ⟨M1, B1⟩
  clear M1 B1
  refine rest_at (l := []) rfl ?_
  refine rest_nil ?_
  refine then_normal ?_
  refine wp_seq ?_
  refine walk_any (by kernel_rfl) 6 [.quiet (N n), .quiet (N a), .quiet (N n), .quiet (N b), .call (N x), .call (N r)] (fun w' => Mm w' [(γ1_0, cells6 n), (γ1_1, cells6 a), (γ1_2, cells6 b), (γ1_3, zero6)]) ?pre2 ?F2 ?hpre2 (fun γ => ?hF2) (by kernel_rfl) ?hL2 ?hS2 ?ho2 ?he2
  case hpre2 =>
    simp only [List.take_succ_cons, List.take_zero]
    exact rfl
  case hF2 =>
    simp only [fill, Kind.val, Act.put, List.setIfInBounds_toArray, List.set_cons_zero, List.set_cons_succ]
    exact rfl
  case hL2 => exact trivial
  case hS2 => exact fun w' hb => H1.out.1.below hb
  case ho2 =>
    refine AllOk.cons ?_ ?_
    · exact fun γ => ⟨rfl, fun w' h => ex_load6 h 0 rfl rfl rfl rfl⟩
    refine AllOk.cons ?_ ?_
    · exact fun γ => ⟨rfl, fun w' h => ex_load6 h 1 rfl rfl rfl rfl⟩
    refine AllOk.cons ?_ ?_
    · exact fun γ => ⟨rfl, fun w' h => ex_load6 h 0 rfl rfl rfl rfl⟩
    refine AllOk.cons ?_ ?_
    · exact fun γ => ⟨rfl, fun w' h => ex_load6 h 2 rfl rfl rfl rfl⟩
    refine AllOk.cons ?_ ?_
    · exact fun γ => ⟨rfl, fun w' h => ⟨20, #[N n, N b], exec_call rfl call20 rfl (by simp only [List.map_toArray, List.map_cons, List.map_nil]; rfl), C0.out w'⟩⟩
    refine AllOk.cons ?_ ?_
    · exact fun γ => ⟨rfl, fun w' h => ⟨16, #[N n, N a, N x], exec_call rfl call16 rfl (by simp only [List.map_toArray, List.map_cons, List.map_nil]; rfl), C1.out w'⟩⟩
    exact trivial
  intro γ w2 l hM hl
  have M2 : Mm w2 [(γ1_0, cells6 n), (γ1_1, cells6 a), (γ1_2, cells6 b), (γ1_3, zero6)] := H1.out.1.grow hM (Nat.le_refl _) hl [] rfl (by decide)
  have B2 : Below w.heap.size w w2 := H1.out.2.trans (hM.below.mono H1.out.2.size)
  clear hM hl l H1
  clear γ
  have H2 : Hid (_ ∧ _) := ⟨M2, B2⟩
  clear M2 B2
  refine rest_at (l := [6]) rfl ?_
  refine rest_store rfl rfl rfl (ex_store6 H2.out.1 3 rfl rfl rfl rfl (Nat.le_of_ble_eq_true rfl)) ?_
  have H3 : Hid (Mm (w2.setCells γ1_3 0 (cells6 r)) [(γ1_0, cells6 n), (γ1_1, cells6 a), (γ1_2, cells6 b), (γ1_3, cells6 r)] ∧ Below w.heap.size w (w2.setCells γ1_3 0 (cells6 r))) := ⟨H2.out.1.put 3 (off := 0) (vs := cells6 r) rfl (Nat.le_of_ble_eq_true rfl), below_setCells _ o1_3.out _ _ _ H2.out.2⟩
  clear H2
  generalize hgw : World.setCells _ _ _ _ = w3 at H3 ⊢
  clear hgw
  refine rest_nil ?_
  refine then_normal ?_
  refine wp_ret ?_
  repeat (first | refine then_ret ?_ | refine block_ret ?_)
  have c0 := H3.out.1.get 3 rfl 0 rfl
  have c1 := H3.out.1.get 3 rfl 1 rfl
  have c2 := H3.out.1.get 3 rfl 2 rfl
  have c3 := H3.out.1.get 3 rfl 3 rfl
  have c4 := H3.out.1.get 3 rfl 4 rfl
  have c5 := H3.out.1.get 3 rfl 5 rfl
  refine bodyPost_ret (v := N r) (by simp [results, Tryd.results18, go_sem, *]) rfl ?_
  exact ⟨rfl, H3.out.2⟩
set_option maxRecDepth 100000 in
theorem rmul_gen (n a b lo hi r : Nat)
    (c0 : ∀ w, Calls Tryd.prog 48 #[N a, N b] w fun e w' => e = .returned (.tuple #[N lo, N hi]) ∧ Below w.heap.size w w')
    (c1 : ∀ w, Calls Tryd.prog 14 #[N n, N lo, N hi] w fun e w' => e = .returned (N r) ∧ Below w.heap.size w w') (w : World) :
    Calls Tryd.prog 22 #[N n, N a, N b] w fun e w' => e = .returned (N r) ∧ Below w.heap.size w w' := by
  have H0 : Hid (_ ∧ _) := ⟨Mm.nil w, Below.refl w.heap.size w⟩
  have C0 : Hid _ := c0
  have C1 : Hid _ := c1
  clear c0 c1
  go_enter Tryd.func22, Tryd.ntmps22
  refine wp_seq ?_
  refine walk_seq 4 [.made (cells6 n) 24, .made (cells6 a) 24, .made (cells6 b) 24, .made zero6 24] (fun w' => Mm w' []) ?pre1 ?F1 ?hpre1 (fun γ => ?hF1) (by kernel_rfl) ?hL1 ?hS1 ?ho1 ?he1
  case hpre1 =>
    simp only [List.take_succ_cons, List.take_zero]
    exact rfl
  case hF1 =>
    simp only [fill, Kind.val, Act.put, List.setIfInBounds_toArray, List.set_cons_zero, List.set_cons_succ]
    exact rfl
  case hL1 => exact trivial
  case hS1 => exact fun w' hb => H0.out.1.below hb
  case ho1 =>
    refine AllOk.cons ?_ ?_
    · exact fun γ => ⟨rfl, fun w' => ex_box6 rfl rfl⟩
    refine AllOk.cons ?_ ?_
    · exact fun γ => ⟨rfl, fun w' => ex_box6 rfl rfl⟩
    refine AllOk.cons ?_ ?_
    · exact fun γ => ⟨rfl, fun w' => ex_box6 rfl rfl⟩
    refine AllOk.cons ?_ ?_
    · exact fun γ => ⟨rfl, fun w' => exec_made6 rfl⟩
    exact trivial
  intro γ w1 l hM hl
  have M1 : Mm w1 [(γ 0, cells6 n), (γ 1, cells6 a), (γ 2, cells6 b), (γ 3, zero6)] := H0.out.1.grow hM (Nat.le_refl _) hl [0, 1, 2, 3] rfl (by decide)
  have B1 : Below w.heap.size w w1 := H0.out.2.trans (hM.below.mono H0.out.2.size)
  have o1_0 : Hid (w.heap.size ≤ γ 0) := Nat.le_trans H0.out.2.size (hM.fin (Nat.le_refl _) hl (i := 0) rfl).2.1
  have o1_1 : Hid (w.heap.size ≤ γ 1) := Nat.le_trans H0.out.2.size (hM.fin (Nat.le_refl _) hl (i := 1) rfl).2.1
  have o1_2 : Hid (w.heap.size ≤ γ 2) := Nat.le_trans H0.out.2.size (hM.fin (Nat.le_refl _) hl (i := 2) rfl).2.1
  have o1_3 : Hid (w.heap.size ≤ γ 3) := Nat.le_trans H0.out.2.size (hM.fin (Nat.le_refl _) hl (i := 3) rfl).2.1
  clear hM hl l
  generalize γ 0 = γ1_0 at M1 o1_0 ⊢
  generalize γ 1 = γ1_1 at M1 o1_1 ⊢
  generalize γ 2 = γ1_2 at M1 o1_2 ⊢
  generalize γ 3 = γ1_3 at M1 o1_3 ⊢
  clear γ
  have H1 : Hid (_ ∧ _) := ⟨M1, B1⟩
  clear M1 B1
  refine rest_at (l := []) rfl ?_
  refine rest_nil ?_
  refine then_normal ?_
  refine wp_seq ?_
  refine walk_seq 10 [.quiet (N a), .quiet (N b), .call (.tuple #[N lo, N hi]), .quiet (.tuple #[N lo, N hi]), .quiet (N lo), .quiet (N hi), .made zero6 24, .made zero6 24, .laid 6 zero6 (cells6 lo), .laid 7 zero6 (cells6 hi)] (fun w' => Mm w' [(γ1_0, cells6 n), (γ1_1, cells6 a), (γ1_2, cells6 b), (γ1_3, zero6)]) ?pre2 ?F2 ?hpre2 (fun γ => ?hF2) (by kernel_rfl) ?hL2 ?hS2 ?ho2 ?he2
  case hpre2 =>
    simp only [List.take_succ_cons, List.take_zero]
    exact rfl
  case hF2 =>
    simp only [fill, Kind.val, Act.put, List.setIfInBounds_toArray, List.set_cons_zero, List.set_cons_succ]
    exact rfl
  case hL2 => exact ⟨⟨_, rfl⟩, ⟨_, rfl⟩, trivial⟩
  case hS2 => exact fun w' hb => H1.out.1.below hb
  case ho2 =>
    refine AllOk.cons ?_ ?_
    · exact fun γ => ⟨rfl, fun w' h => ex_load6 h 1 rfl rfl rfl rfl⟩
    refine AllOk.cons ?_ ?_
    · exact fun γ => ⟨rfl, fun w' h => ex_load6 h 2 rfl rfl rfl rfl⟩
    refine AllOk.cons ?_ ?_
    · exact fun γ => ⟨rfl, fun w' h => ⟨48, #[N a, N b], exec_call rfl call48 rfl (by simp only [List.map_toArray, List.map_cons, List.map_nil]; rfl), C0.out w'⟩⟩
    refine AllOk.cons ?_ ?_
    · exact fun γ => ⟨rfl, fun w' _ => rfl⟩
    refine AllOk.cons ?_ ?_
    · (refine fun γ => ⟨rfl, fun w' h => ?_⟩; clear h; go_simp)
    refine AllOk.cons ?_ ?_
    · (refine fun γ => ⟨rfl, fun w' h => ?_⟩; clear h; go_simp)
    refine AllOk.cons ?_ ?_
    · exact fun γ => ⟨rfl, fun w' => exec_made6 rfl⟩
    refine AllOk.cons ?_ ?_
    · exact fun γ => ⟨rfl, fun w' => exec_made6 rfl⟩
    refine AllOk.cons ?_ ?_
    · exact fun γ => ⟨rfl, rfl, rfl, fun w' h => exec_laid6 h rfl rfl rfl⟩
    refine AllOk.cons ?_ ?_
    · exact fun γ => ⟨rfl, rfl, rfl, fun w' h => exec_laid6 h rfl rfl rfl⟩
    exact trivial
  intro γ w2 l hM hl
  have M2 : Mm w2 [(γ 6, cells6 lo), (γ 7, cells6 hi), (γ1_0, cells6 n), (γ1_1, cells6 a), (γ1_2, cells6 b), (γ1_3, zero6)] := H1.out.1.grow hM (Nat.le_refl _) hl [6, 7] rfl (by decide)
  have B2 : Below w.heap.size w w2 := H1.out.2.trans (hM.below.mono H1.out.2.size)
  have o2_6 : Hid (w.heap.size ≤ γ 6) := Nat.le_trans H1.out.2.size (hM.fin (Nat.le_refl _) hl (i := 6) rfl).2.1
  have o2_7 : Hid (w.heap.size ≤ γ 7) := Nat.le_trans H1.out.2.size (hM.fin (Nat.le_refl _) hl (i := 7) rfl).2.1
  clear hM hl l H1
  generalize γ 6 = γ2_6 at M2 o2_6 ⊢
  generalize γ 7 = γ2_7 at M2 o2_7 ⊢
  clear γ
  have H2 : Hid (_ ∧ _) := ⟨M2, B2⟩
  clear M2 B2
  refine rest_at (l := []) rfl ?_
  refine rest_nil ?_
  refine then_normal ?_
  refine wp_seq ?_
  refine walk_seq 4 [.quiet (N n), .quiet (N lo), .quiet (N hi), .call (N r)] (fun w' => Mm w' [(γ2_6, cells6 lo), (γ2_7, cells6 hi), (γ1_0, cells6 n), (γ1_1, cells6 a), (γ1_2, cells6 b), (γ1_3, zero6)]) ?pre3 ?F3 ?hpre3 (fun γ => ?hF3) (by kernel_rfl) ?hL3 ?hS3 ?ho3 ?he3
  case hpre3 =>
    simp only [List.take_succ_cons, List.take_zero]
    exact rfl
  case hF3 =>
    simp only [fill, Kind.val, Act.put, List.setIfInBounds_toArray, List.set_cons_zero, List.set_cons_succ]
    exact rfl
  case hL3 => exact trivial
  case hS3 => exact fun w' hb => H2.out.1.below hb
  case ho3 =>
    refine AllOk.cons ?_ ?_
    · exact fun γ => ⟨rfl, fun w' h => ex_load6 h 2 rfl rfl rfl rfl⟩
    refine AllOk.cons ?_ ?_
    · exact fun γ => ⟨rfl, fun w' h => ex_load6 h 0 rfl rfl rfl rfl⟩
    refine AllOk.cons ?_ ?_
    · exact fun γ => ⟨rfl, fun w' h => ex_load6 h 1 rfl rfl rfl rfl⟩
    refine AllOk.cons ?_ ?_
    · exact fun γ => ⟨rfl, fun w' h => ⟨14, #[N n, N lo, N hi], exec_call rfl call14 rfl (by simp only [List.map_toArray, List.map_cons, List.map_nil]; rfl), C1.out w'⟩⟩
    exact trivial
  intro γ w3 l hM hl
  have M3 : Mm w3 [(γ2_6, cells6 lo), (γ2_7, cells6 hi), (γ1_0, cells6 n), (γ1_1, cells6 a), (γ1_2, cells6 b), (γ1_3, zero6)] := H2.out.1.grow hM (Nat.le_refl _) hl [] rfl (by decide)
  have B3 : Below w.heap.size w w3 := H2.out.2.trans (hM.below.mono H2.out.2.size)
  clear hM hl l H2
  clear γ
  have H3 : Hid (_ ∧ _) := ⟨M3, B3⟩
  clear M3 B3
  refine rest_at (l := [4]) rfl ?_
  refine rest_store rfl rfl rfl (ex_store6 H3.out.1 5 rfl rfl rfl rfl (Nat.le_of_ble_eq_true rfl)) ?_
  have H4 : Hid (Mm (w3.setCells γ1_3 0 (cells6 r)) [(γ2_6, cells6 lo), (γ2_7, cells6 hi), (γ1_0, cells6 n), (γ1_1, cells6 a), (γ1_2, cells6 b), (γ1_3, cells6 r)] ∧ Below w.heap.size w (w3.setCells γ1_3 0 (cells6 r))) := ⟨H3.out.1.put 5 (off := 0) (vs := cells6 r) rfl (Nat.le_of_ble_eq_true rfl), below_setCells _ o1_3.out _ _ _ H3.out.2⟩
  clear H3
  generalize hgw : World.setCells _ _ _ _ = w4 at H4 ⊢
  clear hgw
  refine rest_nil ?_
  refine then_normal ?_
  refine wp_ret ?_
  repeat (first | refine then_ret ?_ | refine block_ret ?_)
  have c0 := H4.out.1.get 5 rfl 0 rfl
  have c1 := H4.out.1.get 5 rfl 1 rfl
  have c2 := H4.out.1.get 5 rfl 2 rfl
  have c3 := H4.out.1.get 5 rfl 3 rfl
  have c4 := H4.out.1.get 5 rfl 4 rfl
  have c5 := H4.out.1.get 5 rfl 5 rfl
  refine bodyPost_ret (v := N r) (by simp [results, Tryd.results22, go_sem, *]) rfl ?_
  exact ⟨rfl, H4.out.2⟩
end Rg
end Go.Proofs.YtkfannhbnbgloaaDoor
/- twice -/
namespace Go.Proofs.YtkfannhbnbgloaaDoor
open Go.RowKit
namespace Rg
theorem call38 : ∀ args w, (callFunc 38 args).run Tryd.prog w = .ok (.enter 38 args) w := by intro args w; go_simp
set_option maxRecDepth 100000 in
theorem twice_1 (n a u t : Nat) (bt z : Int) (hb0 : 0 ≤ bt) (hb1 : bt ≤ 1) (ho : bits BinOp.or IntKind.u64 (wd u 0) bt = z) (hp : patch (cells6 u) 0 [.int .u64 z] = cells6 t)
    (c0 : ∀ w, Calls Tryd.prog 46 #[N a, N a] w fun e w' => e = .returned (.tuple #[N u, .bool false]) ∧ Below w.heap.size w w')
    (c1 : ∀ w, Calls Tryd.prog 38 #[N t, N n] w fun e w' => e = .returned (.int .i64 (-1)) ∧ Below w.heap.size w w') (w : World) :
    Calls Tryd.prog 43 #[N n, N a, .int .i64 bt] w fun e w' => e = .returned (N t) ∧ Below w.heap.size w w' := by
  have H0 : Hid (_ ∧ _) := ⟨Mm.nil w, Below.refl w.heap.size w⟩
  have C0 : Hid _ := c0
  have C1 : Hid _ := c1
  have HO : Hid _ := ho
  have HP : Hid _ := hp
  clear c0 c1 ho hp
  go_enter Tryd.func43, Tryd.ntmps43
  refine wp_seq ?_
  refine walk_seq 3 [.made (cells6 n) 24, .made (cells6 a) 24, .made zero6 24] (fun w' => Mm w' []) ?pre1 ?F1 ?hpre1 (fun γ => ?hF1) (by kernel_rfl) ?hL1 ?hS1 ?ho1 ?he1
  case hpre1 =>
    simp only [List.take_succ_cons, List.take_zero]
    exact rfl
  case hF1 =>
    simp only [fill, Kind.val, Act.put, List.setIfInBounds_toArray, List.set_cons_zero, List.set_cons_succ]
    exact rfl
  case hL1 => exact trivial
  case hS1 => exact fun w' hb => H0.out.1.below hb
  case ho1 =>
    refine AllOk.cons ?_ ?_
    · exact fun γ => ⟨rfl, fun w' => ex_box6 rfl rfl⟩
    refine AllOk.cons ?_ ?_
    · exact fun γ => ⟨rfl, fun w' => ex_box6 rfl rfl⟩
    refine AllOk.cons ?_ ?_
    · exact fun γ => ⟨rfl, fun w' => exec_made6 rfl⟩
    exact trivial
  intro γ w1 l hM hl
  have M1 : Mm w1 [(γ 0, cells6 n), (γ 1, cells6 a), (γ 2, zero6)] := H0.out.1.grow hM (Nat.le_refl _) hl [0, 1, 2] rfl (by decide)
  have B1 : Below w.heap.size w w1 := H0.out.2.trans (hM.below.mono H0.out.2.size)
  have o1_0 : Hid (w.heap.size ≤ γ 0) := Nat.le_trans H0.out.2.size (hM.fin (Nat.le_refl _) hl (i := 0) rfl).2.1
  have o1_1 : Hid (w.heap.size ≤ γ 1) := Nat.le_trans H0.out.2.size (hM.fin (Nat.le_refl _) hl (i := 1) rfl).2.1
  have o1_2 : Hid (w.heap.size ≤ γ 2) := Nat.le_trans H0.out.2.size (hM.fin (Nat.le_refl _) hl (i := 2) rfl).2.1
  clear hM hl l
  generalize γ 0 = γ1_0 at M1 o1_0 ⊢
  generalize γ 1 = γ1_1 at M1 o1_1 ⊢
  generalize γ 2 = γ1_2 at M1 o1_2 ⊢
  clear γ
  have H1 : Hid (_ ∧ _) := ⟨M1, B1⟩
  clear M1 B1
  refine rest_at (l := []) rfl ?_
  refine rest_nil ?_
  refine then_normal ?_
  refine wp_seq ?_
  refine walk_seq 9 [.quiet (N a), .quiet (N a), .call (.tuple #[N u, .bool false]), .quiet (.tuple #[N u, .bool false]), .quiet (N u), .quiet (.bool false), .made zero6 24, .laid 6 zero6 (cells6 u), .quiet (.bool false)] (fun w' => Mm w' [(γ1_0, cells6 n), (γ1_1, cells6 a), (γ1_2, zero6)]) ?pre2 ?F2 ?hpre2 (fun γ => ?hF2) (by kernel_rfl) ?hL2 ?hS2 ?ho2 ?he2
  case hpre2 =>
    simp only [List.take_succ_cons, List.take_zero]
    exact rfl
  case hF2 =>
    simp only [fill, Kind.val, Act.put, List.setIfInBounds_toArray, List.set_cons_zero, List.set_cons_succ]
    exact rfl
  case hL2 => exact ⟨⟨_, rfl⟩, trivial⟩
  case hS2 => exact fun w' hb => H1.out.1.below hb
  case ho2 =>
    refine AllOk.cons ?_ ?_
    · exact fun γ => ⟨rfl, fun w' h => ex_load6 h 1 rfl rfl rfl rfl⟩
    refine AllOk.cons ?_ ?_
    · exact fun γ => ⟨rfl, fun w' h => ex_load6 h 1 rfl rfl rfl rfl⟩
    refine AllOk.cons ?_ ?_
    · exact fun γ => ⟨rfl, fun w' h => ⟨46, #[N a, N a], exec_call rfl call46 rfl (by simp only [List.map_toArray, List.map_cons, List.map_nil]; rfl), C0.out w'⟩⟩
    refine AllOk.cons ?_ ?_
    · exact fun γ => ⟨rfl, fun w' _ => rfl⟩
    refine AllOk.cons ?_ ?_
    · (refine fun γ => ⟨rfl, fun w' h => ?_⟩; clear h; go_simp)
    refine AllOk.cons ?_ ?_
    · (refine fun γ => ⟨rfl, fun w' h => ?_⟩; clear h; go_simp)
    refine AllOk.cons ?_ ?_
    · exact fun γ => ⟨rfl, fun w' => exec_made6 rfl⟩
    refine AllOk.cons ?_ ?_
    · exact fun γ => ⟨rfl, rfl, rfl, fun w' h => exec_laid6 h rfl rfl rfl⟩
    refine AllOk.cons ?_ ?_
    · exact fun γ => ⟨rfl, fun w' _ => rfl⟩
    exact trivial
  intro γ w2 l hM hl
  have M2 : Mm w2 [(γ 6, cells6 u), (γ1_0, cells6 n), (γ1_1, cells6 a), (γ1_2, zero6)] := H1.out.1.grow hM (Nat.le_refl _) hl [6] rfl (by decide)
  have B2 : Below w.heap.size w w2 := H1.out.2.trans (hM.below.mono H1.out.2.size)
  have o2_6 : Hid (w.heap.size ≤ γ 6) := Nat.le_trans H1.out.2.size (hM.fin (Nat.le_refl _) hl (i := 6) rfl).2.1
  clear hM hl l H1
  generalize γ 6 = γ2_6 at M2 o2_6 ⊢
  clear γ
  have H2 : Hid (_ ∧ _) := ⟨M2, B2⟩
  clear M2 B2
  refine rest_at (l := []) rfl ?_
  refine rest_nil ?_
  refine then_normal ?_
  refine wp_seq ?_
  refine walk_seq 6 [.quiet (PT γ2_6 0), .quiet (.int .u64 (wd u 0)), .quiet (.int .i64 bt), .quiet (.int .u64 bt), .quiet (.int .u64 z), .quiet (PT γ2_6 0)] (fun w' => Mm w' [(γ2_6, cells6 u), (γ1_0, cells6 n), (γ1_1, cells6 a), (γ1_2, zero6)]) ?pre3 ?F3 ?hpre3 (fun γ => ?hF3) (by kernel_rfl) ?hL3 ?hS3 ?ho3 ?he3
  case hpre3 =>
    simp only [List.take_succ_cons, List.take_zero]
    exact rfl
  case hF3 =>
    simp only [fill, Kind.val, Act.put, List.setIfInBounds_toArray, List.set_cons_zero, List.set_cons_succ]
    exact rfl
  case hL3 => exact trivial
  case hS3 => exact fun w' hb => H2.out.1.below hb
  case ho3 =>
    refine AllOk.cons ?_ ?_
    · (refine fun γ => ⟨rfl, fun w' h => ?_⟩; clear h; go_simp)
    refine AllOk.cons ?_ ?_
    · exact fun γ => ⟨rfl, fun w' h => ex_load1 h 0 rfl rfl rfl rfl⟩
    refine AllOk.cons ?_ ?_
    · exact fun γ => ⟨rfl, fun w' _ => rfl⟩
    refine AllOk.cons ?_ ?_
    · (refine fun γ => ⟨rfl, fun w' h => ?_⟩; clear h; go_simp; rw [IntKind.wrap_u64]; omega)
    refine AllOk.cons ?_ ?_
    · exact fun γ => ⟨rfl, fun w' _ => ex_bor HO.out rfl rfl rfl⟩
    refine AllOk.cons ?_ ?_
    · (refine fun γ => ⟨rfl, fun w' h => ?_⟩; clear h; go_simp)
    exact trivial
  intro γ w3 l hM hl
  have M3 : Mm w3 [(γ2_6, cells6 u), (γ1_0, cells6 n), (γ1_1, cells6 a), (γ1_2, zero6)] := H2.out.1.grow hM (Nat.le_refl _) hl [] rfl (by decide)
  have B3 : Below w.heap.size w w3 := H2.out.2.trans (hM.below.mono H2.out.2.size)
  clear hM hl l H2
  clear γ
  have H3 : Hid (_ ∧ _) := ⟨M3, B3⟩
  clear M3 B3
  refine rest_at (l := [6]) rfl ?_
  refine rest_store rfl rfl rfl (ex_storeI H3.out.1 0 rfl rfl Tryd.sizeOf22 rfl rfl (Nat.le_of_ble_eq_true rfl)) ?_
  have H4 : Hid (Mm (w3.setCells γ2_6 0 [.int .u64 z]) [(γ2_6, cells6 t), (γ1_0, cells6 n), (γ1_1, cells6 a), (γ1_2, zero6)] ∧ Below w.heap.size w (w3.setCells γ2_6 0 [.int .u64 z])) := ⟨by
    have h := H3.out.1.put 0 (off := 0) (vs := [.int .u64 z]) rfl (Nat.le_of_ble_eq_true rfl)
    rw [HP.out] at h
    exact h, below_setCells _ o2_6.out _ _ _ H3.out.2⟩
  clear H3
  generalize hgw : World.setCells _ _ _ _ = w4 at H4 ⊢
  clear hgw
  refine rest_nil ?_
  refine then_normal ?_
  refine wp_seq ?_
  refine wp_seq ?_
  refine walk_seq 4 [.quiet (N t), .quiet (N n), .call (.int .i64 (-1)), .quiet (.bool false)] (fun w' => Mm w' [(γ2_6, cells6 t), (γ1_0, cells6 n), (γ1_1, cells6 a), (γ1_2, zero6)]) ?pre4 ?F4 ?hpre4 (fun γ => ?hF4) (by kernel_rfl) ?hL4 ?hS4 ?ho4 ?he4
  case hpre4 =>
    simp only [List.take_succ_cons, List.take_zero]
    exact rfl
  case hF4 =>
    simp only [fill, Kind.val, Act.put, List.setIfInBounds_toArray, List.set_cons_zero, List.set_cons_succ]
    exact rfl
  case hL4 => exact trivial
  case hS4 => exact fun w' hb => H4.out.1.below hb
  case ho4 =>
    refine AllOk.cons ?_ ?_
    · exact fun γ => ⟨rfl, fun w' h => ex_load6 h 0 rfl rfl rfl rfl⟩
    refine AllOk.cons ?_ ?_
    · exact fun γ => ⟨rfl, fun w' h => ex_load6 h 1 rfl rfl rfl rfl⟩
    refine AllOk.cons ?_ ?_
    · exact fun γ => ⟨rfl, fun w' h => ⟨38, #[N t, N n], exec_call rfl call38 rfl (by simp only [List.map_toArray, List.map_cons, List.map_nil]; rfl), C1.out w'⟩⟩
    refine AllOk.cons ?_ ?_
    · (refine fun γ => ⟨rfl, fun w' h => ?_⟩; clear h; go_simp)
    exact trivial
  intro γ w5 l hM hl
  have M5 : Mm w5 [(γ2_6, cells6 t), (γ1_0, cells6 n), (γ1_1, cells6 a), (γ1_2, zero6)] := H4.out.1.grow hM (Nat.le_refl _) hl [] rfl (by decide)
  have B5 : Below w.heap.size w w5 := H4.out.2.trans (hM.below.mono H4.out.2.size)
  clear hM hl l H4
  clear γ
  have H5 : Hid (_ ∧ _) := ⟨M5, B5⟩
  clear M5 B5
  refine rest_at (l := []) rfl ?_
  refine rest_nil ?_
  refine then_normal ?_
  refine wp_cond_false rfl ?_
  refine wp_skip ?_
  refine then_normal ?_
  refine wp_seq ?_
  refine walk_seq 1 [.quiet (N t)] (fun w' => Mm w' [(γ2_6, cells6 t), (γ1_0, cells6 n), (γ1_1, cells6 a), (γ1_2, zero6)]) ?pre5 ?F5 ?hpre5 (fun γ => ?hF5) (by kernel_rfl) ?hL5 ?hS5 ?ho5 ?he5
  case hpre5 =>
    simp only [List.take_succ_cons, List.take_zero]
    exact rfl
  case hF5 =>
    simp only [fill, Kind.val, Act.put, List.setIfInBounds_toArray, List.set_cons_zero, List.set_cons_succ]
    exact rfl
  case hL5 => exact trivial
  case hS5 => exact fun w' hb => H5.out.1.below hb
  case ho5 =>
    refine AllOk.cons ?_ ?_
    · exact fun γ => ⟨rfl, fun w' h => ex_load6 h 0 rfl rfl rfl rfl⟩
    exact trivial
  intro γ w6 l hM hl
  have M6 : Mm w6 [(γ2_6, cells6 t), (γ1_0, cells6 n), (γ1_1, cells6 a), (γ1_2, zero6)] := H5.out.1.grow hM (Nat.le_refl _) hl [] rfl (by decide)
  have B6 : Below w.heap.size w w6 := H5.out.2.trans (hM.below.mono H5.out.2.size)
  clear hM hl l H5
  clear γ
  have H6 : Hid (_ ∧ _) := ⟨M6, B6⟩
  clear M6 B6
  refine rest_at (l := [1]) rfl ?_
  refine rest_store rfl rfl rfl (ex_store6 H6.out.1 3 rfl rfl rfl rfl (Nat.le_of_ble_eq_true rfl)) ?_
  have H7 : Hid (Mm (w6.setCells γ1_2 0 (cells6 t)) [(γ2_6, cells6 t), (γ1_0, cells6 n), (γ1_1, cells6 a), (γ1_2, cells6 t)] ∧ Below w.heap.size w (w6.setCells γ1_2 0 (cells6 t))) := ⟨H6.out.1.put 3 (off := 0) (vs := cells6 t) rfl (Nat.le_of_ble_eq_true rfl), below_setCells _ o1_2.out _ _ _ H6.out.2⟩
  clear H6
  generalize hgw : World.setCells _ _ _ _ = w7 at H7 ⊢
  clear hgw
  refine rest_nil ?_
  refine then_normal ?_
  refine wp_ret ?_
  repeat (first | refine then_ret ?_ | refine block_ret ?_)
  have c0 := H7.out.1.get 3 rfl 0 rfl
  have c1 := H7.out.1.get 3 rfl 1 rfl
  have c2 := H7.out.1.get 3 rfl 2 rfl
  have c3 := H7.out.1.get 3 rfl 3 rfl
  have c4 := H7.out.1.get 3 rfl 4 rfl
  have c5 := H7.out.1.get 3 rfl 5 rfl
  refine bodyPost_ret (v := N t) (by simp [results, Tryd.results43, go_sem, *]) rfl ?_
  exact ⟨rfl, H7.out.2⟩
set_option maxRecDepth 100000 in
theorem twice_2 (n a u t r : Nat) (bt z c : Int) (hb0 : 0 ≤ bt) (hb1 : bt ≤ 1) (hc : ¬ c < 0) (ho : bits BinOp.or IntKind.u64 (wd u 0) bt = z) (hp : patch (cells6 u) 0 [.int .u64 z] = cells6 t)
    (c0 : ∀ w, Calls Tryd.prog 46 #[N a, N a] w fun e w' => e = .returned (.tuple #[N u, .bool false]) ∧ Below w.heap.size w w')
    (c1 : ∀ w, Calls Tryd.prog 38 #[N t, N n] w fun e w' => e = .returned (.int .i64 c) ∧ Below w.heap.size w w')
    (c2 : ∀ w, Calls Tryd.prog 47 #[N t, N n] w fun e w' => e = .returned (.tuple #[N r, .bool false]) ∧ Below w.heap.size w w') (w : World) :
    Calls Tryd.prog 43 #[N n, N a, .int .i64 bt] w fun e w' => e = .returned (N r) ∧ Below w.heap.size w w' := by
  have H0 : Hid (_ ∧ _) := ⟨Mm.nil w, Below.refl w.heap.size w⟩
  have C0 : Hid _ := c0
  have C1 : Hid _ := c1
  have C2 : Hid _ := c2
  have HO : Hid _ := ho
  have HP : Hid _ := hp
  clear c0 c1 c2 ho hp
  go_enter Tryd.func43, Tryd.ntmps43
  refine wp_seq ?_
  refine walk_seq 3 [.made (cells6 n) 24, .made (cells6 a) 24, .made zero6 24] (fun w' => Mm w' []) ?pre1 ?F1 ?hpre1 (fun γ => ?hF1) (by kernel_rfl) ?hL1 ?hS1 ?ho1 ?he1
  case hpre1 =>
    simp only [List.take_succ_cons, List.take_zero]
    exact rfl
  case hF1 =>
    simp only [fill, Kind.val, Act.put, List.setIfInBounds_toArray, List.set_cons_zero, List.set_cons_succ]
    exact rfl
  case hL1 => exact trivial
  case hS1 => exact fun w' hb => H0.out.1.below hb
  case ho1 =>
    refine AllOk.cons ?_ ?_
    · exact fun γ => ⟨rfl, fun w' => ex_box6 rfl rfl⟩
    refine AllOk.cons ?_ ?_
    · exact fun γ => ⟨rfl, fun w' => ex_box6 rfl rfl⟩
    refine AllOk.cons ?_ ?_
    · exact fun γ => ⟨rfl, fun w' => exec_made6 rfl⟩
    exact trivial
  intro γ w1 l hM hl
  have M1 : Mm w1 [(γ 0, cells6 n), (γ 1, cells6 a), (γ 2, zero6)] := H0.out.1.grow hM (Nat.le_refl _) hl [0, 1, 2] rfl (by decide)
  have B1 : Below w.heap.size w w1 := H0.out.2.trans (hM.below.mono H0.out.2.size)
  have o1_0 : Hid (w.heap.size ≤ γ 0) := Nat.le_trans H0.out.2.size (hM.fin (Nat.le_refl _) hl (i := 0) rfl).2.1
  have o1_1 : Hid (w.heap.size ≤ γ 1) := Nat.le_trans H0.out.2.size (hM.fin (Nat.le_refl _) hl (i := 1) rfl).2.1
  have o1_2 : Hid (w.heap.size ≤ γ 2) := Nat.le_trans H0.out.2.size (hM.fin (Nat.le_refl _) hl (i := 2) rfl).2.1
  clear hM hl l
  generalize γ 0 = γ1_0 at M1 o1_0 ⊢
  generalize γ 1 = γ1_1 at M1 o1_1 ⊢
  generalize γ 2 = γ1_2 at M1 o1_2 ⊢
  clear γ
  have H1 : Hid (_ ∧ _) := ⟨M1, B1⟩
  clear M1 B1
  refine rest_at (l := []) rfl ?_
  refine rest_nil ?_
  refine then_normal ?_
  refine wp_seq ?_
  refine walk_seq 9 [.quiet (N a), .quiet (N a), .call (.tuple #[N u, .bool false]), .quiet (.tuple #[N u, .bool false]), .quiet (N u), .quiet (.bool false), .made zero6 24, .laid 6 zero6 (cells6 u), .quiet (.bool false)] (fun w' => Mm w' [(γ1_0, cells6 n), (γ1_1, cells6 a), (γ1_2, zero6)]) ?pre2 ?F2 ?hpre2 (fun γ => ?hF2) (by kernel_rfl) ?hL2 ?hS2 ?ho2 ?he2
  case hpre2 =>
    simp only [List.take_succ_cons, List.take_zero]
    exact rfl
  case hF2 =>
    simp only [fill, Kind.val, Act.put, List.setIfInBounds_toArray, List.set_cons_zero, List.set_cons_succ]
    exact rfl
  case hL2 => exact ⟨⟨_, rfl⟩, trivial⟩
  case hS2 => exact fun w' hb => H1.out.1.below hb
  case ho2 =>
    refine AllOk.cons ?_ ?_
    · exact fun γ => ⟨rfl, fun w' h => ex_load6 h 1 rfl rfl rfl rfl⟩
    refine AllOk.cons ?_ ?_
    · exact fun γ => ⟨rfl, fun w' h => ex_load6 h 1 rfl rfl rfl rfl⟩
    refine AllOk.cons ?_ ?_
    · exact fun γ => ⟨rfl, fun w' h => ⟨46, #[N a, N a], exec_call rfl call46 rfl (by simp only [List.map_toArray, List.map_cons, List.map_nil]; rfl), C0.out w'⟩⟩
    refine AllOk.cons ?_ ?_
    · exact fun γ => ⟨rfl, fun w' _ => rfl⟩
    refine AllOk.cons ?_ ?_
    · (refine fun γ => ⟨rfl, fun w' h => ?_⟩; clear h; go_simp)
    refine AllOk.cons ?_ ?_
    · (refine fun γ => ⟨rfl, fun w' h => ?_⟩; clear h; go_simp)
    refine AllOk.cons ?_ ?_
    · exact fun γ => ⟨rfl, fun w' => exec_made6 rfl⟩
    refine AllOk.cons ?_ ?_
    · exact fun γ => ⟨rfl, rfl, rfl, fun w' h => exec_laid6 h rfl rfl rfl⟩
    refine AllOk.cons ?_ ?_
    · exact fun γ => ⟨rfl, fun w' _ => rfl⟩
    exact trivial
  intro γ w2 l hM hl
  have M2 : Mm w2 [(γ 6, cells6 u), (γ1_0, cells6 n), (γ1_1, cells6 a), (γ1_2, zero6)] := H1.out.1.grow hM (Nat.le_refl _) hl [6] rfl (by decide)
  have B2 : Below w.heap.size w w2 := H1.out.2.trans (hM.below.mono H1.out.2.size)
  have o2_6 : Hid (w.heap.size ≤ γ 6) := Nat.le_trans H1.out.2.size (hM.fin (Nat.le_refl _) hl (i := 6) rfl).2.1
  clear hM hl l H1
  generalize γ 6 = γ2_6 at M2 o2_6 ⊢
  clear γ
  have H2 : Hid (_ ∧ _) := ⟨M2, B2⟩
  clear M2 B2
  refine rest_at (l := []) rfl ?_
  refine rest_nil ?_
  refine then_normal ?_
  refine wp_seq ?_
  refine walk_seq 6 [.quiet (PT γ2_6 0), .quiet (.int .u64 (wd u 0)), .quiet (.int .i64 bt), .quiet (.int .u64 bt), .quiet (.int .u64 z), .quiet (PT γ2_6 0)] (fun w' => Mm w' [(γ2_6, cells6 u), (γ1_0, cells6 n), (γ1_1, cells6 a), (γ1_2, zero6)]) ?pre3 ?F3 ?hpre3 (fun γ => ?hF3) (by kernel_rfl) ?hL3 ?hS3 ?ho3 ?he3
  case hpre3 =>
    simp only [List.take_succ_cons, List.take_zero]
    exact rfl
  case hF3 =>
    simp only [fill, Kind.val, Act.put, List.setIfInBounds_toArray, List.set_cons_zero, List.set_cons_succ]
    exact rfl
  case hL3 => exact trivial
  case hS3 => exact fun w' hb => H2.out.1.below hb
  case ho3 =>
    refine AllOk.cons ?_ ?_
    · (refine fun γ => ⟨rfl, fun w' h => ?_⟩; clear h; go_simp)
    refine AllOk.cons ?_ ?_
    · exact fun γ => ⟨rfl, fun w' h => ex_load1 h 0 rfl rfl rfl rfl⟩
    refine AllOk.cons ?_ ?_
    · exact fun γ => ⟨rfl, fun w' _ => rfl⟩
    refine AllOk.cons ?_ ?_
    · (refine fun γ => ⟨rfl, fun w' h => ?_⟩; clear h; go_simp; rw [IntKind.wrap_u64]; omega)
    refine AllOk.cons ?_ ?_
    · exact fun γ => ⟨rfl, fun w' _ => ex_bor HO.out rfl rfl rfl⟩
    refine AllOk.cons ?_ ?_
    · (refine fun γ => ⟨rfl, fun w' h => ?_⟩; clear h; go_simp)
    exact trivial
  intro γ w3 l hM hl
  have M3 : Mm w3 [(γ2_6, cells6 u), (γ1_0, cells6 n), (γ1_1, cells6 a), (γ1_2, zero6)] := H2.out.1.grow hM (Nat.le_refl _) hl [] rfl (by decide)
  have B3 : Below w.heap.size w w3 := H2.out.2.trans (hM.below.mono H2.out.2.size)
  clear hM hl l H2
  clear γ
  have H3 : Hid (_ ∧ _) := ⟨M3, B3⟩
  clear M3 B3
  refine rest_at (l := [6]) rfl ?_
  refine rest_store rfl rfl rfl (ex_storeI H3.out.1 0 rfl rfl Tryd.sizeOf22 rfl rfl (Nat.le_of_ble_eq_true rfl)) ?_
  have H4 : Hid (Mm (w3.setCells γ2_6 0 [.int .u64 z]) [(γ2_6, cells6 t), (γ1_0, cells6 n), (γ1_1, cells6 a), (γ1_2, zero6)] ∧ Below w.heap.size w (w3.setCells γ2_6 0 [.int .u64 z])) := ⟨by
    have h := H3.out.1.put 0 (off := 0) (vs := [.int .u64 z]) rfl (Nat.le_of_ble_eq_true rfl)
    rw [HP.out] at h
    exact h, below_setCells _ o2_6.out _ _ _ H3.out.2⟩
  clear H3
  generalize hgw : World.setCells _ _ _ _ = w4 at H4 ⊢
  clear hgw
  refine rest_nil ?_
  refine then_normal ?_
  refine wp_seq ?_
  refine wp_seq ?_
  refine walk_seq 4 [.quiet (N t), .quiet (N n), .call (.int .i64 c), .quiet (.bool true)] (fun w' => Mm w' [(γ2_6, cells6 t), (γ1_0, cells6 n), (γ1_1, cells6 a), (γ1_2, zero6)]) ?pre4 ?F4 ?hpre4 (fun γ => ?hF4) (by kernel_rfl) ?hL4 ?hS4 ?ho4 ?he4
  case hpre4 =>
    simp only [List.take_succ_cons, List.take_zero]
    exact rfl
  case hF4 =>
    simp only [fill, Kind.val, Act.put, List.setIfInBounds_toArray, List.set_cons_zero, List.set_cons_succ]
    exact rfl
  case hL4 => exact trivial
  case hS4 => exact fun w' hb => H4.out.1.below hb
  case ho4 =>
    refine AllOk.cons ?_ ?_
    · exact fun γ => ⟨rfl, fun w' h => ex_load6 h 0 rfl rfl rfl rfl⟩
    refine AllOk.cons ?_ ?_
    · exact fun γ => ⟨rfl, fun w' h => ex_load6 h 1 rfl rfl rfl rfl⟩
    refine AllOk.cons ?_ ?_
    · exact fun γ => ⟨rfl, fun w' h => ⟨38, #[N t, N n], exec_call rfl call38 rfl (by simp only [List.map_toArray, List.map_cons, List.map_nil]; rfl), C1.out w'⟩⟩
    refine AllOk.cons ?_ ?_
    · (refine fun γ => ⟨rfl, fun w' h => ?_⟩; clear h; go_simp <;> omega)
    exact trivial
  intro γ w5 l hM hl
  have M5 : Mm w5 [(γ2_6, cells6 t), (γ1_0, cells6 n), (γ1_1, cells6 a), (γ1_2, zero6)] := H4.out.1.grow hM (Nat.le_refl _) hl [] rfl (by decide)
  have B5 : Below w.heap.size w w5 := H4.out.2.trans (hM.below.mono H4.out.2.size)
  clear hM hl l H4
  clear γ
  have H5 : Hid (_ ∧ _) := ⟨M5, B5⟩
  clear M5 B5
  refine rest_at (l := []) rfl ?_
  refine rest_nil ?_
  refine then_normal ?_
  refine wp_cond_true rfl ?_
  refine walk_seq 6 [.quiet (N t), .quiet (N n), .call (.tuple #[N r, .bool false]), .quiet (.tuple #[N r, .bool false]), .quiet (N r), .quiet (.bool false)] (fun w' => Mm w' [(γ2_6, cells6 t), (γ1_0, cells6 n), (γ1_1, cells6 a), (γ1_2, zero6)]) ?pre5 ?F5 ?hpre5 (fun γ => ?hF5) (by kernel_rfl) ?hL5 ?hS5 ?ho5 ?he5
  case hpre5 =>
    simp only [List.take_succ_cons, List.take_zero]
    exact rfl
  case hF5 =>
    simp only [fill, Kind.val, Act.put, List.setIfInBounds_toArray, List.set_cons_zero, List.set_cons_succ]
    exact rfl
  case hL5 => exact trivial
  case hS5 => exact fun w' hb => H5.out.1.below hb
  case ho5 =>
    refine AllOk.cons ?_ ?_
    · exact fun γ => ⟨rfl, fun w' h => ex_load6 h 0 rfl rfl rfl rfl⟩
    refine AllOk.cons ?_ ?_
    · exact fun γ => ⟨rfl, fun w' h => ex_load6 h 1 rfl rfl rfl rfl⟩
    refine AllOk.cons ?_ ?_
    · exact fun γ => ⟨rfl, fun w' h => ⟨47, #[N t, N n], exec_call rfl call47 rfl (by simp only [List.map_toArray, List.map_cons, List.map_nil]; rfl), C2.out w'⟩⟩
    refine AllOk.cons ?_ ?_
    · exact fun γ => ⟨rfl, fun w' _ => rfl⟩
    refine AllOk.cons ?_ ?_
    · (refine fun γ => ⟨rfl, fun w' h => ?_⟩; clear h; go_simp)
    refine AllOk.cons ?_ ?_
    · (refine fun γ => ⟨rfl, fun w' h => ?_⟩; clear h; go_simp)
    exact trivial
  intro γ w6 l hM hl
  have M6 : Mm w6 [(γ2_6, cells6 t), (γ1_0, cells6 n), (γ1_1, cells6 a), (γ1_2, zero6)] := H5.out.1.grow hM (Nat.le_refl _) hl [] rfl (by decide)
  have B6 : Below w.heap.size w w6 := H5.out.2.trans (hM.below.mono H5.out.2.size)
  clear hM hl l H5
  clear γ
  have H6 : Hid (_ ∧ _) := ⟨M6, B6⟩
  clear M6 B6
  refine rest_at (l := [6]) rfl ?_
  refine rest_store rfl rfl rfl (ex_store6 H6.out.1 0 rfl rfl rfl rfl (Nat.le_of_ble_eq_true rfl)) ?_
  have H7 : Hid (Mm (w6.setCells γ2_6 0 (cells6 r)) [(γ2_6, cells6 r), (γ1_0, cells6 n), (γ1_1, cells6 a), (γ1_2, zero6)] ∧ Below w.heap.size w (w6.setCells γ2_6 0 (cells6 r))) := ⟨H6.out.1.put 0 (off := 0) (vs := cells6 r) rfl (Nat.le_of_ble_eq_true rfl), below_setCells _ o2_6.out _ _ _ H6.out.2⟩
  clear H6
  generalize hgw : World.setCells _ _ _ _ = w7 at H7 ⊢
  clear hgw
  refine rest_nil ?_
  refine then_normal ?_
  refine wp_seq ?_
  refine walk_seq 1 [.quiet (N r)] (fun w' => Mm w' [(γ2_6, cells6 r), (γ1_0, cells6 n), (γ1_1, cells6 a), (γ1_2, zero6)]) ?pre6 ?F6 ?hpre6 (fun γ => ?hF6) (by kernel_rfl) ?hL6 ?hS6 ?ho6 ?he6
  case hpre6 =>
    simp only [List.take_succ_cons, List.take_zero]
    exact rfl
  case hF6 =>
    simp only [fill, Kind.val, Act.put, List.setIfInBounds_toArray, List.set_cons_zero, List.set_cons_succ]
    exact rfl
  case hL6 => exact trivial
  case hS6 => exact fun w' hb => H7.out.1.below hb
  case ho6 =>
    refine AllOk.cons ?_ ?_
    · exact fun γ => ⟨rfl, fun w' h => ex_load6 h 0 rfl rfl rfl rfl⟩
    exact trivial
  intro γ w8 l hM hl
  have M8 : Mm w8 [(γ2_6, cells6 r), (γ1_0, cells6 n), (γ1_1, cells6 a), (γ1_2, zero6)] := H7.out.1.grow hM (Nat.le_refl _) hl [] rfl (by decide)
  have B8 : Below w.heap.size w w8 := H7.out.2.trans (hM.below.mono H7.out.2.size)
  clear hM hl l H7
  clear γ
  have H8 : Hid (_ ∧ _) := ⟨M8, B8⟩
  clear M8 B8
  refine rest_at (l := [1]) rfl ?_
  refine rest_store rfl rfl rfl (ex_store6 H8.out.1 3 rfl rfl rfl rfl (Nat.le_of_ble_eq_true rfl)) ?_
  have H9 : Hid (Mm (w8.setCells γ1_2 0 (cells6 r)) [(γ2_6, cells6 r), (γ1_0, cells6 n), (γ1_1, cells6 a), (γ1_2, cells6 r)] ∧ Below w.heap.size w (w8.setCells γ1_2 0 (cells6 r))) := ⟨H8.out.1.put 3 (off := 0) (vs := cells6 r) rfl (Nat.le_of_ble_eq_true rfl), below_setCells _ o1_2.out _ _ _ H8.out.2⟩
  clear H8
  generalize hgw : World.setCells _ _ _ _ = w9 at H9 ⊢
  clear hgw
  refine rest_nil ?_
  refine then_normal ?_
  refine wp_ret ?_
  repeat (first | refine then_ret ?_ | refine block_ret ?_)
  have c0 := H9.out.1.get 3 rfl 0 rfl
  have c1 := H9.out.1.get 3 rfl 1 rfl
  have c2 := H9.out.1.get 3 rfl 2 rfl
  have c3 := H9.out.1.get 3 rfl 3 rfl
  have c4 := H9.out.1.get 3 rfl 4 rfl
  have c5 := H9.out.1.get 3 rfl 5 rfl
  refine bodyPost_ret (v := N r) (by simp [results, Tryd.results43, go_sem, *]) rfl ?_
  exact ⟨rfl, H9.out.2⟩

theorem or_bit (x b : Nat) (hx : x < 18446744073709551616) (he : x % 2 = 0) (hb : b ≤ 1) : bits BinOp.or IntKind.u64 (x : Int) (b : Int) = ((x + b : Nat) : Int) := by
  have h := bits_or_u64_nat x b hx (by omega)
  have e : x ||| b = x + b := by
    rcases (by omega : b = 0 ∨ b = 1) with rfl | rfl
    · simp
    · apply Nat.eq_of_testBit_eq
      intro i
      rw [Nat.testBit_or]
      cases i with
      | zero => simp [Nat.testBit_zero]; omega
      | succ i => 
        rw [Nat.testBit_succ, Nat.testBit_succ, Nat.testBit_succ, show (x + 1) / 2 = x / 2 by omega]
        simp
  rw [e] at h
  exact h
theorem even_wd (u b k : Nat) (he : u % 2 = 0) (hb : b ≤ 1) : wd (u + b) (k + 1) = wd u (k + 1) := by
  unfold wd
  rw [Nat.mul_add, Nat.mul_one, Nat.pow_add, Nat.mul_comm (2 ^ (64 * k)), ← Nat.div_div_eq_div_mul, ← Nat.div_div_eq_div_mul]
  have : (u + b) / 2 ^ 64 = u / 2 ^ 64 := by omega
  rw [this]
theorem twice_any (n a b : Nat) (ok : Ok n) (ha : a < n) (hb : b ≤ 1) (w : World) :
    Calls Tryd.prog 43 #[N n, N a, .int .i64 ((b : Nat) : Int)] w fun e w' => e = .returned (N ((2 * a + b) % n)) ∧ Below w.heap.size w w' := by
  have hbn := ok.big
  have ht := ok.top
  have c46 := fun w => add_ref a a (by omega) (by omega) w
  rw [decide_eq_false (by omega), Nat.mod_eq_of_lt (show a + a < big by omega), ← Nat.two_mul] at c46
  have h0 : wd (2 * a) 0 = ((2 * a % 18446744073709551616 : Nat) : Int) := by unfold wd; rw [Nat.mul_zero, Nat.pow_zero, Nat.div_one]
  have ho := or_bit (2 * a % 18446744073709551616) b (Nat.mod_lt _ (by decide)) (by omega) hb
  rw [← h0] at ho
  have h1 : ((2 * a % 18446744073709551616 + b : Nat) : Int) = wd (2 * a + b) 0 := by
    unfold wd; rw [Nat.mul_zero, Nat.pow_zero, Nat.div_one]; omega
  rw [h1] at ho
  have hp : patch (cells6 (2 * a)) 0 [.int .u64 (wd (2 * a + b) 0)] = cells6 (2 * a + b) := by
    have e := fun k => (even_wd (2 * a) b k (by omega) hb).symm
    show [Value.int .u64 (wd (2 * a + b) 0), .int .u64 (wd (2 * a) 1), .int .u64 (wd (2 * a) 2), .int .u64 (wd (2 * a) 3), .int .u64 (wd (2 * a) 4), .int .u64 (wd (2 * a) 5)] = _
    rw [show wd (2 * a) 1 = wd (2 * a + b) 1 from e 0, show wd (2 * a) 2 = wd (2 * a + b) 2 from e 1, show wd (2 * a) 3 = wd (2 * a + b) 3 from e 2, show wd (2 * a) 4 = wd (2 * a + b) 4 from e 3, show wd (2 * a) 5 = wd (2 * a + b) 5 from e 4]
  have c38 := fun w => compare_ref (2 * a + b) n (by omega) hbn w
  by_cases h : 2 * a + b < n
  · rw [cmp_lt h] at c38
    rw [Nat.mod_eq_of_lt h]
    exact twice_1 n a (2 * a) (2 * a + b) _ _ (by omega) (by omega) ho hp c46 c38 w
  · have c47 := fun w => sub_ref (2 * a + b) n (by omega) hbn w
    rw [decide_eq_false h, show 2 * a + b + big - n = 2 * a + b - n + big by omega, Nat.add_mod_right, Nat.mod_eq_of_lt (show 2 * a + b - n < big by omega)] at c47
    have e : (2 * a + b) % n = 2 * a + b - n := by rw [Nat.mod_eq_sub_mod (by omega), Nat.mod_eq_of_lt (by omega)]
    rw [e]
    exact twice_2 n a (2 * a) (2 * a + b) _ _ _ _ (by omega) (by omega) (cmp_ge h) ho hp c46 c38 c47 w
end Rg
end Go.Proofs.YtkfannhbnbgloaaDoor
/- Wide of the document -/
namespace Go.Proofs.YtkfannhbnbgloaaDoor
open Go.RowKit
namespace Rg
theorem call43 : ∀ args w, (callFunc 43 args).run Tryd.prog w = .ok (.enter 43 args) w := by intro args w; go_simp
theorem call44 : ∀ args w, (callFunc 44 args).run Tryd.prog w = .ok (.enter 44 args) w := by intro args w; go_simp
set_option maxHeartbeats 1000000 in
set_option maxRecDepth 100000 in
theorem rwide_gen (n a b z0 L : Nat) (hL : L = 384) (hz : z0 = 0) (f h : Nat → Nat) (bh bl' : Nat → Int) (fl : f L = z0) (hl : h L = f 0)
    (cb : ∀ k, k < 384 → ∀ w, Calls Tryd.prog 44 #[N b, .int .i64 (((k + 1 : Nat) : Int) - 1)] w fun e w' => e = .returned (.int .i64 (bh k)) ∧ Below w.heap.size w w')
    (cl : ∀ k, k < 384 → ∀ w, Calls Tryd.prog 44 #[N a, .int .i64 (((k + 1 : Nat) : Int) - 1)] w fun e w' => e = .returned (.int .i64 (bl' k)) ∧ Below w.heap.size w w')
    (cf : ∀ k, k < 384 → ∀ w, Calls Tryd.prog 43 #[N n, N (f (k + 1)), .int .i64 (bh k)] w fun e w' => e = .returned (N (f k)) ∧ Below w.heap.size w w')
    (ch : ∀ k, k < 384 → ∀ w, Calls Tryd.prog 43 #[N n, N (h (k + 1)), .int .i64 (bl' k)] w fun e w' => e = .returned (N (h k)) ∧ Below w.heap.size w w') (w : World) :
    Calls Tryd.prog 14 #[N n, N a, N b] w fun e w' => e = .returned (N (h 0)) ∧ Below w.heap.size w w' := by
  have H0 : Hid (_ ∧ _) := ⟨Mm.nil w, Below.refl w.heap.size w⟩
  have CB : Hid _ := cb
  have CL : Hid _ := cl
  have CF : Hid _ := cf
  have CH : Hid _ := ch
  have FL : Hid (zero6 = cells6 (f L)) := (by rw [fl, hz]; exact cells_zero.symm : zero6 = cells6 (f L))
  have HL : Hid (f 0 = h L) := hl.symm
  clear cb cl cf ch fl hl hz
  go_enter Tryd.func14, Tryd.ntmps14
  refine wp_seq ?_
  refine walk_seq 4 [.made (cells6 n) 24, .made (cells6 a) 24, .made (cells6 b) 24, .made zero6 24] (fun w' => Mm w' []) ?pre1 ?F1 ?hpre1 (fun γ => ?hF1) (by kernel_rfl) ?hL1 ?hS1 ?ho1 ?he1
  case hpre1 =>
    simp only [List.take_succ_cons, List.take_zero]
    exact rfl
  case hF1 =>
    simp only [fill, Kind.val, Act.put, List.setIfInBounds_toArray, List.set_cons_zero, List.set_cons_succ]
    exact rfl
  case hL1 => exact trivial
  case hS1 => exact fun w' hb => H0.out.1.below hb
  case ho1 =>
    refine AllOk.cons ?_ ?_
    · exact fun γ => ⟨rfl, fun w' => ex_box6 rfl rfl⟩
    refine AllOk.cons ?_ ?_
    · exact fun γ => ⟨rfl, fun w' => ex_box6 rfl rfl⟩
    refine AllOk.cons ?_ ?_
    · exact fun γ => ⟨rfl, fun w' => ex_box6 rfl rfl⟩
    refine AllOk.cons ?_ ?_
    · exact fun γ => ⟨rfl, fun w' => exec_made6 rfl⟩
    exact trivial
  intro γ w1 l hM hl
  have M1 : Mm w1 [(γ 0, cells6 n), (γ 1, cells6 a), (γ 2, cells6 b), (γ 3, zero6)] := H0.out.1.grow hM (Nat.le_refl _) hl [0, 1, 2, 3] rfl (by decide)
  have B1 : Below w.heap.size w w1 := H0.out.2.trans (hM.below.mono H0.out.2.size)
  have o1_0 : Hid (w.heap.size ≤ γ 0) := Nat.le_trans H0.out.2.size (hM.fin (Nat.le_refl _) hl (i := 0) rfl).2.1
  have o1_1 : Hid (w.heap.size ≤ γ 1) := Nat.le_trans H0.out.2.size (hM.fin (Nat.le_refl _) hl (i := 1) rfl).2.1
  have o1_2 : Hid (w.heap.size ≤ γ 2) := Nat.le_trans H0.out.2.size (hM.fin (Nat.le_refl _) hl (i := 2) rfl).2.1
  have o1_3 : Hid (w.heap.size ≤ γ 3) := Nat.le_trans H0.out.2.size (hM.fin (Nat.le_refl _) hl (i := 3) rfl).2.1
  clear hM hl l
  generalize γ 0 = γ1_0 at M1 o1_0 ⊢
  generalize γ 1 = γ1_1 at M1 o1_1 ⊢
  generalize γ 2 = γ1_2 at M1 o1_2 ⊢
  generalize γ 3 = γ1_3 at M1 o1_3 ⊢
  clear γ
  have H1 : Hid (_ ∧ _) := ⟨M1, B1⟩
  clear M1 B1
  refine rest_at (l := []) rfl ?_
  refine rest_nil ?_
  refine then_normal ?_
  refine wp_seq ?_
  refine walk_seq 1 [.made zero6 24] (fun w' => Mm w' [(γ1_0, cells6 n), (γ1_1, cells6 a), (γ1_2, cells6 b), (γ1_3, zero6)]) ?pre2 ?F2 ?hpre2 (fun γ => ?hF2) (by kernel_rfl) ?hL2 ?hS2 ?ho2 ?he2
  case hpre2 =>
    simp only [List.take_succ_cons, List.take_zero]
    exact rfl
  case hF2 =>
    simp only [fill, Kind.val, Act.put, List.setIfInBounds_toArray, List.set_cons_zero, List.set_cons_succ]
    exact rfl
  case hL2 => exact trivial
  case hS2 => exact fun w' hb => H1.out.1.below hb
  case ho2 =>
    refine AllOk.cons ?_ ?_
    · exact fun γ => ⟨rfl, fun w' => exec_made6 rfl⟩
    exact trivial
  intro γ w2 l hM hl
  have M2 : Mm w2 [(γ 0, zero6), (γ1_0, cells6 n), (γ1_1, cells6 a), (γ1_2, cells6 b), (γ1_3, zero6)] := H1.out.1.grow hM (Nat.le_refl _) hl [0] rfl (by decide)
  have B2 : Below w.heap.size w w2 := H1.out.2.trans (hM.below.mono H1.out.2.size)
  have o2_0 : Hid (w.heap.size ≤ γ 0) := Nat.le_trans H1.out.2.size (hM.fin (Nat.le_refl _) hl (i := 0) rfl).2.1
  clear hM hl l H1
  generalize γ 0 = γ2_0 at M2 o2_0 ⊢
  clear γ
  have H2 : Hid (_ ∧ _) := ⟨M2, B2⟩
  clear M2 B2
  refine rest_at (l := []) rfl ?_
  refine rest_nil ?_
  refine then_normal ?_
  refine wp_seq ?_
  refine wp_seq ?_
  refine walk_seq 1 [.quiet (.int .i64 383)] (fun w' => Mm w' [(γ2_0, zero6), (γ1_0, cells6 n), (γ1_1, cells6 a), (γ1_2, cells6 b), (γ1_3, zero6)]) ?pre3 ?F3 ?hpre3 (fun γ => ?hF3) (by kernel_rfl) ?hL3 ?hS3 ?ho3 ?he3
  case hpre3 =>
    simp only [List.take_succ_cons, List.take_zero]
    exact rfl
  case hF3 =>
    simp only [fill, Kind.val, Act.put, List.setIfInBounds_toArray, List.set_cons_zero, List.set_cons_succ]
    exact rfl
  case hL3 => exact trivial
  case hS3 => exact fun w' hb => H2.out.1.below hb
  case ho3 =>
    refine AllOk.cons ?_ ?_
    · exact fun γ => ⟨rfl, fun w' _ => rfl⟩
    exact trivial
  intro γ w3 l hM hl
  have M3 : Mm w3 [(γ2_0, zero6), (γ1_0, cells6 n), (γ1_1, cells6 a), (γ1_2, cells6 b), (γ1_3, zero6)] := H2.out.1.grow hM (Nat.le_refl _) hl [] rfl (by decide)
  have B3 : Below w.heap.size w w3 := H2.out.2.trans (hM.below.mono H2.out.2.size)
  clear hM hl l H2
  clear γ
  have H3 : Hid (_ ∧ _) := ⟨M3, B3⟩
  clear M3 B3
  refine rest_at (l := []) rfl ?_
  refine rest_nil ?_
  refine then_normal ?_
  refine wp_block ?_
  refine loop_ghost (α := Nat) (fun k a' w' => ∃ s0 : Nat → Value, a' = ⟨#[N n, N a, N b, PT γ1_0 0, PT γ1_1 0, PT γ1_2 0, PT γ1_3 0, PT γ2_0 0, .int .i64 (((k : Nat) : Int) - 1), undef, s0 10, s0 11, s0 12, s0 13, s0 14, s0 15, s0 16, s0 17, s0 18, s0 19, undef, undef, undef, undef, undef, undef, undef, undef, undef, undef, undef], []⟩ ∧ (Mm w' [(γ2_0, cells6 (f k)), (γ1_0, cells6 n), (γ1_1, cells6 a), (γ1_2, cells6 b), (γ1_3, zero6)] ∧ Below w.heap.size w w') ∧ k ≤ L) (fun k => k) L ?st0 ?rd0
  case st0 => exact ⟨(slotfn [undef, undef, undef, undef, undef, undef, undef, undef, undef, undef, undef, undef, undef, undef, undef, undef, undef, undef, undef, undef]), (by rw [hL]; rfl), ⟨H3.out.1.at0 (by rw [FL.out]), H3.out.2⟩, by omega⟩
  intro k a' w4 hI
  obtain ⟨s0, rfl, hMB, hk0⟩ := hI
  have H4 : Hid (_ ∧ _) := hMB
  clear hMB H3
  by_cases hltk : 1 ≤ k
  · have hrd : True := trivial
    clear hrd
    obtain ⟨j, rfl⟩ : ∃ j, k = j + 1 := ⟨k - 1, by omega⟩
    refine wp_seq ?_
    refine wp_seq ?_
    refine walk_seq 2 [.quiet (.int .i64 (((j + 1 : Nat) : Int) - 1)), .quiet (.bool true)] (fun w' => Mm w' [(γ2_0, cells6 (f (j + 1))), (γ1_0, cells6 n), (γ1_1, cells6 a), (γ1_2, cells6 b), (γ1_3, zero6)]) ?pre4 ?F4 ?hpre4 (fun γ => ?hF4) (by kernel_rfl) ?hL4 ?hS4 ?ho4 ?he4
    case hpre4 =>
      simp only [List.take_succ_cons, List.take_zero]
      exact rfl
    case hF4 =>
      simp only [fill, Kind.val, Act.put, List.setIfInBounds_toArray, List.set_cons_zero, List.set_cons_succ]
      exact rfl
    case hL4 => exact trivial
    case hS4 => exact fun w' hb => H4.out.1.below hb
    case ho4 =>
      refine AllOk.cons ?_ ?_
      · exact fun γ => ⟨rfl, fun w' _ => rfl⟩
      refine AllOk.cons ?_ ?_
      · (refine fun γ => ⟨rfl, fun w' h' => ?_⟩; clear h'; go_simp <;> omega)
      exact trivial
    intro γ w5 l hM hl
    have M5 : Mm w5 [(γ2_0, cells6 (f (j + 1))), (γ1_0, cells6 n), (γ1_1, cells6 a), (γ1_2, cells6 b), (γ1_3, zero6)] := H4.out.1.grow hM (Nat.le_refl _) hl [] rfl (by decide)
    have B5 : Below w.heap.size w w5 := H4.out.2.trans (hM.below.mono H4.out.2.size)
    clear hM hl l H4
    clear γ
    have H5 : Hid (_ ∧ _) := ⟨M5, B5⟩
    clear M5 B5
    refine rest_at (l := []) rfl ?_
    refine rest_nil ?_
    refine then_normal ?_
    refine wp_cond_true rfl ?_
    refine wp_skip ?_
    refine then_normal ?_
    refine wp_seq ?_
    refine wp_block ?_
    refine walk_any (by kernel_rfl) 6 [.quiet (N n), .quiet (N (f (j + 1))), .quiet (N b), .quiet (.int .i64 (((j + 1 : Nat) : Int) - 1)), .call (.int .i64 (bh j)), .call (N (f j))] (fun w' => Mm w' [(γ2_0, cells6 (f (j + 1))), (γ1_0, cells6 n), (γ1_1, cells6 a), (γ1_2, cells6 b), (γ1_3, zero6)]) ?pre5 ?F5 ?hpre5 (fun γ => ?hF5) (by kernel_rfl) ?hL5 ?hS5 ?ho5 ?he5
    case hpre5 =>
      simp only [List.take_succ_cons, List.take_zero]
      exact rfl
    case hF5 =>
      simp only [fill, Kind.val, Act.put, List.setIfInBounds_toArray, List.set_cons_zero, List.set_cons_succ]
      exact rfl
    case hL5 => exact trivial
    case hS5 => exact fun w' hb => H5.out.1.below hb
    case ho5 =>
      refine AllOk.cons ?_ ?_
      · exact fun γ => ⟨rfl, fun w' h' => ex_load6 h' 1 rfl rfl rfl rfl⟩
      refine AllOk.cons ?_ ?_
      · exact fun γ => ⟨rfl, fun w' h' => ex_load6 h' 0 rfl rfl rfl rfl⟩
      refine AllOk.cons ?_ ?_
      · exact fun γ => ⟨rfl, fun w' h' => ex_load6 h' 3 rfl rfl rfl rfl⟩
      refine AllOk.cons ?_ ?_
      · exact fun γ => ⟨rfl, fun w' _ => rfl⟩
      refine AllOk.cons ?_ ?_
      · exact fun γ => ⟨rfl, fun w' h' => ⟨44, #[N b, .int .i64 (((j + 1 : Nat) : Int) - 1)], exec_call rfl call44 rfl (by simp only [List.map_toArray, List.map_cons, List.map_nil]; rfl), CB.out j (by omega) w'⟩⟩
      refine AllOk.cons ?_ ?_
      · exact fun γ => ⟨rfl, fun w' h' => ⟨43, #[N n, N (f (j + 1)), .int .i64 (bh j)], exec_call rfl call43 rfl (by simp only [List.map_toArray, List.map_cons, List.map_nil]; rfl), CF.out j (by omega) w'⟩⟩
      exact trivial
    intro γ w6 l hM hl
    have M6 : Mm w6 [(γ2_0, cells6 (f (j + 1))), (γ1_0, cells6 n), (γ1_1, cells6 a), (γ1_2, cells6 b), (γ1_3, zero6)] := H5.out.1.grow hM (Nat.le_refl _) hl [] rfl (by decide)
    have B6 : Below w.heap.size w w6 := H5.out.2.trans (hM.below.mono H5.out.2.size)
    clear hM hl l H5
    clear γ
    have H6 : Hid (_ ∧ _) := ⟨M6, B6⟩
    clear M6 B6
    refine rest_at (l := [6]) rfl ?_
    refine rest_store rfl rfl rfl (ex_store6 H6.out.1 0 rfl rfl rfl rfl (Nat.le_of_ble_eq_true rfl)) ?_
    have H7 : Hid (Mm (w6.setCells γ2_0 0 (cells6 (f j))) [(γ2_0, cells6 (f j)), (γ1_0, cells6 n), (γ1_1, cells6 a), (γ1_2, cells6 b), (γ1_3, zero6)] ∧ Below w.heap.size w (w6.setCells γ2_0 0 (cells6 (f j)))) := ⟨H6.out.1.put 0 (off := 0) (vs := cells6 (f j)) rfl (Nat.le_of_ble_eq_true rfl), below_setCells _ o2_0.out _ _ _ H6.out.2⟩
    clear H6
    generalize hgw : World.setCells _ _ _ _ = w7 at H7 ⊢
    clear hgw
    refine rest_nil ?_
    refine block_normal ?_
    refine then_normal ?_
    refine walk_seq 2 [.quiet (.int .i64 (((j + 1 : Nat) : Int) - 1)), .quiet (.int .i64 (((j : Nat) : Int) - 1))] (fun w' => Mm w' [(γ2_0, cells6 (f j)), (γ1_0, cells6 n), (γ1_1, cells6 a), (γ1_2, cells6 b), (γ1_3, zero6)]) ?pre6 ?F6 ?hpre6 (fun γ => ?hF6) (by kernel_rfl) ?hL6 ?hS6 ?ho6 ?he6
    case hpre6 =>
      simp only [List.take_succ_cons, List.take_zero]
      exact rfl
    case hF6 =>
      simp only [fill, Kind.val, Act.put, List.setIfInBounds_toArray, List.set_cons_zero, List.set_cons_succ]
      exact rfl
    case hL6 => exact trivial
    case hS6 => exact fun w' hb => H7.out.1.below hb
    case ho6 =>
      refine AllOk.cons ?_ ?_
      · exact fun γ => ⟨rfl, fun w' _ => rfl⟩
      refine AllOk.cons ?_ ?_
      · (refine fun γ => ⟨rfl, fun w' h' => ?_⟩; clear h'; go_simp; rw [IntKind.wrap_i64]; omega)
      exact trivial
    intro γ w8 l hM hl
    have M8 : Mm w8 [(γ2_0, cells6 (f j)), (γ1_0, cells6 n), (γ1_1, cells6 a), (γ1_2, cells6 b), (γ1_3, zero6)] := H7.out.1.grow hM (Nat.le_refl _) hl [] rfl (by decide)
    have B8 : Below w.heap.size w w8 := H7.out.2.trans (hM.below.mono H7.out.2.size)
    clear hM hl l H7
    clear γ
    have H8 : Hid (_ ∧ _) := ⟨M8, B8⟩
    clear M8 B8
    refine rest_at (l := [2]) rfl ?_
    refine rest_set (d := 8) rfl rfl rfl rfl ?_
    simp only [Act.put, List.setIfInBounds_toArray, List.set_cons_zero, List.set_cons_succ]
    refine rest_nil ?_
    refine then_normal ?_
    exact ⟨j, ⟨(slotfn [undef, undef, undef, undef, undef, undef, undef, undef, undef, undef, .int .i64 (((j + 1 : Nat) : Int) - 1), .bool true, .int .i64 (((j + 1 : Nat) : Int) - 1), .int .i64 (((j : Nat) : Int) - 1), N n, N (f (j + 1)), N b, .int .i64 (((j + 1 : Nat) : Int) - 1), .int .i64 (bh j), N (f j)]), rfl, ⟨H8.out.1, H8.out.2⟩, by omega⟩, by omega⟩
  have hk0 : k = 0 := by omega
  subst hk0
  refine wp_seq ?_
  refine wp_seq ?_
  refine walk_seq 2 [.quiet (.int .i64 (((0 : Nat) : Int) - 1)), .quiet (.bool false)] (fun w' => Mm w' [(γ2_0, cells6 (f 0)), (γ1_0, cells6 n), (γ1_1, cells6 a), (γ1_2, cells6 b), (γ1_3, zero6)]) ?pre7 ?F7 ?hpre7 (fun γ => ?hF7) (by kernel_rfl) ?hL7 ?hS7 ?ho7 ?he7
  case hpre7 =>
    simp only [List.take_succ_cons, List.take_zero]
    exact rfl
  case hF7 =>
    simp only [fill, Kind.val, Act.put, List.setIfInBounds_toArray, List.set_cons_zero, List.set_cons_succ]
    exact rfl
  case hL7 => exact trivial
  case hS7 => exact fun w' hb => H4.out.1.below hb
  case ho7 =>
    refine AllOk.cons ?_ ?_
    · exact fun γ => ⟨rfl, fun w' _ => rfl⟩
    refine AllOk.cons ?_ ?_
    · (refine fun γ => ⟨rfl, fun w' h' => ?_⟩; clear h'; go_simp <;> omega)
    exact trivial
  intro γ w9 l hM hl
  have M9 : Mm w9 [(γ2_0, cells6 (f 0)), (γ1_0, cells6 n), (γ1_1, cells6 a), (γ1_2, cells6 b), (γ1_3, zero6)] := H4.out.1.grow hM (Nat.le_refl _) hl [] rfl (by decide)
  have B9 : Below w.heap.size w w9 := H4.out.2.trans (hM.below.mono H4.out.2.size)
  clear hM hl l H4
  clear γ
  have H9 : Hid (_ ∧ _) := ⟨M9, B9⟩
  clear M9 B9
  refine rest_at (l := []) rfl ?_
  refine rest_nil ?_
  refine then_normal ?_
  refine wp_cond_false rfl ?_
  refine wp_exit ?_
  repeat refine then_exit ?_
  refine block_exit ?_
  refine then_normal ?_
  refine wp_seq ?_
  refine wp_seq ?_
  refine walk_seq 1 [.quiet (.int .i64 383)] (fun w' => Mm w' [(γ2_0, cells6 (f 0)), (γ1_0, cells6 n), (γ1_1, cells6 a), (γ1_2, cells6 b), (γ1_3, zero6)]) ?pre8 ?F8 ?hpre8 (fun γ => ?hF8) (by kernel_rfl) ?hL8 ?hS8 ?ho8 ?he8
  case hpre8 =>
    simp only [List.take_succ_cons, List.take_zero]
    exact rfl
  case hF8 =>
    simp only [fill, Kind.val, Act.put, List.setIfInBounds_toArray, List.set_cons_zero, List.set_cons_succ]
    exact rfl
  case hL8 => exact trivial
  case hS8 => exact fun w' hb => H9.out.1.below hb
  case ho8 =>
    refine AllOk.cons ?_ ?_
    · exact fun γ => ⟨rfl, fun w' _ => rfl⟩
    exact trivial
  intro γ w10 l hM hl
  have M10 : Mm w10 [(γ2_0, cells6 (f 0)), (γ1_0, cells6 n), (γ1_1, cells6 a), (γ1_2, cells6 b), (γ1_3, zero6)] := H9.out.1.grow hM (Nat.le_refl _) hl [] rfl (by decide)
  have B10 : Below w.heap.size w w10 := H9.out.2.trans (hM.below.mono H9.out.2.size)
  clear hM hl l H9
  clear γ
  have H10 : Hid (_ ∧ _) := ⟨M10, B10⟩
  clear M10 B10
  refine rest_at (l := []) rfl ?_
  refine rest_nil ?_
  refine then_normal ?_
  refine wp_block ?_
  refine loop_ghost (α := Nat) (fun m a' w' => ∃ s2 : Nat → Value, a' = ⟨#[N n, N a, N b, PT γ1_0 0, PT γ1_1 0, PT γ1_2 0, PT γ1_3 0, PT γ2_0 0, .int .i64 (((0 : Nat) : Int) - 1), .int .i64 (((m : Nat) : Int) - 1), .int .i64 (((0 : Nat) : Int) - 1), .bool false, s0 12, s0 13, s0 14, s0 15, s0 16, s0 17, s0 18, s0 19, s2 20, s2 21, s2 22, s2 23, s2 24, s2 25, s2 26, s2 27, s2 28, s2 29, undef], []⟩ ∧ (Mm w' [(γ2_0, cells6 (h m)), (γ1_0, cells6 n), (γ1_1, cells6 a), (γ1_2, cells6 b), (γ1_3, zero6)] ∧ Below w.heap.size w w') ∧ m ≤ L) (fun m => m) L ?st2 ?rd2
  case st2 => exact ⟨(slotfn [undef, undef, undef, undef, undef, undef, undef, undef, undef, undef, undef, undef, undef, undef, undef, undef, undef, undef, undef, undef, undef, undef, undef, undef, undef, undef, undef, undef, undef, undef]), (by rw [hL]; rfl), ⟨H10.out.1.at0 (by rw [HL.out]), H10.out.2⟩, by omega⟩
  intro m a' w11 hI
  obtain ⟨s2, rfl, hMB, hk2⟩ := hI
  have H11 : Hid (_ ∧ _) := hMB
  clear hMB H10
  by_cases hltm : 1 ≤ m
  · have hrd : True := trivial
    clear hrd
    obtain ⟨j, rfl⟩ : ∃ j, m = j + 1 := ⟨m - 1, by omega⟩
    refine wp_seq ?_
    refine wp_seq ?_
    refine walk_seq 2 [.quiet (.int .i64 (((j + 1 : Nat) : Int) - 1)), .quiet (.bool true)] (fun w' => Mm w' [(γ2_0, cells6 (h (j + 1))), (γ1_0, cells6 n), (γ1_1, cells6 a), (γ1_2, cells6 b), (γ1_3, zero6)]) ?pre9 ?F9 ?hpre9 (fun γ => ?hF9) (by kernel_rfl) ?hL9 ?hS9 ?ho9 ?he9
    case hpre9 =>
      simp only [List.take_succ_cons, List.take_zero]
      exact rfl
    case hF9 =>
      simp only [fill, Kind.val, Act.put, List.setIfInBounds_toArray, List.set_cons_zero, List.set_cons_succ]
      exact rfl
    case hL9 => exact trivial
    case hS9 => exact fun w' hb => H11.out.1.below hb
    case ho9 =>
      refine AllOk.cons ?_ ?_
      · exact fun γ => ⟨rfl, fun w' _ => rfl⟩
      refine AllOk.cons ?_ ?_
      · (refine fun γ => ⟨rfl, fun w' h' => ?_⟩; clear h'; go_simp <;> omega)
      exact trivial
    intro γ w12 l hM hl
    have M12 : Mm w12 [(γ2_0, cells6 (h (j + 1))), (γ1_0, cells6 n), (γ1_1, cells6 a), (γ1_2, cells6 b), (γ1_3, zero6)] := H11.out.1.grow hM (Nat.le_refl _) hl [] rfl (by decide)
    have B12 : Below w.heap.size w w12 := H11.out.2.trans (hM.below.mono H11.out.2.size)
    clear hM hl l H11
    clear γ
    have H12 : Hid (_ ∧ _) := ⟨M12, B12⟩
    clear M12 B12
    refine rest_at (l := []) rfl ?_
    refine rest_nil ?_
    refine then_normal ?_
    refine wp_cond_true rfl ?_
    refine wp_skip ?_
    refine then_normal ?_
    refine wp_seq ?_
    refine wp_block ?_
    refine walk_any (by kernel_rfl) 6 [.quiet (N n), .quiet (N (h (j + 1))), .quiet (N a), .quiet (.int .i64 (((j + 1 : Nat) : Int) - 1)), .call (.int .i64 (bl' j)), .call (N (h j))] (fun w' => Mm w' [(γ2_0, cells6 (h (j + 1))), (γ1_0, cells6 n), (γ1_1, cells6 a), (γ1_2, cells6 b), (γ1_3, zero6)]) ?pre10 ?F10 ?hpre10 (fun γ => ?hF10) (by kernel_rfl) ?hL10 ?hS10 ?ho10 ?he10
    case hpre10 =>
      simp only [List.take_succ_cons, List.take_zero]
      exact rfl
    case hF10 =>
      simp only [fill, Kind.val, Act.put, List.setIfInBounds_toArray, List.set_cons_zero, List.set_cons_succ]
      exact rfl
    case hL10 => exact trivial
    case hS10 => exact fun w' hb => H12.out.1.below hb
    case ho10 =>
      refine AllOk.cons ?_ ?_
      · exact fun γ => ⟨rfl, fun w' h' => ex_load6 h' 1 rfl rfl rfl rfl⟩
      refine AllOk.cons ?_ ?_
      · exact fun γ => ⟨rfl, fun w' h' => ex_load6 h' 0 rfl rfl rfl rfl⟩
      refine AllOk.cons ?_ ?_
      · exact fun γ => ⟨rfl, fun w' h' => ex_load6 h' 2 rfl rfl rfl rfl⟩
      refine AllOk.cons ?_ ?_
      · exact fun γ => ⟨rfl, fun w' _ => rfl⟩
      refine AllOk.cons ?_ ?_
      · exact fun γ => ⟨rfl, fun w' h' => ⟨44, #[N a, .int .i64 (((j + 1 : Nat) : Int) - 1)], exec_call rfl call44 rfl (by simp only [List.map_toArray, List.map_cons, List.map_nil]; rfl), CL.out j (by omega) w'⟩⟩
      refine AllOk.cons ?_ ?_
      · exact fun γ => ⟨rfl, fun w' h' => ⟨43, #[N n, N (h (j + 1)), .int .i64 (bl' j)], exec_call rfl call43 rfl (by simp only [List.map_toArray, List.map_cons, List.map_nil]; rfl), CH.out j (by omega) w'⟩⟩
      exact trivial
    intro γ w13 l hM hl
    have M13 : Mm w13 [(γ2_0, cells6 (h (j + 1))), (γ1_0, cells6 n), (γ1_1, cells6 a), (γ1_2, cells6 b), (γ1_3, zero6)] := H12.out.1.grow hM (Nat.le_refl _) hl [] rfl (by decide)
    have B13 : Below w.heap.size w w13 := H12.out.2.trans (hM.below.mono H12.out.2.size)
    clear hM hl l H12
    clear γ
    have H13 : Hid (_ ∧ _) := ⟨M13, B13⟩
    clear M13 B13
    refine rest_at (l := [6]) rfl ?_
    refine rest_store rfl rfl rfl (ex_store6 H13.out.1 0 rfl rfl rfl rfl (Nat.le_of_ble_eq_true rfl)) ?_
    have H14 : Hid (Mm (w13.setCells γ2_0 0 (cells6 (h j))) [(γ2_0, cells6 (h j)), (γ1_0, cells6 n), (γ1_1, cells6 a), (γ1_2, cells6 b), (γ1_3, zero6)] ∧ Below w.heap.size w (w13.setCells γ2_0 0 (cells6 (h j)))) := ⟨H13.out.1.put 0 (off := 0) (vs := cells6 (h j)) rfl (Nat.le_of_ble_eq_true rfl), below_setCells _ o2_0.out _ _ _ H13.out.2⟩
    clear H13
    generalize hgw : World.setCells _ _ _ _ = w14 at H14 ⊢
    clear hgw
    refine rest_nil ?_
    refine block_normal ?_
    refine then_normal ?_
    refine walk_seq 2 [.quiet (.int .i64 (((j + 1 : Nat) : Int) - 1)), .quiet (.int .i64 (((j : Nat) : Int) - 1))] (fun w' => Mm w' [(γ2_0, cells6 (h j)), (γ1_0, cells6 n), (γ1_1, cells6 a), (γ1_2, cells6 b), (γ1_3, zero6)]) ?pre11 ?F11 ?hpre11 (fun γ => ?hF11) (by kernel_rfl) ?hL11 ?hS11 ?ho11 ?he11
    case hpre11 =>
      simp only [List.take_succ_cons, List.take_zero]
      exact rfl
    case hF11 =>
      simp only [fill, Kind.val, Act.put, List.setIfInBounds_toArray, List.set_cons_zero, List.set_cons_succ]
      exact rfl
    case hL11 => exact trivial
    case hS11 => exact fun w' hb => H14.out.1.below hb
    case ho11 =>
      refine AllOk.cons ?_ ?_
      · exact fun γ => ⟨rfl, fun w' _ => rfl⟩
      refine AllOk.cons ?_ ?_
      · (refine fun γ => ⟨rfl, fun w' h' => ?_⟩; clear h'; go_simp; rw [IntKind.wrap_i64]; omega)
      exact trivial
    intro γ w15 l hM hl
    have M15 : Mm w15 [(γ2_0, cells6 (h j)), (γ1_0, cells6 n), (γ1_1, cells6 a), (γ1_2, cells6 b), (γ1_3, zero6)] := H14.out.1.grow hM (Nat.le_refl _) hl [] rfl (by decide)
    have B15 : Below w.heap.size w w15 := H14.out.2.trans (hM.below.mono H14.out.2.size)
    clear hM hl l H14
    clear γ
    have H15 : Hid (_ ∧ _) := ⟨M15, B15⟩
    clear M15 B15
    refine rest_at (l := [2]) rfl ?_
    refine rest_set (d := 9) rfl rfl rfl rfl ?_
    simp only [Act.put, List.setIfInBounds_toArray, List.set_cons_zero, List.set_cons_succ]
    refine rest_nil ?_
    refine then_normal ?_
    exact ⟨j, ⟨(slotfn [undef, undef, undef, undef, undef, undef, undef, undef, undef, undef, undef, undef, undef, undef, undef, undef, undef, undef, undef, undef, .int .i64 (((j + 1 : Nat) : Int) - 1), .bool true, .int .i64 (((j + 1 : Nat) : Int) - 1), .int .i64 (((j : Nat) : Int) - 1), N n, N (h (j + 1)), N a, .int .i64 (((j + 1 : Nat) : Int) - 1), .int .i64 (bl' j), N (h j)]), rfl, ⟨H15.out.1, H15.out.2⟩, by omega⟩, by omega⟩
  have hm0 : m = 0 := by omega
  subst hm0
  refine wp_seq ?_
  refine wp_seq ?_
  refine walk_seq 2 [.quiet (.int .i64 (((0 : Nat) : Int) - 1)), .quiet (.bool false)] (fun w' => Mm w' [(γ2_0, cells6 (h 0)), (γ1_0, cells6 n), (γ1_1, cells6 a), (γ1_2, cells6 b), (γ1_3, zero6)]) ?pre12 ?F12 ?hpre12 (fun γ => ?hF12) (by kernel_rfl) ?hL12 ?hS12 ?ho12 ?he12
  case hpre12 =>
    simp only [List.take_succ_cons, List.take_zero]
    exact rfl
  case hF12 =>
    simp only [fill, Kind.val, Act.put, List.setIfInBounds_toArray, List.set_cons_zero, List.set_cons_succ]
    exact rfl
  case hL12 => exact trivial
  case hS12 => exact fun w' hb => H11.out.1.below hb
  case ho12 =>
    refine AllOk.cons ?_ ?_
    · exact fun γ => ⟨rfl, fun w' _ => rfl⟩
    refine AllOk.cons ?_ ?_
    · (refine fun γ => ⟨rfl, fun w' h' => ?_⟩; clear h'; go_simp <;> omega)
    exact trivial
  intro γ w16 l hM hl
  have M16 : Mm w16 [(γ2_0, cells6 (h 0)), (γ1_0, cells6 n), (γ1_1, cells6 a), (γ1_2, cells6 b), (γ1_3, zero6)] := H11.out.1.grow hM (Nat.le_refl _) hl [] rfl (by decide)
  have B16 : Below w.heap.size w w16 := H11.out.2.trans (hM.below.mono H11.out.2.size)
  clear hM hl l H11
  clear γ
  have H16 : Hid (_ ∧ _) := ⟨M16, B16⟩
  clear M16 B16
  refine rest_at (l := []) rfl ?_
  refine rest_nil ?_
  refine then_normal ?_
  refine wp_cond_false rfl ?_
  refine wp_exit ?_
  repeat refine then_exit ?_
  refine block_exit ?_
  refine then_normal ?_
  refine wp_seq ?_
  refine walk_seq 1 [.quiet (N (h 0))] (fun w' => Mm w' [(γ2_0, cells6 (h 0)), (γ1_0, cells6 n), (γ1_1, cells6 a), (γ1_2, cells6 b), (γ1_3, zero6)]) ?pre13 ?F13 ?hpre13 (fun γ => ?hF13) (by kernel_rfl) ?hL13 ?hS13 ?ho13 ?he13
  case hpre13 =>
    simp only [List.take_succ_cons, List.take_zero]
    exact rfl
  case hF13 =>
    simp only [fill, Kind.val, Act.put, List.setIfInBounds_toArray, List.set_cons_zero, List.set_cons_succ]
    exact rfl
  case hL13 => exact trivial
  case hS13 => exact fun w' hb => H16.out.1.below hb
  case ho13 =>
    refine AllOk.cons ?_ ?_
    · exact fun γ => ⟨rfl, fun w' h' => ex_load6 h' 0 rfl rfl rfl rfl⟩
    exact trivial
  intro γ w17 l hM hl
  have M17 : Mm w17 [(γ2_0, cells6 (h 0)), (γ1_0, cells6 n), (γ1_1, cells6 a), (γ1_2, cells6 b), (γ1_3, zero6)] := H16.out.1.grow hM (Nat.le_refl _) hl [] rfl (by decide)
  have B17 : Below w.heap.size w w17 := H16.out.2.trans (hM.below.mono H16.out.2.size)
  clear hM hl l H16
  clear γ
  have H17 : Hid (_ ∧ _) := ⟨M17, B17⟩
  clear M17 B17
  refine rest_at (l := [1]) rfl ?_
  refine rest_store rfl rfl rfl (ex_store6 H17.out.1 4 rfl rfl rfl rfl (Nat.le_of_ble_eq_true rfl)) ?_
  have H18 : Hid (Mm (w17.setCells γ1_3 0 (cells6 (h 0))) [(γ2_0, cells6 (h 0)), (γ1_0, cells6 n), (γ1_1, cells6 a), (γ1_2, cells6 b), (γ1_3, cells6 (h 0))] ∧ Below w.heap.size w (w17.setCells γ1_3 0 (cells6 (h 0)))) := ⟨H17.out.1.put 4 (off := 0) (vs := cells6 (h 0)) rfl (Nat.le_of_ble_eq_true rfl), below_setCells _ o1_3.out _ _ _ H17.out.2⟩
  clear H17
  generalize hgw : World.setCells _ _ _ _ = w18 at H18 ⊢
  clear hgw
  refine rest_nil ?_
  refine then_normal ?_
  refine wp_ret ?_
  repeat (first | refine then_ret ?_ | refine block_ret ?_)
  have c0 := H18.out.1.get 4 rfl 0 rfl
  have c1 := H18.out.1.get 4 rfl 1 rfl
  have c2 := H18.out.1.get 4 rfl 2 rfl
  have c3 := H18.out.1.get 4 rfl 3 rfl
  have c4 := H18.out.1.get 4 rfl 4 rfl
  have c5 := H18.out.1.get 4 rfl 5 rfl
  refine bodyPost_ret (v := N (h 0)) (by simp [results, Tryd.results14, go_sem, *]) rfl ?_
  exact ⟨rfl, H18.out.2⟩

theorem rwide_any {n a b : Nat} (ok : Ok n) (ha : a < big) (hb : b < big) (w : World) :
    Calls Tryd.prog 14 #[N n, N a, N b] w fun e w' => e = .returned (N ((a + b * big) % n)) ∧ Below w.heap.size w w' := by
  have hp := ok.pos
  have h := rwide_gen n a b 0 384 rfl rfl (fun k => b / 2 ^ k % n) (fun k => (a + b * big) / 2 ^ k % n) (fun k => bitv b k) (fun k => bitv a k) ?_ ?_ ?_ ?_ ?_ ?_ w
  · rw [Nat.pow_zero, Nat.div_one] at h
    exact h
  · obtain ⟨m, hm, e⟩ := big_pow
    obtain ⟨l, hl⟩ : ∃ l, l = 384 := ⟨_, rfl⟩
    rw [← hl]
    have : b / 2 ^ l = 0 := Nat.div_eq_of_lt (by rw [show l = 64 * m by omega, ← e]; exact hb)
    simp only [this, Nat.zero_mod]
  · obtain ⟨m, hm, e⟩ := big_pow
    obtain ⟨l, hl⟩ : ∃ l, l = 384 := ⟨_, rfl⟩
    rw [← hl]
    have e2 : 2 ^ l = big := by rw [show l = 64 * m by omega, ← e]
    simp only [e2, Nat.pow_zero, Nat.div_one, Nat.add_mul_div_right _ _ big_pos, Nat.div_eq_of_lt ha, Nat.zero_add]
  · intro k hk w
    have h := bit_ref_in b k hk w
    rw [show (((k + 1 : Nat) : Int) - 1) = ((k : Nat) : Int) by omega]
    exact h
  · intro k hk w
    have h := bit_ref_in a k hk w
    rw [show (((k + 1 : Nat) : Int) - 1) = ((k : Nat) : Int) by omega]
    exact h
  · intro k hk w
    have h := twice_any n (b / 2 ^ (k + 1) % n) (b / 2 ^ k % 2) ok (Nat.mod_lt _ hp) (by omega) w
    have e := half_step b k
    have e2 : (2 * (b / 2 ^ (k + 1) % n) + b / 2 ^ k % 2) % n = b / 2 ^ k % n := by
      conv => rhs; rw [e]
      exact ((Cg.mod n (b / 2 ^ (k + 1))).mulL 2).addR _
    rw [e2] at h
    exact h
  · intro k hk w
    have h := twice_any n ((a + b * big) / 2 ^ (k + 1) % n) ((a + b * big) / 2 ^ k % 2) ok (Nat.mod_lt _ hp) (by omega) w
    have e := half_step (a + b * big) k
    have e2 : (2 * ((a + b * big) / 2 ^ (k + 1) % n) + (a + b * big) / 2 ^ k % 2) % n = (a + b * big) / 2 ^ k % n := by
      conv => rhs; rw [e]
      exact ((Cg.mod n ((a + b * big) / 2 ^ (k + 1))).mulL 2).addR _
    have e3 : (a + b * big) / 2 ^ k % 2 = a / 2 ^ k % 2 := by
      obtain ⟨m, hm, eb⟩ := big_pow
      have e4 : big = 2 ^ k * (2 * 2 ^ (64 * m - k - 1)) := by
        rw [eb, ← Nat.pow_succ', ← Nat.pow_add]
        congr 1
        omega
      rw [e4, Nat.mul_left_comm, Nat.add_mul_div_left _ _ (Nat.two_pow_pos k), Nat.mul_left_comm, Nat.add_mul_mod_self_left]
    rw [e2, e3] at h
    exact h
end Rg
end Go.Proofs.YtkfannhbnbgloaaDoor
/- Pow and Inv of the document, with contracts as premises -/
namespace Go.Proofs.YtkfannhbnbgloaaDoor
open Go.RowKit
namespace Rg
theorem call18 : ∀ args w, (callFunc 18 args).run Tryd.prog w = .ok (.enter 18 args) w := by intro args w; go_simp
theorem call22 : ∀ args w, (callFunc 22 args).run Tryd.prog w = .ok (.enter 22 args) w := by intro args w; go_simp
theorem call37 : ∀ args w, (callFunc 37 args).run Tryd.prog w = .ok (.enter 37 args) w := by intro args w; go_simp
theorem ex_build1' {ρ : Operand → Value} {o : Oper} {w : World} {c : Nat} (hc : c = 1) (ho : o.op = .build 24 #[(0, .const (.int .u64 1))]) (hx : ρ (.const (.int .u64 1)) = .int .u64 1) : (execOp ρ o).run Tryd.prog w = .ok (.value (N c)) w := by
  subst hc
  have h1 : wd 1 1 = 0 := wd_small 1 0 (by decide)
  have h2 : wd 1 2 = 0 := wd_small 1 1 (by decide)
  have h3 : wd 1 3 = 0 := wd_small 1 2 (by decide)
  have h4 : wd 1 4 = 0 := wd_small 1 3 (by decide)
  have h5 : wd 1 5 = 0 := wd_small 1 4 (by decide)
  have h0 : wd 1 0 = 1 := wd_small0 1 (by decide)
  unfold N
  rw [h0, h1, h2, h3, h4, h5]
  simp only [execOp, ho]
  clear h0 h1 h2 h3 h4 h5
  go_simp
set_option maxHeartbeats 1000000 in
set_option maxRecDepth 100000 in
theorem rpow_gen (n a e k1 o l : Nat) (hk1 : k1 = 1) (hl : l ≤ 384) (f q : Nat → Nat) (bv : Nat → Int) (fl : f l = o) (hbv : ∀ k, bv k = 1 ∨ bv k = 0) (fq : ∀ k, bv k = 0 → q k = f k)
    (co : ∀ w, Calls Tryd.prog 12 #[N n, N k1] w fun e w' => e = .returned (N o) ∧ Below w.heap.size w w')
    (cl : ∀ w, Calls Tryd.prog 37 #[N e] w fun e w' => e = .returned (.int .i64 ((l : Nat) : Int)) ∧ Below w.heap.size w w')
    (cs : ∀ k w, Calls Tryd.prog 22 #[N n, N (f (k + 1)), N (f (k + 1))] w fun e w' => e = .returned (N (q k)) ∧ Below w.heap.size w w')
    (ci : ∀ k w, k + 1 ≤ 384 → Calls Tryd.prog 44 #[N e, .int .i64 (((k + 1 : Nat) : Int) - 1)] w fun e w' => e = .returned (.int .i64 (bv k)) ∧ Below w.heap.size w w')
    (cu : ∀ k, bv k = 1 → ∀ w, Calls Tryd.prog 22 #[N n, N (q k), N a] w fun e w' => e = .returned (N (f k)) ∧ Below w.heap.size w w') (w : World) :
    Calls Tryd.prog 26 #[N n, N a, N e] w fun e w' => e = .returned (N (f 0)) ∧ Below w.heap.size w w' := by
  have H0 : Hid (_ ∧ _) := ⟨Mm.nil w, Below.refl w.heap.size w⟩
  have CO : Hid _ := co
  have CL : Hid _ := cl
  have CS : Hid _ := cs
  have CI : Hid _ := ci
  have CM : Hid _ := cu
  have FL : Hid _ := fl
  have HB : Hid _ := hbv
  have FQ : Hid _ := fq
  have HK : Hid _ := hk1
  clear co cl cs ci cu fl hbv fq hk1
  go_enter Tryd.func26, Tryd.ntmps26
  refine wp_seq ?_
  refine walk_seq 4 [.made (cells6 n) 24, .made (cells6 a) 24, .made (cells6 e) 24, .made zero6 24] (fun w' => Mm w' []) ?pre1 ?F1 ?hpre1 (fun γ => ?hF1) (by kernel_rfl) ?hL1 ?hS1 ?ho1 ?he1
  case hpre1 =>
    simp only [List.take_succ_cons, List.take_zero]
    exact rfl
  case hF1 =>
    simp only [fill, Kind.val, Act.put, List.setIfInBounds_toArray, List.set_cons_zero, List.set_cons_succ]
    exact rfl
  case hL1 => exact trivial
  case hS1 => exact fun w' hb => H0.out.1.below hb
  case ho1 =>
    refine AllOk.cons ?_ ?_
    · exact fun γ => ⟨rfl, fun w' => ex_box6 rfl rfl⟩
    refine AllOk.cons ?_ ?_
    · exact fun γ => ⟨rfl, fun w' => ex_box6 rfl rfl⟩
    refine AllOk.cons ?_ ?_
    · exact fun γ => ⟨rfl, fun w' => ex_box6 rfl rfl⟩
    refine AllOk.cons ?_ ?_
    · exact fun γ => ⟨rfl, fun w' => exec_made6 rfl⟩
    exact trivial
  intro γ w1 l hM hl
  have M1 : Mm w1 [(γ 0, cells6 n), (γ 1, cells6 a), (γ 2, cells6 e), (γ 3, zero6)] := H0.out.1.grow hM (Nat.le_refl _) hl [0, 1, 2, 3] rfl (by decide)
  have B1 : Below w.heap.size w w1 := H0.out.2.trans (hM.below.mono H0.out.2.size)
  have o1_0 : Hid (w.heap.size ≤ γ 0) := Nat.le_trans H0.out.2.size (hM.fin (Nat.le_refl _) hl (i := 0) rfl).2.1
  have o1_1 : Hid (w.heap.size ≤ γ 1) := Nat.le_trans H0.out.2.size (hM.fin (Nat.le_refl _) hl (i := 1) rfl).2.1
  have o1_2 : Hid (w.heap.size ≤ γ 2) := Nat.le_trans H0.out.2.size (hM.fin (Nat.le_refl _) hl (i := 2) rfl).2.1
  have o1_3 : Hid (w.heap.size ≤ γ 3) := Nat.le_trans H0.out.2.size (hM.fin (Nat.le_refl _) hl (i := 3) rfl).2.1
  clear hM hl l
  generalize γ 0 = γ1_0 at M1 o1_0 ⊢
  generalize γ 1 = γ1_1 at M1 o1_1 ⊢
  generalize γ 2 = γ1_2 at M1 o1_2 ⊢
  generalize γ 3 = γ1_3 at M1 o1_3 ⊢
  clear γ
  have H1 : Hid (_ ∧ _) := ⟨M1, B1⟩
  clear M1 B1
  refine rest_at (l := []) rfl ?_
  refine rest_nil ?_
  refine then_normal ?_
  refine wp_seq ?_
  refine walk_seq 5 [.quiet (N n), .quiet (N k1), .call (N o), .made zero6 24, .laid 3 zero6 (cells6 o)] (fun w' => Mm w' [(γ1_0, cells6 n), (γ1_1, cells6 a), (γ1_2, cells6 e), (γ1_3, zero6)]) ?pre2 ?F2 ?hpre2 (fun γ => ?hF2) (by kernel_rfl) ?hL2 ?hS2 ?ho2 ?he2
  case hpre2 =>
    simp only [List.take_succ_cons, List.take_zero]
    exact rfl
  case hF2 =>
    simp only [fill, Kind.val, Act.put, List.setIfInBounds_toArray, List.set_cons_zero, List.set_cons_succ]
    exact rfl
  case hL2 => exact ⟨⟨_, rfl⟩, trivial⟩
  case hS2 => exact fun w' hb => H1.out.1.below hb
  case ho2 =>
    refine AllOk.cons ?_ ?_
    · exact fun γ => ⟨rfl, fun w' h => ex_load6 h 0 rfl rfl rfl rfl⟩
    refine AllOk.cons ?_ ?_
    · exact fun γ => ⟨rfl, fun w' _ => ex_build1' HK.out rfl rfl⟩
    refine AllOk.cons ?_ ?_
    · exact fun γ => ⟨rfl, fun w' h => ⟨12, #[N n, N k1], exec_call rfl call12 rfl (by simp only [List.map_toArray, List.map_cons, List.map_nil]; rfl), CO.out w'⟩⟩
    refine AllOk.cons ?_ ?_
    · exact fun γ => ⟨rfl, fun w' => exec_made6 rfl⟩
    refine AllOk.cons ?_ ?_
    · exact fun γ => ⟨rfl, rfl, rfl, fun w' h => exec_laid6 h rfl rfl rfl⟩
    exact trivial
  intro γ w2 l hM hl
  have M2 : Mm w2 [(γ 3, cells6 o), (γ1_0, cells6 n), (γ1_1, cells6 a), (γ1_2, cells6 e), (γ1_3, zero6)] := H1.out.1.grow hM (Nat.le_refl _) hl [3] rfl (by decide)
  have B2 : Below w.heap.size w w2 := H1.out.2.trans (hM.below.mono H1.out.2.size)
  have o2_3 : Hid (w.heap.size ≤ γ 3) := Nat.le_trans H1.out.2.size (hM.fin (Nat.le_refl _) hl (i := 3) rfl).2.1
  clear hM hl l H1
  generalize γ 3 = γ2_3 at M2 o2_3 ⊢
  clear γ
  have H2 : Hid (_ ∧ _) := ⟨M2, B2⟩
  clear M2 B2
  refine rest_at (l := []) rfl ?_
  refine rest_nil ?_
  refine then_normal ?_
  refine wp_seq ?_
  refine wp_seq ?_
  refine walk_seq 4 [.quiet (N e), .call (.int .i64 ((l : Nat) : Int)), .quiet (.int .i64 (((l : Nat) : Int) - 1)), .quiet (.int .i64 (((l : Nat) : Int) - 1))] (fun w' => Mm w' [(γ2_3, cells6 o), (γ1_0, cells6 n), (γ1_1, cells6 a), (γ1_2, cells6 e), (γ1_3, zero6)]) ?pre3 ?F3 ?hpre3 (fun γ => ?hF3) (by kernel_rfl) ?hL3 ?hS3 ?ho3 ?he3
  case hpre3 =>
    simp only [List.take_succ_cons, List.take_zero]
    exact rfl
  case hF3 =>
    simp only [fill, Kind.val, Act.put, List.setIfInBounds_toArray, List.set_cons_zero, List.set_cons_succ]
    exact rfl
  case hL3 => exact trivial
  case hS3 => exact fun w' hb => H2.out.1.below hb
  case ho3 =>
    refine AllOk.cons ?_ ?_
    · exact fun γ => ⟨rfl, fun w' h => ex_load6 h 3 rfl rfl rfl rfl⟩
    refine AllOk.cons ?_ ?_
    · exact fun γ => ⟨rfl, fun w' h => ⟨37, #[N e], exec_call rfl call37 rfl (by simp only [List.map_toArray, List.map_cons, List.map_nil]; rfl), CL.out w'⟩⟩
    refine AllOk.cons ?_ ?_
    · (refine fun γ => ⟨rfl, fun w' h => ?_⟩; clear h; go_simp; rw [IntKind.wrap_i64]; omega)
    refine AllOk.cons ?_ ?_
    · exact fun γ => ⟨rfl, fun w' _ => rfl⟩
    exact trivial
  intro γ w3 l hM hl
  have M3 : Mm w3 [(γ2_3, cells6 o), (γ1_0, cells6 n), (γ1_1, cells6 a), (γ1_2, cells6 e), (γ1_3, zero6)] := H2.out.1.grow hM (Nat.le_refl _) hl [] rfl (by decide)
  have B3 : Below w.heap.size w w3 := H2.out.2.trans (hM.below.mono H2.out.2.size)
  clear hM hl l H2
  clear γ
  have H3 : Hid (_ ∧ _) := ⟨M3, B3⟩
  clear M3 B3
  refine rest_at (l := []) rfl ?_
  refine rest_nil ?_
  refine then_normal ?_
  refine wp_block ?_
  refine loop_ghost (α := Nat) (fun k a' w' => ∃ s0 : Nat → Value, a' = ⟨#[N n, N a, N e, PT γ1_0 0, PT γ1_1 0, PT γ1_2 0, PT γ1_3 0, PT γ2_3 0, .int .i64 (((k : Nat) : Int) - 1), N n, N k1, N o, N e, .int .i64 ((l : Nat) : Int), .int .i64 (((l : Nat) : Int) - 1), s0 15, s0 16, s0 17, s0 18, s0 19, s0 20, s0 21, s0 22, s0 23, s0 24, s0 25, s0 26, s0 27, s0 28, s0 29, s0 30, undef], []⟩ ∧ (Mm w' [(γ2_3, cells6 (f k)), (γ1_0, cells6 n), (γ1_1, cells6 a), (γ1_2, cells6 e), (γ1_3, zero6)] ∧ Below w.heap.size w w') ∧ k ≤ l) (fun k => k) l ?st0 ?rd0
  case st0 => exact ⟨(slotfn [undef, undef, undef, undef, undef, undef, undef, undef, undef, undef, undef, undef, undef, undef, undef, undef, undef, undef, undef, undef, undef, undef, undef, undef, undef, undef, undef, undef, undef, undef, undef]), rfl, ⟨H3.out.1.at0 (by rw [FL.out]), H3.out.2⟩, by omega⟩
  intro k a' w4 hI
  obtain ⟨s0, rfl, hMB, hk0⟩ := hI
  have H4 : Hid (_ ∧ _) := hMB
  clear hMB H3
  by_cases hlt : 1 ≤ k
  · have hrd : True := trivial
    clear hrd
    obtain ⟨j, rfl⟩ : ∃ j, k = j + 1 := ⟨k - 1, by omega⟩
    by_cases hb : bv j = 1
    · have hrd : True := trivial
      clear hrd
      have hb' : bv j = 1 := hb
      refine wp_seq ?_
      refine wp_seq ?_
      refine walk_seq 2 [.quiet (.int .i64 (((j + 1 : Nat) : Int) - 1)), .quiet (.bool true)] (fun w' => Mm w' [(γ2_3, cells6 (f (j + 1))), (γ1_0, cells6 n), (γ1_1, cells6 a), (γ1_2, cells6 e), (γ1_3, zero6)]) ?pre4 ?F4 ?hpre4 (fun γ => ?hF4) (by kernel_rfl) ?hL4 ?hS4 ?ho4 ?he4
      case hpre4 =>
        simp only [List.take_succ_cons, List.take_zero]
        exact rfl
      case hF4 =>
        simp only [fill, Kind.val, Act.put, List.setIfInBounds_toArray, List.set_cons_zero, List.set_cons_succ]
        exact rfl
      case hL4 => exact trivial
      case hS4 => exact fun w' hb => H4.out.1.below hb
      case ho4 =>
        refine AllOk.cons ?_ ?_
        · exact fun γ => ⟨rfl, fun w' _ => rfl⟩
        refine AllOk.cons ?_ ?_
        · (refine fun γ => ⟨rfl, fun w' h => ?_⟩; clear h; go_simp <;> omega)
        exact trivial
      intro γ w5 l hM hl
      have M5 : Mm w5 [(γ2_3, cells6 (f (j + 1))), (γ1_0, cells6 n), (γ1_1, cells6 a), (γ1_2, cells6 e), (γ1_3, zero6)] := H4.out.1.grow hM (Nat.le_refl _) hl [] rfl (by decide)
      have B5 : Below w.heap.size w w5 := H4.out.2.trans (hM.below.mono H4.out.2.size)
      clear hM hl l H4
      clear γ
      have H5 : Hid (_ ∧ _) := ⟨M5, B5⟩
      clear M5 B5
      refine rest_at (l := []) rfl ?_
      refine rest_nil ?_
      refine then_normal ?_
      refine wp_cond_true rfl ?_
      refine wp_skip ?_
      refine then_normal ?_
      refine wp_seq ?_
      refine wp_block ?_
      refine wp_seq ?_
      refine walk_seq 4 [.quiet (N n), .quiet (N (f (j + 1))), .quiet (N (f (j + 1))), .call (N (q j))] (fun w' => Mm w' [(γ2_3, cells6 (f (j + 1))), (γ1_0, cells6 n), (γ1_1, cells6 a), (γ1_2, cells6 e), (γ1_3, zero6)]) ?pre5 ?F5 ?hpre5 (fun γ => ?hF5) (by kernel_rfl) ?hL5 ?hS5 ?ho5 ?he5
      case hpre5 =>
        simp only [List.take_succ_cons, List.take_zero]
        exact rfl
      case hF5 =>
        simp only [fill, Kind.val, Act.put, List.setIfInBounds_toArray, List.set_cons_zero, List.set_cons_succ]
        exact rfl
      case hL5 => exact trivial
      case hS5 => exact fun w' hb => H5.out.1.below hb
      case ho5 =>
        refine AllOk.cons ?_ ?_
        · exact fun γ => ⟨rfl, fun w' h => ex_load6 h 1 rfl rfl rfl rfl⟩
        refine AllOk.cons ?_ ?_
        · exact fun γ => ⟨rfl, fun w' h => ex_load6 h 0 rfl rfl rfl rfl⟩
        refine AllOk.cons ?_ ?_
        · exact fun γ => ⟨rfl, fun w' h => ex_load6 h 0 rfl rfl rfl rfl⟩
        refine AllOk.cons ?_ ?_
        · exact fun γ => ⟨rfl, fun w' h => ⟨22, #[N n, N (f (j + 1)), N (f (j + 1))], exec_call rfl call22 rfl (by simp only [List.map_toArray, List.map_cons, List.map_nil]; rfl), CS.out j w'⟩⟩
        exact trivial
      intro γ w6 l hM hl
      have M6 : Mm w6 [(γ2_3, cells6 (f (j + 1))), (γ1_0, cells6 n), (γ1_1, cells6 a), (γ1_2, cells6 e), (γ1_3, zero6)] := H5.out.1.grow hM (Nat.le_refl _) hl [] rfl (by decide)
      have B6 : Below w.heap.size w w6 := H5.out.2.trans (hM.below.mono H5.out.2.size)
      clear hM hl l H5
      clear γ
      have H6 : Hid (_ ∧ _) := ⟨M6, B6⟩
      clear M6 B6
      refine rest_at (l := [4]) rfl ?_
      refine rest_store rfl rfl rfl (ex_store6 H6.out.1 0 rfl rfl rfl rfl (Nat.le_of_ble_eq_true rfl)) ?_
      have H7 : Hid (Mm (w6.setCells γ2_3 0 (cells6 (q j))) [(γ2_3, cells6 (q j)), (γ1_0, cells6 n), (γ1_1, cells6 a), (γ1_2, cells6 e), (γ1_3, zero6)] ∧ Below w.heap.size w (w6.setCells γ2_3 0 (cells6 (q j)))) := ⟨H6.out.1.put 0 (off := 0) (vs := cells6 (q j)) rfl (Nat.le_of_ble_eq_true rfl), below_setCells _ o2_3.out _ _ _ H6.out.2⟩
      clear H6
      generalize hgw : World.setCells _ _ _ _ = w7 at H7 ⊢
      clear hgw
      refine rest_nil ?_
      refine then_normal ?_
      refine wp_seq ?_
      refine walk_seq 4 [.quiet (N e), .quiet (.int .i64 (((j + 1 : Nat) : Int) - 1)), .call (.int .i64 (bv j)), .quiet (.bool true)] (fun w' => Mm w' [(γ2_3, cells6 (q j)), (γ1_0, cells6 n), (γ1_1, cells6 a), (γ1_2, cells6 e), (γ1_3, zero6)]) ?pre6 ?F6 ?hpre6 (fun γ => ?hF6) (by kernel_rfl) ?hL6 ?hS6 ?ho6 ?he6
      case hpre6 =>
        simp only [List.take_succ_cons, List.take_zero]
        exact rfl
      case hF6 =>
        simp only [fill, Kind.val, Act.put, List.setIfInBounds_toArray, List.set_cons_zero, List.set_cons_succ]
        exact rfl
      case hL6 => exact trivial
      case hS6 => exact fun w' hb => H7.out.1.below hb
      case ho6 =>
        refine AllOk.cons ?_ ?_
        · exact fun γ => ⟨rfl, fun w' h => ex_load6 h 3 rfl rfl rfl rfl⟩
        refine AllOk.cons ?_ ?_
        · exact fun γ => ⟨rfl, fun w' _ => rfl⟩
        refine AllOk.cons ?_ ?_
        · exact fun γ => ⟨rfl, fun w' h => ⟨44, #[N e, .int .i64 (((j + 1 : Nat) : Int) - 1)], exec_call rfl call44 rfl (by simp only [List.map_toArray, List.map_cons, List.map_nil]; rfl), CI.out j w' (by omega)⟩⟩
        refine AllOk.cons ?_ ?_
        · (refine fun γ => ⟨rfl, fun w' h => ?_⟩; clear h; go_simp <;> omega)
        exact trivial
      intro γ w8 l hM hl
      have M8 : Mm w8 [(γ2_3, cells6 (q j)), (γ1_0, cells6 n), (γ1_1, cells6 a), (γ1_2, cells6 e), (γ1_3, zero6)] := H7.out.1.grow hM (Nat.le_refl _) hl [] rfl (by decide)
      have B8 : Below w.heap.size w w8 := H7.out.2.trans (hM.below.mono H7.out.2.size)
      clear hM hl l H7
      clear γ
      have H8 : Hid (_ ∧ _) := ⟨M8, B8⟩
      clear M8 B8
      refine rest_at (l := []) rfl ?_
      refine rest_nil ?_
      refine then_normal ?_
      refine wp_cond_true rfl ?_
      refine walk_seq 4 [.quiet (N n), .quiet (N (q j)), .quiet (N a), .call (N (f j))] (fun w' => Mm w' [(γ2_3, cells6 (q j)), (γ1_0, cells6 n), (γ1_1, cells6 a), (γ1_2, cells6 e), (γ1_3, zero6)]) ?pre7 ?F7 ?hpre7 (fun γ => ?hF7) (by kernel_rfl) ?hL7 ?hS7 ?ho7 ?he7
      case hpre7 =>
        simp only [List.take_succ_cons, List.take_zero]
        exact rfl
      case hF7 =>
        simp only [fill, Kind.val, Act.put, List.setIfInBounds_toArray, List.set_cons_zero, List.set_cons_succ]
        exact rfl
      case hL7 => exact trivial
      case hS7 => exact fun w' hb => H8.out.1.below hb
      case ho7 =>
        refine AllOk.cons ?_ ?_
        · exact fun γ => ⟨rfl, fun w' h => ex_load6 h 1 rfl rfl rfl rfl⟩
        refine AllOk.cons ?_ ?_
        · exact fun γ => ⟨rfl, fun w' h => ex_load6 h 0 rfl rfl rfl rfl⟩
        refine AllOk.cons ?_ ?_
        · exact fun γ => ⟨rfl, fun w' h => ex_load6 h 2 rfl rfl rfl rfl⟩
        refine AllOk.cons ?_ ?_
        · exact fun γ => ⟨rfl, fun w' h => ⟨22, #[N n, N (q j), N a], exec_call rfl call22 rfl (by simp only [List.map_toArray, List.map_cons, List.map_nil]; rfl), CM.out j hb' w'⟩⟩
        exact trivial
      intro γ w9 l hM hl
      have M9 : Mm w9 [(γ2_3, cells6 (q j)), (γ1_0, cells6 n), (γ1_1, cells6 a), (γ1_2, cells6 e), (γ1_3, zero6)] := H8.out.1.grow hM (Nat.le_refl _) hl [] rfl (by decide)
      have B9 : Below w.heap.size w w9 := H8.out.2.trans (hM.below.mono H8.out.2.size)
      clear hM hl l H8
      clear γ
      have H9 : Hid (_ ∧ _) := ⟨M9, B9⟩
      clear M9 B9
      refine rest_at (l := [4]) rfl ?_
      refine rest_store rfl rfl rfl (ex_store6 H9.out.1 0 rfl rfl rfl rfl (Nat.le_of_ble_eq_true rfl)) ?_
      have H10 : Hid (Mm (w9.setCells γ2_3 0 (cells6 (f j))) [(γ2_3, cells6 (f j)), (γ1_0, cells6 n), (γ1_1, cells6 a), (γ1_2, cells6 e), (γ1_3, zero6)] ∧ Below w.heap.size w (w9.setCells γ2_3 0 (cells6 (f j)))) := ⟨H9.out.1.put 0 (off := 0) (vs := cells6 (f j)) rfl (Nat.le_of_ble_eq_true rfl), below_setCells _ o2_3.out _ _ _ H9.out.2⟩
      clear H9
      generalize hgw : World.setCells _ _ _ _ = w10 at H10 ⊢
      clear hgw
      refine rest_nil ?_
      refine block_normal ?_
      refine then_normal ?_
      refine walk_seq 2 [.quiet (.int .i64 (((j + 1 : Nat) : Int) - 1)), .quiet (.int .i64 (((j : Nat) : Int) - 1))] (fun w' => Mm w' [(γ2_3, cells6 (f j)), (γ1_0, cells6 n), (γ1_1, cells6 a), (γ1_2, cells6 e), (γ1_3, zero6)]) ?pre8 ?F8 ?hpre8 (fun γ => ?hF8) (by kernel_rfl) ?hL8 ?hS8 ?ho8 ?he8
      case hpre8 =>
        simp only [List.take_succ_cons, List.take_zero]
        exact rfl
      case hF8 =>
        simp only [fill, Kind.val, Act.put, List.setIfInBounds_toArray, List.set_cons_zero, List.set_cons_succ]
        exact rfl
      case hL8 => exact trivial
      case hS8 => exact fun w' hb => H10.out.1.below hb
      case ho8 =>
        refine AllOk.cons ?_ ?_
        · exact fun γ => ⟨rfl, fun w' _ => rfl⟩
        refine AllOk.cons ?_ ?_
        · (refine fun γ => ⟨rfl, fun w' h => ?_⟩; clear h; go_simp; rw [IntKind.wrap_i64]; omega)
        exact trivial
      intro γ w11 l hM hl
      have M11 : Mm w11 [(γ2_3, cells6 (f j)), (γ1_0, cells6 n), (γ1_1, cells6 a), (γ1_2, cells6 e), (γ1_3, zero6)] := H10.out.1.grow hM (Nat.le_refl _) hl [] rfl (by decide)
      have B11 : Below w.heap.size w w11 := H10.out.2.trans (hM.below.mono H10.out.2.size)
      clear hM hl l H10
      clear γ
      have H11 : Hid (_ ∧ _) := ⟨M11, B11⟩
      clear M11 B11
      refine rest_at (l := [2]) rfl ?_
      refine rest_set (d := 8) rfl rfl rfl rfl ?_
      simp only [Act.put, List.setIfInBounds_toArray, List.set_cons_zero, List.set_cons_succ]
      refine rest_nil ?_
      refine then_normal ?_
      exact ⟨j, ⟨(slotfn [undef, undef, undef, undef, undef, undef, undef, undef, undef, undef, undef, undef, undef, undef, undef, .int .i64 (((j + 1 : Nat) : Int) - 1), .bool true, .int .i64 (((j + 1 : Nat) : Int) - 1), .int .i64 (((j : Nat) : Int) - 1), N n, N (f (j + 1)), N (f (j + 1)), N (q j), N e, .int .i64 (((j + 1 : Nat) : Int) - 1), .int .i64 (bv j), .bool true, N n, N (q j), N a, N (f j)]), rfl, ⟨H11.out.1, H11.out.2⟩, by omega⟩, by omega⟩
    · have hrd : True := trivial
      clear hrd
      have hb' : bv j = 0 := (HB.out j).resolve_left hb
      have HQ : Hid _ := FQ.out j hb'
      refine wp_seq ?_
      refine wp_seq ?_
      refine walk_seq 2 [.quiet (.int .i64 (((j + 1 : Nat) : Int) - 1)), .quiet (.bool true)] (fun w' => Mm w' [(γ2_3, cells6 (f (j + 1))), (γ1_0, cells6 n), (γ1_1, cells6 a), (γ1_2, cells6 e), (γ1_3, zero6)]) ?pre9 ?F9 ?hpre9 (fun γ => ?hF9) (by kernel_rfl) ?hL9 ?hS9 ?ho9 ?he9
      case hpre9 =>
        simp only [List.take_succ_cons, List.take_zero]
        exact rfl
      case hF9 =>
        simp only [fill, Kind.val, Act.put, List.setIfInBounds_toArray, List.set_cons_zero, List.set_cons_succ]
        exact rfl
      case hL9 => exact trivial
      case hS9 => exact fun w' hb => H4.out.1.below hb
      case ho9 =>
        refine AllOk.cons ?_ ?_
        · exact fun γ => ⟨rfl, fun w' _ => rfl⟩
        refine AllOk.cons ?_ ?_
        · (refine fun γ => ⟨rfl, fun w' h => ?_⟩; clear h; go_simp <;> omega)
        exact trivial
      intro γ w12 l hM hl
      have M12 : Mm w12 [(γ2_3, cells6 (f (j + 1))), (γ1_0, cells6 n), (γ1_1, cells6 a), (γ1_2, cells6 e), (γ1_3, zero6)] := H4.out.1.grow hM (Nat.le_refl _) hl [] rfl (by decide)
      have B12 : Below w.heap.size w w12 := H4.out.2.trans (hM.below.mono H4.out.2.size)
      clear hM hl l H4
      clear γ
      have H12 : Hid (_ ∧ _) := ⟨M12, B12⟩
      clear M12 B12
      refine rest_at (l := []) rfl ?_
      refine rest_nil ?_
      refine then_normal ?_
      refine wp_cond_true rfl ?_
      refine wp_skip ?_
      refine then_normal ?_
      refine wp_seq ?_
      refine wp_block ?_
      refine wp_seq ?_
      refine walk_seq 4 [.quiet (N n), .quiet (N (f (j + 1))), .quiet (N (f (j + 1))), .call (N (q j))] (fun w' => Mm w' [(γ2_3, cells6 (f (j + 1))), (γ1_0, cells6 n), (γ1_1, cells6 a), (γ1_2, cells6 e), (γ1_3, zero6)]) ?pre10 ?F10 ?hpre10 (fun γ => ?hF10) (by kernel_rfl) ?hL10 ?hS10 ?ho10 ?he10
      case hpre10 =>
        simp only [List.take_succ_cons, List.take_zero]
        exact rfl
      case hF10 =>
        simp only [fill, Kind.val, Act.put, List.setIfInBounds_toArray, List.set_cons_zero, List.set_cons_succ]
        exact rfl
      case hL10 => exact trivial
      case hS10 => exact fun w' hb => H12.out.1.below hb
      case ho10 =>
        refine AllOk.cons ?_ ?_
        · exact fun γ => ⟨rfl, fun w' h => ex_load6 h 1 rfl rfl rfl rfl⟩
        refine AllOk.cons ?_ ?_
        · exact fun γ => ⟨rfl, fun w' h => ex_load6 h 0 rfl rfl rfl rfl⟩
        refine AllOk.cons ?_ ?_
        · exact fun γ => ⟨rfl, fun w' h => ex_load6 h 0 rfl rfl rfl rfl⟩
        refine AllOk.cons ?_ ?_
        · exact fun γ => ⟨rfl, fun w' h => ⟨22, #[N n, N (f (j + 1)), N (f (j + 1))], exec_call rfl call22 rfl (by simp only [List.map_toArray, List.map_cons, List.map_nil]; rfl), CS.out j w'⟩⟩
        exact trivial
      intro γ w13 l hM hl
      have M13 : Mm w13 [(γ2_3, cells6 (f (j + 1))), (γ1_0, cells6 n), (γ1_1, cells6 a), (γ1_2, cells6 e), (γ1_3, zero6)] := H12.out.1.grow hM (Nat.le_refl _) hl [] rfl (by decide)
      have B13 : Below w.heap.size w w13 := H12.out.2.trans (hM.below.mono H12.out.2.size)
      clear hM hl l H12
      clear γ
      have H13 : Hid (_ ∧ _) := ⟨M13, B13⟩
      clear M13 B13
      refine rest_at (l := [4]) rfl ?_
      refine rest_store rfl rfl rfl (ex_store6 H13.out.1 0 rfl rfl rfl rfl (Nat.le_of_ble_eq_true rfl)) ?_
      have H14 : Hid (Mm (w13.setCells γ2_3 0 (cells6 (q j))) [(γ2_3, cells6 (q j)), (γ1_0, cells6 n), (γ1_1, cells6 a), (γ1_2, cells6 e), (γ1_3, zero6)] ∧ Below w.heap.size w (w13.setCells γ2_3 0 (cells6 (q j)))) := ⟨H13.out.1.put 0 (off := 0) (vs := cells6 (q j)) rfl (Nat.le_of_ble_eq_true rfl), below_setCells _ o2_3.out _ _ _ H13.out.2⟩
      clear H13
      generalize hgw : World.setCells _ _ _ _ = w14 at H14 ⊢
      clear hgw
      refine rest_nil ?_
      refine then_normal ?_
      refine wp_seq ?_
      refine walk_seq 4 [.quiet (N e), .quiet (.int .i64 (((j + 1 : Nat) : Int) - 1)), .call (.int .i64 (bv j)), .quiet (.bool false)] (fun w' => Mm w' [(γ2_3, cells6 (q j)), (γ1_0, cells6 n), (γ1_1, cells6 a), (γ1_2, cells6 e), (γ1_3, zero6)]) ?pre11 ?F11 ?hpre11 (fun γ => ?hF11) (by kernel_rfl) ?hL11 ?hS11 ?ho11 ?he11
      case hpre11 =>
        simp only [List.take_succ_cons, List.take_zero]
        exact rfl
      case hF11 =>
        simp only [fill, Kind.val, Act.put, List.setIfInBounds_toArray, List.set_cons_zero, List.set_cons_succ]
        exact rfl
      case hL11 => exact trivial
      case hS11 => exact fun w' hb => H14.out.1.below hb
      case ho11 =>
        refine AllOk.cons ?_ ?_
        · exact fun γ => ⟨rfl, fun w' h => ex_load6 h 3 rfl rfl rfl rfl⟩
        refine AllOk.cons ?_ ?_
        · exact fun γ => ⟨rfl, fun w' _ => rfl⟩
        refine AllOk.cons ?_ ?_
        · exact fun γ => ⟨rfl, fun w' h => ⟨44, #[N e, .int .i64 (((j + 1 : Nat) : Int) - 1)], exec_call rfl call44 rfl (by simp only [List.map_toArray, List.map_cons, List.map_nil]; rfl), CI.out j w' (by omega)⟩⟩
        refine AllOk.cons ?_ ?_
        · (refine fun γ => ⟨rfl, fun w' h => ?_⟩; clear h; go_simp <;> omega)
        exact trivial
      intro γ w15 l hM hl
      have M15 : Mm w15 [(γ2_3, cells6 (q j)), (γ1_0, cells6 n), (γ1_1, cells6 a), (γ1_2, cells6 e), (γ1_3, zero6)] := H14.out.1.grow hM (Nat.le_refl _) hl [] rfl (by decide)
      have B15 : Below w.heap.size w w15 := H14.out.2.trans (hM.below.mono H14.out.2.size)
      clear hM hl l H14
      clear γ
      have H15 : Hid (_ ∧ _) := ⟨M15, B15⟩
      clear M15 B15
      refine rest_at (l := []) rfl ?_
      refine rest_nil ?_
      refine then_normal ?_
      refine wp_cond_false rfl ?_
      refine wp_skip ?_
      refine block_normal ?_
      refine then_normal ?_
      refine walk_seq 2 [.quiet (.int .i64 (((j + 1 : Nat) : Int) - 1)), .quiet (.int .i64 (((j : Nat) : Int) - 1))] (fun w' => Mm w' [(γ2_3, cells6 (q j)), (γ1_0, cells6 n), (γ1_1, cells6 a), (γ1_2, cells6 e), (γ1_3, zero6)]) ?pre12 ?F12 ?hpre12 (fun γ => ?hF12) (by kernel_rfl) ?hL12 ?hS12 ?ho12 ?he12
      case hpre12 =>
        simp only [List.take_succ_cons, List.take_zero]
        exact rfl
      case hF12 =>
        simp only [fill, Kind.val, Act.put, List.setIfInBounds_toArray, List.set_cons_zero, List.set_cons_succ]
        exact rfl
      case hL12 => exact trivial
      case hS12 => exact fun w' hb => H15.out.1.below hb
      case ho12 =>
        refine AllOk.cons ?_ ?_
        · exact fun γ => ⟨rfl, fun w' _ => rfl⟩
        refine AllOk.cons ?_ ?_
        · (refine fun γ => ⟨rfl, fun w' h => ?_⟩; clear h; go_simp; rw [IntKind.wrap_i64]; omega)
        exact trivial
      intro γ w16 l hM hl
      have M16 : Mm w16 [(γ2_3, cells6 (q j)), (γ1_0, cells6 n), (γ1_1, cells6 a), (γ1_2, cells6 e), (γ1_3, zero6)] := H15.out.1.grow hM (Nat.le_refl _) hl [] rfl (by decide)
      have B16 : Below w.heap.size w w16 := H15.out.2.trans (hM.below.mono H15.out.2.size)
      clear hM hl l H15
      clear γ
      have H16 : Hid (_ ∧ _) := ⟨M16, B16⟩
      clear M16 B16
      refine rest_at (l := [2]) rfl ?_
      refine rest_set (d := 8) rfl rfl rfl rfl ?_
      simp only [Act.put, List.setIfInBounds_toArray, List.set_cons_zero, List.set_cons_succ]
      refine rest_nil ?_
      refine then_normal ?_
      exact ⟨j, ⟨(slotfn [undef, undef, undef, undef, undef, undef, undef, undef, undef, undef, undef, undef, undef, undef, undef, .int .i64 (((j + 1 : Nat) : Int) - 1), .bool true, .int .i64 (((j + 1 : Nat) : Int) - 1), .int .i64 (((j : Nat) : Int) - 1), N n, N (f (j + 1)), N (f (j + 1)), N (q j), N e, .int .i64 (((j + 1 : Nat) : Int) - 1), .int .i64 (bv j), .bool false, s0 27, s0 28, s0 29, s0 30]), rfl, ⟨by rw [← HQ.out]; exact H16.out.1, H16.out.2⟩, by omega⟩, by omega⟩
  have hk0 : k = 0 := by omega
  subst hk0
  refine wp_seq ?_
  refine wp_seq ?_
  refine walk_seq 2 [.quiet (.int .i64 (((0 : Nat) : Int) - 1)), .quiet (.bool false)] (fun w' => Mm w' [(γ2_3, cells6 (f 0)), (γ1_0, cells6 n), (γ1_1, cells6 a), (γ1_2, cells6 e), (γ1_3, zero6)]) ?pre13 ?F13 ?hpre13 (fun γ => ?hF13) (by kernel_rfl) ?hL13 ?hS13 ?ho13 ?he13
  case hpre13 =>
    simp only [List.take_succ_cons, List.take_zero]
    exact rfl
  case hF13 =>
    simp only [fill, Kind.val, Act.put, List.setIfInBounds_toArray, List.set_cons_zero, List.set_cons_succ]
    exact rfl
  case hL13 => exact trivial
  case hS13 => exact fun w' hb => H4.out.1.below hb
  case ho13 =>
    refine AllOk.cons ?_ ?_
    · exact fun γ => ⟨rfl, fun w' _ => rfl⟩
    refine AllOk.cons ?_ ?_
    · (refine fun γ => ⟨rfl, fun w' h => ?_⟩; clear h; go_simp <;> omega)
    exact trivial
  intro γ w17 l hM hl
  have M17 : Mm w17 [(γ2_3, cells6 (f 0)), (γ1_0, cells6 n), (γ1_1, cells6 a), (γ1_2, cells6 e), (γ1_3, zero6)] := H4.out.1.grow hM (Nat.le_refl _) hl [] rfl (by decide)
  have B17 : Below w.heap.size w w17 := H4.out.2.trans (hM.below.mono H4.out.2.size)
  clear hM hl l H4
  clear γ
  have H17 : Hid (_ ∧ _) := ⟨M17, B17⟩
  clear M17 B17
  refine rest_at (l := []) rfl ?_
  refine rest_nil ?_
  refine then_normal ?_
  refine wp_cond_false rfl ?_
  refine wp_exit ?_
  repeat refine then_exit ?_
  refine block_exit ?_
  refine then_normal ?_
  refine wp_seq ?_
  refine walk_seq 1 [.quiet (N (f 0))] (fun w' => Mm w' [(γ2_3, cells6 (f 0)), (γ1_0, cells6 n), (γ1_1, cells6 a), (γ1_2, cells6 e), (γ1_3, zero6)]) ?pre14 ?F14 ?hpre14 (fun γ => ?hF14) (by kernel_rfl) ?hL14 ?hS14 ?ho14 ?he14
  case hpre14 =>
    simp only [List.take_succ_cons, List.take_zero]
    exact rfl
  case hF14 =>
    simp only [fill, Kind.val, Act.put, List.setIfInBounds_toArray, List.set_cons_zero, List.set_cons_succ]
    exact rfl
  case hL14 => exact trivial
  case hS14 => exact fun w' hb => H17.out.1.below hb
  case ho14 =>
    refine AllOk.cons ?_ ?_
    · exact fun γ => ⟨rfl, fun w' h => ex_load6 h 0 rfl rfl rfl rfl⟩
    exact trivial
  intro γ w18 l hM hl
  have M18 : Mm w18 [(γ2_3, cells6 (f 0)), (γ1_0, cells6 n), (γ1_1, cells6 a), (γ1_2, cells6 e), (γ1_3, zero6)] := H17.out.1.grow hM (Nat.le_refl _) hl [] rfl (by decide)
  have B18 : Below w.heap.size w w18 := H17.out.2.trans (hM.below.mono H17.out.2.size)
  clear hM hl l H17
  clear γ
  have H18 : Hid (_ ∧ _) := ⟨M18, B18⟩
  clear M18 B18
  refine rest_at (l := [1]) rfl ?_
  refine rest_store rfl rfl rfl (ex_store6 H18.out.1 4 rfl rfl rfl rfl (Nat.le_of_ble_eq_true rfl)) ?_
  have H19 : Hid (Mm (w18.setCells γ1_3 0 (cells6 (f 0))) [(γ2_3, cells6 (f 0)), (γ1_0, cells6 n), (γ1_1, cells6 a), (γ1_2, cells6 e), (γ1_3, cells6 (f 0))] ∧ Below w.heap.size w (w18.setCells γ1_3 0 (cells6 (f 0)))) := ⟨H18.out.1.put 4 (off := 0) (vs := cells6 (f 0)) rfl (Nat.le_of_ble_eq_true rfl), below_setCells _ o1_3.out _ _ _ H18.out.2⟩
  clear H18
  generalize hgw : World.setCells _ _ _ _ = w19 at H19 ⊢
  clear hgw
  refine rest_nil ?_
  refine then_normal ?_
  refine wp_ret ?_
  repeat (first | refine then_ret ?_ | refine block_ret ?_)
  have c0 := H19.out.1.get 4 rfl 0 rfl
  have c1 := H19.out.1.get 4 rfl 1 rfl
  have c2 := H19.out.1.get 4 rfl 2 rfl
  have c3 := H19.out.1.get 4 rfl 3 rfl
  have c4 := H19.out.1.get 4 rfl 4 rfl
  have c5 := H19.out.1.get 4 rfl 5 rfl
  refine bodyPost_ret (v := N (f 0)) (by simp [results, Tryd.results26, go_sem, *]) rfl ?_
  exact ⟨rfl, H19.out.2⟩

structure RS where
  r : Nat
  s : Nat
  x : Nat
  y : Nat
structure RI (n a r s x y : Nat) : Prop where
  sr : s < r
  rn : r ≤ n
  xn : x < n
  yn : y < n
  gcd : Nat.gcd r s = Nat.gcd n a
  cx : Cg n r (x * a)
  cy : Cg n s (y * a)
theorem RI.start {n a : Nat} (ok : Ok n) : RI n a n (a % n) 0 1 := by
  refine ⟨Nat.mod_lt _ ok.pos, Nat.le_refl _, ok.pos, by have := ok.three; omega, ?_, ?_, ?_⟩
  · rw [Nat.gcd_comm n (a % n), ← Nat.gcd_rec, Nat.gcd_comm]
  · rw [Nat.zero_mul]
    have := Cg.zero n 1
    rwa [Nat.one_mul] at this
  · rw [Nat.one_mul]; exact Cg.mod n a
theorem RI.next {n a r s x y : Nat} (ok : Ok n) (h : RI n a r s x y) (hs : s ≠ 0) : RI n a s (r % s) y (subm n x (r / s * y % n)) := by
  have h1 := h.sr
  have h2 := h.rn
  refine ⟨Nat.mod_lt _ (by omega), by omega, h.yn, subm_lt_n ok.pos _ _, ?_, h.cy, ?_⟩
  · rw [Nat.gcd_comm s (r % s), ← Nat.gcd_rec, Nat.gcd_comm s r]; exact h.gcd
  · have hd := Nat.div_add_mod r s
    have hp := ok.pos
    have e1 : Cg n (subm n x (r / s * y % n) + r / s * y) x := by
      unfold subm
      refine ((Cg.mod n (x + (n - r / s * y % n % n))).addR _).trans ?_
      rw [Nat.mod_mod]
      have hl := Nat.mod_lt (r / s * y) hp
      have hdm := Nat.div_add_mod (r / s * y) n
      have e : x + (n - r / s * y % n) + r / s * y = x + (r / s * y / n + 1) * n := by rw [Nat.add_mul, Nat.mul_comm (r / s * y / n)]; omega
      rw [e]
      have := (Cg.zero n (r / s * y / n + 1)).addL x
      rwa [Nat.add_zero] at this
    have e2 := e1.mulR a
    rw [Nat.add_mul, Nat.mul_assoc (r / s)] at e2
    have e3 : Cg n (subm n x (r / s * y % n) * a + r / s * s) (subm n x (r / s * y % n) * a + r / s * (y * a)) := Cg.addL _ (h.cy.mulL (r / s))
    have e4 := (e3.trans e2).trans h.cx.symm
    have e5 : r = r % s + r / s * s := by rw [Nat.mul_comm]; omega
    have e6 : Cg n (subm n x (r / s * y % n) * a + r / s * s) (r % s + r / s * s) := by
      refine e4.trans ?_
      conv => lhs; rw [e5]
      exact Cg.refl _ _
    have hK : ∀ p q c : Nat, Cg n (p + c) (q + c) → Cg n q p := fun p q c h' => by
      unfold Cg at *
      have hc := Nat.mod_lt c hp
      have s1 : Cg n (p + c + (n - c % n)) (q + c + (n - c % n)) := Cg.addR _ h'
      have hcd := Nat.div_add_mod c n
      have s2 : ∀ z : Nat, (z + c + (n - c % n)) % n = z % n := fun z => by
        rw [show z + c + (n - c % n) = z + (c / n + 1) * n by rw [Nat.add_mul, Nat.mul_comm (c / n)]; omega, Nat.add_mul_mod_self_right]
      unfold Cg at s1
      rw [s2, s2] at s1
      exact s1.symm
    exact hK _ _ _ e6
theorem RI.last {n a r s x y : Nat} (ok : Ok n) (h : RI n a r s x y) (hr : r = 1) : x < n ∧ x * a % n = 1 := by
  have := h.cx
  rw [hr] at this
  unfold Cg at this
  rw [← this, Nat.mod_eq_of_lt (by have := ok.three; omega)]
  exact ⟨h.xn, rfl⟩
set_option maxHeartbeats 4000000 in
set_option maxRecDepth 100000 in
theorem rinv_good {n a : Nat} (ok : Ok n) (sa0 z0 k1 : Nat) (hs0 : sa0 = a % n) (hz0 : z0 = 0) (hk1 : k1 = 1) (hg : Nat.gcd n a = 1)
    (cr : ∀ w, Calls Tryd.prog 12 #[N n, N a] w fun e w' => e = .returned (N sa0) ∧ Below w.heap.size w w')
    (cd : ∀ r s, r ≤ n → s ≤ n → s ≠ 0 → ∀ w, Calls Tryd.prog 42 #[N r, N s] w fun e w' => e = .returned (.tuple #[N (r / s), N (r % s), .int .i64 0]) ∧ Below w.heap.size w w')
    (cp : ∀ p q, p ≤ n → q ≤ n → ∀ w, Calls Tryd.prog 22 #[N n, N p, N q] w fun e w' => e = .returned (N (p * q % n)) ∧ Below w.heap.size w w')
    (cq : ∀ p q, p ≤ n → q ≤ n → ∀ w, Calls Tryd.prog 18 #[N n, N p, N q] w fun e w' => e = .returned (N (subm n p q)) ∧ Below w.heap.size w w') (w : World) :
    Calls Tryd.prog 24 #[N n, N a] w fun e w' => ∃ x, e = .returned (.tuple #[N x, .int .i64 0]) ∧ x < n ∧ x * a % n = 1 ∧ Below w.heap.size w w' := by
  have H0 : Hid (_ ∧ _) := ⟨Mm.nil w, Below.refl w.heap.size w⟩
  have CR : Hid _ := cr
  have CD : Hid _ := cd
  have CP : Hid _ := cp
  have CQ : Hid _ := cq
  have HR : Hid _ := hs0
  have HZ0 : Hid _ := hz0
  have HK : Hid _ := hk1
  have ZZ : Hid (zero6 = cells6 z0) := (by rw [hz0]; exact cells_zero.symm : zero6 = cells6 z0)
  clear cr cd cp cq hs0 hz0 hk1
  go_enter Tryd.func24, Tryd.ntmps24
  refine wp_seq ?_
  refine walk_seq 4 [.made (cells6 n) 24, .made (cells6 a) 24, .made zero6 24, .quiet (.int .i64 0)] (fun w' => Mm w' []) ?pre1 ?F1 ?hpre1 (fun γ => ?hF1) (by kernel_rfl) ?hL1 ?hS1 ?ho1 ?he1
  case hpre1 =>
    simp only [List.take_succ_cons, List.take_zero]
    exact rfl
  case hF1 =>
    simp only [fill, Kind.val, Act.put, List.setIfInBounds_toArray, List.set_cons_zero, List.set_cons_succ]
    exact rfl
  case hL1 => exact trivial
  case hS1 => exact fun w' hb => H0.out.1.below hb
  case ho1 =>
    refine AllOk.cons ?_ ?_
    · exact fun γ => ⟨rfl, fun w' => ex_box6 rfl rfl⟩
    refine AllOk.cons ?_ ?_
    · exact fun γ => ⟨rfl, fun w' => ex_box6 rfl rfl⟩
    refine AllOk.cons ?_ ?_
    · exact fun γ => ⟨rfl, fun w' => exec_made6 rfl⟩
    refine AllOk.cons ?_ ?_
    · exact fun γ => ⟨rfl, fun w' _ => rfl⟩
    exact trivial
  intro γ w1 l hM hl
  have M1 : Mm w1 [(γ 0, cells6 n), (γ 1, cells6 a), (γ 2, zero6)] := H0.out.1.grow hM (Nat.le_refl _) hl [0, 1, 2] rfl (by decide)
  have B1 : Below w.heap.size w w1 := H0.out.2.trans (hM.below.mono H0.out.2.size)
  have o1_0 : Hid (w.heap.size ≤ γ 0) := Nat.le_trans H0.out.2.size (hM.fin (Nat.le_refl _) hl (i := 0) rfl).2.1
  have o1_1 : Hid (w.heap.size ≤ γ 1) := Nat.le_trans H0.out.2.size (hM.fin (Nat.le_refl _) hl (i := 1) rfl).2.1
  have o1_2 : Hid (w.heap.size ≤ γ 2) := Nat.le_trans H0.out.2.size (hM.fin (Nat.le_refl _) hl (i := 2) rfl).2.1
  clear hM hl l
  generalize γ 0 = γ1_0 at M1 o1_0 ⊢
  generalize γ 1 = γ1_1 at M1 o1_1 ⊢
  generalize γ 2 = γ1_2 at M1 o1_2 ⊢
  clear γ
  have H1 : Hid (_ ∧ _) := ⟨M1, B1⟩
  clear M1 B1
  refine rest_at (l := []) rfl ?_
  refine rest_nil ?_
  refine then_normal ?_
  refine wp_seq ?_
  refine walk_any (by kernel_rfl) 8 [.quiet (N n), .quiet (N n), .quiet (N a), .call (N sa0), .made zero6 24, .made zero6 24, .laid 4 zero6 (cells6 n), .laid 5 zero6 (cells6 sa0)] (fun w' => Mm w' [(γ1_0, cells6 n), (γ1_1, cells6 a), (γ1_2, zero6)]) ?pre2 ?F2 ?hpre2 (fun γ => ?hF2) (by kernel_rfl) ?hL2 ?hS2 ?ho2 ?he2
  case hpre2 =>
    simp only [List.take_succ_cons, List.take_zero]
    exact rfl
  case hF2 =>
    simp only [fill, Kind.val, Act.put, List.setIfInBounds_toArray, List.set_cons_zero, List.set_cons_succ]
    exact rfl
  case hL2 => exact ⟨⟨_, rfl⟩, ⟨_, rfl⟩, trivial⟩
  case hS2 => exact fun w' hb => H1.out.1.below hb
  case ho2 =>
    refine AllOk.cons ?_ ?_
    · exact fun γ => ⟨rfl, fun w' h => ex_load6 h 0 rfl rfl rfl rfl⟩
    refine AllOk.cons ?_ ?_
    · exact fun γ => ⟨rfl, fun w' h => ex_load6 h 0 rfl rfl rfl rfl⟩
    refine AllOk.cons ?_ ?_
    · exact fun γ => ⟨rfl, fun w' h => ex_load6 h 1 rfl rfl rfl rfl⟩
    refine AllOk.cons ?_ ?_
    · exact fun γ => ⟨rfl, fun w' h => ⟨12, #[N n, N a], exec_call rfl call12 rfl (by simp only [List.map_toArray, List.map_cons, List.map_nil]; rfl), CR.out w'⟩⟩
    refine AllOk.cons ?_ ?_
    · exact fun γ => ⟨rfl, fun w' => exec_made6 rfl⟩
    refine AllOk.cons ?_ ?_
    · exact fun γ => ⟨rfl, fun w' => exec_made6 rfl⟩
    refine AllOk.cons ?_ ?_
    · exact fun γ => ⟨rfl, rfl, rfl, fun w' h => exec_laid6 h rfl rfl rfl⟩
    refine AllOk.cons ?_ ?_
    · exact fun γ => ⟨rfl, rfl, rfl, fun w' h => exec_laid6 h rfl rfl rfl⟩
    exact trivial
  intro γ w2 l hM hl
  have M2 : Mm w2 [(γ 4, cells6 n), (γ 5, cells6 sa0), (γ1_0, cells6 n), (γ1_1, cells6 a), (γ1_2, zero6)] := H1.out.1.grow hM (Nat.le_refl _) hl [4, 5] rfl (by decide)
  have B2 : Below w.heap.size w w2 := H1.out.2.trans (hM.below.mono H1.out.2.size)
  have o2_4 : Hid (w.heap.size ≤ γ 4) := Nat.le_trans H1.out.2.size (hM.fin (Nat.le_refl _) hl (i := 4) rfl).2.1
  have o2_5 : Hid (w.heap.size ≤ γ 5) := Nat.le_trans H1.out.2.size (hM.fin (Nat.le_refl _) hl (i := 5) rfl).2.1
  clear hM hl l H1
  generalize γ 4 = γ2_4 at M2 o2_4 ⊢
  generalize γ 5 = γ2_5 at M2 o2_5 ⊢
  clear γ
  have H2 : Hid (_ ∧ _) := ⟨M2, B2⟩
  clear M2 B2
  refine rest_at (l := []) rfl ?_
  refine rest_nil ?_
  refine then_normal ?_
  refine wp_seq ?_
  refine walk_seq 1 [.made zero6 24] (fun w' => Mm w' [(γ2_4, cells6 n), (γ2_5, cells6 sa0), (γ1_0, cells6 n), (γ1_1, cells6 a), (γ1_2, zero6)]) ?pre3 ?F3 ?hpre3 (fun γ => ?hF3) (by kernel_rfl) ?hL3 ?hS3 ?ho3 ?he3
  case hpre3 =>
    simp only [List.take_succ_cons, List.take_zero]
    exact rfl
  case hF3 =>
    simp only [fill, Kind.val, Act.put, List.setIfInBounds_toArray, List.set_cons_zero, List.set_cons_succ]
    exact rfl
  case hL3 => exact trivial
  case hS3 => exact fun w' hb => H2.out.1.below hb
  case ho3 =>
    refine AllOk.cons ?_ ?_
    · exact fun γ => ⟨rfl, fun w' => exec_made6 rfl⟩
    exact trivial
  intro γ w3 l hM hl
  have M3 : Mm w3 [(γ 0, zero6), (γ2_4, cells6 n), (γ2_5, cells6 sa0), (γ1_0, cells6 n), (γ1_1, cells6 a), (γ1_2, zero6)] := H2.out.1.grow hM (Nat.le_refl _) hl [0] rfl (by decide)
  have B3 : Below w.heap.size w w3 := H2.out.2.trans (hM.below.mono H2.out.2.size)
  have o3_0 : Hid (w.heap.size ≤ γ 0) := Nat.le_trans H2.out.2.size (hM.fin (Nat.le_refl _) hl (i := 0) rfl).2.1
  clear hM hl l H2
  generalize γ 0 = γ3_0 at M3 o3_0 ⊢
  clear γ
  have H3 : Hid (_ ∧ _) := ⟨M3, B3⟩
  clear M3 B3
  refine rest_at (l := []) rfl ?_
  refine rest_nil ?_
  refine then_normal ?_
  refine wp_seq ?_
  refine walk_seq 3 [.quiet (N k1), .made zero6 24, .laid 1 zero6 (cells6 k1)] (fun w' => Mm w' [(γ3_0, zero6), (γ2_4, cells6 n), (γ2_5, cells6 sa0), (γ1_0, cells6 n), (γ1_1, cells6 a), (γ1_2, zero6)]) ?pre4 ?F4 ?hpre4 (fun γ => ?hF4) (by kernel_rfl) ?hL4 ?hS4 ?ho4 ?he4
  case hpre4 =>
    simp only [List.take_succ_cons, List.take_zero]
    exact rfl
  case hF4 =>
    simp only [fill, Kind.val, Act.put, List.setIfInBounds_toArray, List.set_cons_zero, List.set_cons_succ]
    exact rfl
  case hL4 => exact ⟨⟨_, rfl⟩, trivial⟩
  case hS4 => exact fun w' hb => H3.out.1.below hb
  case ho4 =>
    refine AllOk.cons ?_ ?_
    · exact fun γ => ⟨rfl, fun w' _ => ex_build1' HK.out rfl rfl⟩
    refine AllOk.cons ?_ ?_
    · exact fun γ => ⟨rfl, fun w' => exec_made6 rfl⟩
    refine AllOk.cons ?_ ?_
    · exact fun γ => ⟨rfl, rfl, rfl, fun w' h => exec_laid6 h rfl rfl rfl⟩
    exact trivial
  intro γ w4 l hM hl
  have M4 : Mm w4 [(γ 1, cells6 k1), (γ3_0, zero6), (γ2_4, cells6 n), (γ2_5, cells6 sa0), (γ1_0, cells6 n), (γ1_1, cells6 a), (γ1_2, zero6)] := H3.out.1.grow hM (Nat.le_refl _) hl [1] rfl (by decide)
  have B4 : Below w.heap.size w w4 := H3.out.2.trans (hM.below.mono H3.out.2.size)
  have o4_1 : Hid (w.heap.size ≤ γ 1) := Nat.le_trans H3.out.2.size (hM.fin (Nat.le_refl _) hl (i := 1) rfl).2.1
  clear hM hl l H3
  generalize γ 1 = γ4_1 at M4 o4_1 ⊢
  clear γ
  have H4 : Hid (_ ∧ _) := ⟨M4, B4⟩
  clear M4 B4
  refine rest_at (l := []) rfl ?_
  refine rest_nil ?_
  refine then_normal ?_
  refine wp_seq ?_
  refine wp_block ?_
  refine loop_ghost (α := RS) (fun z a' w' => ∃ s0 : Nat → Value, a' = ⟨#[N n, N a, PT γ1_0 0, PT γ1_1 0, PT γ1_2 0, .int .i64 0, PT γ2_4 0, PT γ2_5 0, PT γ3_0 0, PT γ4_1 0, s0 10, s0 11, s0 12, N n, N n, N a, N sa0, N k1, s0 18, s0 19, s0 20, s0 21, s0 22, s0 23, s0 24, s0 25, s0 26, s0 27, s0 28, s0 29, s0 30, s0 31, s0 32, s0 33, s0 34, s0 35, s0 36, s0 37, undef, undef, undef, undef, undef], []⟩ ∧ (Mm w' [(γ4_1, cells6 z.y), (γ3_0, cells6 z.x), (γ2_4, cells6 z.r), (γ2_5, cells6 z.s), (γ1_0, cells6 n), (γ1_1, cells6 a), (γ1_2, zero6)] ∧ Below w.heap.size w w') ∧ RI n a z.r z.s z.x z.y) (fun z => z.s) ⟨n, sa0, z0, k1⟩ ?st0 ?rd0
  case st0 => exact ⟨(slotfn [undef, undef, undef, undef, undef, undef, undef, undef, undef, undef, undef, undef, undef, undef, undef, undef, undef, undef, undef, undef, undef, undef, undef, undef, undef, undef, undef, undef, undef, undef, undef, undef, undef, undef, undef, undef, undef, undef]), rfl, ⟨H4.out.1.at1 ZZ.out, H4.out.2⟩, by rw [HR.out, HZ0.out, HK.out]; exact RI.start ok⟩
  intro z a' w5 hI
  obtain ⟨s0, rfl, hMB, hk0⟩ := hI
  have H5 : Hid (_ ∧ _) := hMB
  clear hMB H4
  by_cases hlt : z.s ≠ 0
  · have hrd : True := trivial
    clear hrd
    obtain ⟨r, s, x, y⟩ := z
    have hE : RI n a r s x y := hk0
    have hs : s ≠ 0 := hlt
    have hbn := ok.big
    have e0 := fun w => run_eqN s 0 (by have := hE.sr; have := hE.rn; omega) big_pos w
    rw [decide_eq_false hs] at e0
    have cv : ∀ w, Calls Tryd.prog 42 #[N r, N s] w fun e w' => e = .returned (.tuple #[N (r / s), N (r % s), .int .i64 0]) ∧ Below w.heap.size w w' := CD.out r s hE.rn (by have := hE.sr; have := hE.rn; omega) hs
    have cm : ∀ w, Calls Tryd.prog 22 #[N n, N (r / s), N y] w fun e w' => e = .returned (N (r / s * y % n)) ∧ Below w.heap.size w w' := CP.out _ _ (Nat.le_trans (Nat.div_le_self _ _) hE.rn) (Nat.le_of_lt hE.yn)
    have cs : ∀ w, Calls Tryd.prog 18 #[N n, N x, N (r / s * y % n)] w fun e w' => e = .returned (N (subm n x (r / s * y % n))) ∧ Below w.heap.size w w' := CQ.out _ _ (Nat.le_of_lt hE.xn) (Nat.le_of_lt (Nat.mod_lt _ ok.pos))
    have HN : Hid _ := hE.next ok hs
    have HS : Hid (r % s < s) := Nat.mod_lt r (by omega)
    obtain ⟨q, hq⟩ : ∃ q, q = r / s := ⟨_, rfl⟩
    obtain ⟨t, ht⟩ : ∃ t, t = r % s := ⟨_, rfl⟩
    rw [← hq] at cv cm cs HN
    rw [← ht] at cv HN HS
    obtain ⟨p, hp⟩ : ∃ p, p = q * y % n := ⟨_, rfl⟩
    rw [← hp] at cm cs HN
    obtain ⟨u, hu⟩ : ∃ u, u = subm n x p := ⟨_, rfl⟩
    rw [← hu] at cs HN
    have CV : Hid _ := cv
    have CM : Hid _ := cm
    have CS : Hid _ := cs
    clear cv cm cs hE hk0 hq ht hp hu
    refine wp_seq ?_
    refine wp_seq ?_
    refine walk_seq 3 [.quiet (N s), .quiet (N 0), .quiet (.bool true)] (fun w' => Mm w' [(γ4_1, cells6 y), (γ3_0, cells6 x), (γ2_4, cells6 r), (γ2_5, cells6 s), (γ1_0, cells6 n), (γ1_1, cells6 a), (γ1_2, zero6)]) ?pre5 ?F5 ?hpre5 (fun γ => ?hF5) (by kernel_rfl) ?hL5 ?hS5 ?ho5 ?he5
    case hpre5 =>
      simp only [List.take_succ_cons, List.take_zero]
      exact rfl
    case hF5 =>
      simp only [fill, Kind.val, Act.put, List.setIfInBounds_toArray, List.set_cons_zero, List.set_cons_succ]
      exact rfl
    case hL5 => exact trivial
    case hS5 => exact fun w' hb => H5.out.1.below hb
    case ho5 =>
      refine AllOk.cons ?_ ?_
      · exact fun γ => ⟨rfl, fun w' h => ex_load6 h 3 rfl rfl rfl rfl⟩
      refine AllOk.cons ?_ ?_
      · exact fun γ => ⟨rfl, fun w' _ => ex_zero6 rfl⟩
      refine AllOk.cons ?_ ?_
      · exact fun γ => ⟨rfl, fun w' _ => exec_neq6 e0 rfl rfl rfl⟩
      exact trivial
    intro γ w6 l hM hl
    have M6 : Mm w6 [(γ4_1, cells6 y), (γ3_0, cells6 x), (γ2_4, cells6 r), (γ2_5, cells6 s), (γ1_0, cells6 n), (γ1_1, cells6 a), (γ1_2, zero6)] := H5.out.1.grow hM (Nat.le_refl _) hl [] rfl (by decide)
    have B6 : Below w.heap.size w w6 := H5.out.2.trans (hM.below.mono H5.out.2.size)
    clear hM hl l H5
    clear γ
    have H6 : Hid (_ ∧ _) := ⟨M6, B6⟩
    clear M6 B6
    refine rest_at (l := []) rfl ?_
    refine rest_nil ?_
    refine then_normal ?_
    refine wp_cond_true rfl ?_
    refine wp_skip ?_
    refine then_normal ?_
    refine wp_block ?_
    refine wp_seq ?_
    refine walk_seq 12 [.quiet (N r), .quiet (N s), .call (.tuple #[N q, N t, .int .i64 0]), .quiet (.tuple #[N q, N t, .int .i64 0]), .quiet (N q), .quiet (N t), .quiet (.int .i64 0), .made zero6 24, .made zero6 24, .laid 7 zero6 (cells6 q), .laid 8 zero6 (cells6 t), .quiet (.int .i64 0)] (fun w' => Mm w' [(γ4_1, cells6 y), (γ3_0, cells6 x), (γ2_4, cells6 r), (γ2_5, cells6 s), (γ1_0, cells6 n), (γ1_1, cells6 a), (γ1_2, zero6)]) ?pre6 ?F6 ?hpre6 (fun γ => ?hF6) (by kernel_rfl) ?hL6 ?hS6 ?ho6 ?he6
    case hpre6 =>
      simp only [List.take_succ_cons, List.take_zero]
      exact rfl
    case hF6 =>
      simp only [fill, Kind.val, Act.put, List.setIfInBounds_toArray, List.set_cons_zero, List.set_cons_succ]
      exact rfl
    case hL6 => exact ⟨⟨_, rfl⟩, ⟨_, rfl⟩, trivial⟩
    case hS6 => exact fun w' hb => H6.out.1.below hb
    case ho6 =>
      refine AllOk.cons ?_ ?_
      · exact fun γ => ⟨rfl, fun w' h => ex_load6 h 2 rfl rfl rfl rfl⟩
      refine AllOk.cons ?_ ?_
      · exact fun γ => ⟨rfl, fun w' h => ex_load6 h 3 rfl rfl rfl rfl⟩
      refine AllOk.cons ?_ ?_
      · exact fun γ => ⟨rfl, fun w' h => ⟨42, #[N r, N s], exec_call rfl call42 rfl (by simp only [List.map_toArray, List.map_cons, List.map_nil]; rfl), CV.out w'⟩⟩
      refine AllOk.cons ?_ ?_
      · exact fun γ => ⟨rfl, fun w' _ => rfl⟩
      refine AllOk.cons ?_ ?_
      · (refine fun γ => ⟨rfl, fun w' h => ?_⟩; clear h; go_simp)
      refine AllOk.cons ?_ ?_
      · (refine fun γ => ⟨rfl, fun w' h => ?_⟩; clear h; go_simp)
      refine AllOk.cons ?_ ?_
      · (refine fun γ => ⟨rfl, fun w' h => ?_⟩; clear h; go_simp)
      refine AllOk.cons ?_ ?_
      · exact fun γ => ⟨rfl, fun w' => exec_made6 rfl⟩
      refine AllOk.cons ?_ ?_
      · exact fun γ => ⟨rfl, fun w' => exec_made6 rfl⟩
      refine AllOk.cons ?_ ?_
      · exact fun γ => ⟨rfl, rfl, rfl, fun w' h => exec_laid6 h rfl rfl rfl⟩
      refine AllOk.cons ?_ ?_
      · exact fun γ => ⟨rfl, rfl, rfl, fun w' h => exec_laid6 h rfl rfl rfl⟩
      refine AllOk.cons ?_ ?_
      · exact fun γ => ⟨rfl, fun w' _ => rfl⟩
      exact trivial
    intro γ w7 l hM hl
    have M7 : Mm w7 [(γ 7, cells6 q), (γ 8, cells6 t), (γ4_1, cells6 y), (γ3_0, cells6 x), (γ2_4, cells6 r), (γ2_5, cells6 s), (γ1_0, cells6 n), (γ1_1, cells6 a), (γ1_2, zero6)] := H6.out.1.grow hM (Nat.le_refl _) hl [7, 8] rfl (by decide)
    have B7 : Below w.heap.size w w7 := H6.out.2.trans (hM.below.mono H6.out.2.size)
    have o6_7 : Hid (w.heap.size ≤ γ 7) := Nat.le_trans H6.out.2.size (hM.fin (Nat.le_refl _) hl (i := 7) rfl).2.1
    have o6_8 : Hid (w.heap.size ≤ γ 8) := Nat.le_trans H6.out.2.size (hM.fin (Nat.le_refl _) hl (i := 8) rfl).2.1
    clear hM hl l H6
    generalize γ 7 = γ6_7 at M7 o6_7 ⊢
    generalize γ 8 = γ6_8 at M7 o6_8 ⊢
    clear γ
    have H7 : Hid (_ ∧ _) := ⟨M7, B7⟩
    clear M7 B7
    refine rest_at (l := []) rfl ?_
    refine rest_nil ?_
    refine then_normal ?_
    refine wp_seq ?_
    refine walk_put2 (by kernel_rfl) 8 [] [.quiet (N y), .quiet (N n), .quiet (N x), .quiet (N n), .quiet (N q), .quiet (N y), .call (N p), .call (N u)] (fun w' => Mm w' [(γ6_7, cells6 q), (γ6_8, cells6 t), (γ4_1, cells6 y), (γ3_0, cells6 x), (γ2_4, cells6 r), (γ2_5, cells6 s), (γ1_0, cells6 n), (γ1_1, cells6 a), (γ1_2, zero6)]) ?pre7 ?F7 _ ?hpre7 (fun γ => ?hF7) (by kernel_rfl) rfl ?hL7 ?hS7 ?ho7 ?hla7 ?he7
    case hpre7 =>
      simp only [List.take_succ_cons, List.take_zero]
      exact rfl
    case hF7 =>
      simp only [fill, Kind.val, Act.put, List.setIfInBounds_toArray, List.set_cons_zero, List.set_cons_succ]
      exact rfl
    case hL7 => exact trivial
    case hS7 => exact fun w' hb => H7.out.1.below hb
    case ho7 =>
      refine AllOk.cons ?_ ?_
      · exact fun γ => ⟨rfl, fun w' h => ex_load6 h 2 rfl rfl rfl rfl⟩
      refine AllOk.cons ?_ ?_
      · exact fun γ => ⟨rfl, fun w' h => ex_load6 h 6 rfl rfl rfl rfl⟩
      refine AllOk.cons ?_ ?_
      · exact fun γ => ⟨rfl, fun w' h => ex_load6 h 3 rfl rfl rfl rfl⟩
      refine AllOk.cons ?_ ?_
      · exact fun γ => ⟨rfl, fun w' h => ex_load6 h 6 rfl rfl rfl rfl⟩
      refine AllOk.cons ?_ ?_
      · exact fun γ => ⟨rfl, fun w' h => ex_load6 h 0 rfl rfl rfl rfl⟩
      refine AllOk.cons ?_ ?_
      · exact fun γ => ⟨rfl, fun w' h => ex_load6 h 2 rfl rfl rfl rfl⟩
      refine AllOk.cons ?_ ?_
      · exact fun γ => ⟨rfl, fun w' h => ⟨22, #[N n, N q, N y], exec_call rfl call22 rfl (by simp only [List.map_toArray, List.map_cons, List.map_nil]; rfl), CM.out w'⟩⟩
      refine AllOk.cons ?_ ?_
      · exact fun γ => ⟨rfl, fun w' h => ⟨18, #[N n, N x, N p], exec_call rfl call18 rfl (by simp only [List.map_toArray, List.map_cons, List.map_nil]; rfl), CS.out w'⟩⟩
      exact trivial
    case hla7 => exact rfl
    intro γ w8 l hM hl
    have M8 : Mm w8 [(γ6_7, cells6 q), (γ6_8, cells6 t), (γ4_1, cells6 y), (γ3_0, cells6 x), (γ2_4, cells6 r), (γ2_5, cells6 s), (γ1_0, cells6 n), (γ1_1, cells6 a), (γ1_2, zero6)] := H7.out.1.grow hM (Nat.le_refl _) hl [] rfl (by decide)
    have B8 : Below w.heap.size w w8 := H7.out.2.trans (hM.below.mono H7.out.2.size)
    clear hM hl l H7
    clear γ
    have H8 : Hid (_ ∧ _) := ⟨M8, B8⟩
    clear M8 B8
    have H9 : Hid (Mm (w8.setCells γ3_0 0 (cells6 y)) [(γ6_7, cells6 q), (γ6_8, cells6 t), (γ4_1, cells6 y), (γ3_0, cells6 y), (γ2_4, cells6 r), (γ2_5, cells6 s), (γ1_0, cells6 n), (γ1_1, cells6 a), (γ1_2, zero6)] ∧ Below w.heap.size w (w8.setCells γ3_0 0 (cells6 y))) := ⟨H8.out.1.put 3 (off := 0) (vs := cells6 y) rfl (Nat.le_of_ble_eq_true rfl), below_setCells _ o3_0.out _ _ _ H8.out.2⟩
    refine ⟨_, ex_store6 H8.out.1 3 rfl rfl rfl rfl (Nat.le_of_ble_eq_true rfl), trivial, ?_⟩
    clear H8
    generalize hgw : World.setCells _ _ _ _ = w9 at H9 ⊢
    clear hgw
    refine rest_at (l := [9]) rfl ?_
    refine rest_store rfl rfl rfl (ex_store6 H9.out.1 2 rfl rfl rfl rfl (Nat.le_of_ble_eq_true rfl)) ?_
    have H10 : Hid (Mm (w9.setCells γ4_1 0 (cells6 u)) [(γ6_7, cells6 q), (γ6_8, cells6 t), (γ4_1, cells6 u), (γ3_0, cells6 y), (γ2_4, cells6 r), (γ2_5, cells6 s), (γ1_0, cells6 n), (γ1_1, cells6 a), (γ1_2, zero6)] ∧ Below w.heap.size w (w9.setCells γ4_1 0 (cells6 u))) := ⟨H9.out.1.put 2 (off := 0) (vs := cells6 u) rfl (Nat.le_of_ble_eq_true rfl), below_setCells _ o4_1.out _ _ _ H9.out.2⟩
    clear H9
    generalize hgw : World.setCells _ _ _ _ = w10 at H10 ⊢
    clear hgw
    refine rest_nil ?_
    refine then_normal ?_
    refine walk_put2 (by kernel_rfl) 2 [1] [.quiet (N s), .quiet (N t)] (fun w' => Mm w' [(γ6_7, cells6 q), (γ6_8, cells6 t), (γ4_1, cells6 u), (γ3_0, cells6 y), (γ2_4, cells6 r), (γ2_5, cells6 s), (γ1_0, cells6 n), (γ1_1, cells6 a), (γ1_2, zero6)]) ?pre8 ?F8 _ ?hpre8 (fun γ => ?hF8) (by kernel_rfl) rfl ?hL8 ?hS8 ?ho8 ?hla8 ?he8
    case hpre8 =>
      simp only [List.take_succ_cons, List.take_zero]
      exact rfl
    case hF8 =>
      simp only [fill, Kind.val, Act.put, List.setIfInBounds_toArray, List.set_cons_zero, List.set_cons_succ]
      exact rfl
    case hL8 => exact trivial
    case hS8 => exact fun w' hb => H10.out.1.below hb
    case ho8 =>
      refine AllOk.cons ?_ ?_
      · exact fun γ => ⟨rfl, fun w' h => ex_load6 h 5 rfl rfl rfl rfl⟩
      refine AllOk.cons ?_ ?_
      · exact fun γ => ⟨rfl, fun w' h => ex_load6 h 1 rfl rfl rfl rfl⟩
      exact trivial
    case hla8 => exact rfl
    intro γ w11 l hM hl
    have M11 : Mm w11 [(γ6_7, cells6 q), (γ6_8, cells6 t), (γ4_1, cells6 u), (γ3_0, cells6 y), (γ2_4, cells6 r), (γ2_5, cells6 s), (γ1_0, cells6 n), (γ1_1, cells6 a), (γ1_2, zero6)] := H10.out.1.grow hM (Nat.le_refl _) hl [] rfl (by decide)
    have B11 : Below w.heap.size w w11 := H10.out.2.trans (hM.below.mono H10.out.2.size)
    clear hM hl l H10
    clear γ
    have H11 : Hid (_ ∧ _) := ⟨M11, B11⟩
    clear M11 B11
    have H12 : Hid (Mm (w11.setCells γ2_4 0 (cells6 s)) [(γ6_7, cells6 q), (γ6_8, cells6 t), (γ4_1, cells6 u), (γ3_0, cells6 y), (γ2_4, cells6 s), (γ2_5, cells6 s), (γ1_0, cells6 n), (γ1_1, cells6 a), (γ1_2, zero6)] ∧ Below w.heap.size w (w11.setCells γ2_4 0 (cells6 s))) := ⟨H11.out.1.put 4 (off := 0) (vs := cells6 s) rfl (Nat.le_of_ble_eq_true rfl), below_setCells _ o2_4.out _ _ _ H11.out.2⟩
    refine ⟨_, ex_store6 H11.out.1 4 rfl rfl rfl rfl (Nat.le_of_ble_eq_true rfl), ⟨⟨_, _, rfl, rfl, rfl, ex_load6 H12.out.1 1 rfl rfl rfl rfl⟩, trivial⟩, ?_⟩
    clear H11
    generalize hgw : World.setCells _ _ _ _ = w12 at H12 ⊢
    clear hgw
    refine rest_at (l := [3]) rfl ?_
    refine rest_store rfl rfl rfl (ex_store6 H12.out.1 5 rfl rfl rfl rfl (Nat.le_of_ble_eq_true rfl)) ?_
    have H13 : Hid (Mm (w12.setCells γ2_5 0 (cells6 t)) [(γ6_7, cells6 q), (γ6_8, cells6 t), (γ4_1, cells6 u), (γ3_0, cells6 y), (γ2_4, cells6 s), (γ2_5, cells6 t), (γ1_0, cells6 n), (γ1_1, cells6 a), (γ1_2, zero6)] ∧ Below w.heap.size w (w12.setCells γ2_5 0 (cells6 t))) := ⟨H12.out.1.put 5 (off := 0) (vs := cells6 t) rfl (Nat.le_of_ble_eq_true rfl), below_setCells _ o2_5.out _ _ _ H12.out.2⟩
    clear H12
    generalize hgw : World.setCells _ _ _ _ = w13 at H13 ⊢
    clear hgw
    refine rest_nil ?_
    refine block_normal ?_
    refine then_normal ?_
    exact ⟨⟨s, t, y, u⟩, ⟨(slotfn [undef, undef, undef, undef, undef, undef, undef, undef, undef, undef, PT γ6_7 0, PT γ6_8 0, .int .i64 0, undef, undef, undef, undef, undef, N s, N 0, .bool true, .tuple #[N q, N t, .int .i64 0], N r, N s, .tuple #[N q, N t, .int .i64 0], N q, N t, .int .i64 0, N y, N n, N x, N n, N q, N y, N p, N u, N s, N t]), rfl, ⟨H13.out.1.tail.tail, H13.out.2⟩, HN.out⟩, HS.out⟩
  obtain ⟨r, s, x, y⟩ := z
  have hE : RI n a r s x y := hk0
  have hs : s = 0 := Classical.byContradiction hlt
  have e0 := fun w => run_eqN s 0 (by rw [hs]; exact big_pos) big_pos w
  rw [decide_eq_true hs] at e0
  have hrg : r = Nat.gcd n a := by have h1 := hE.gcd; rwa [hs, Nat.gcd_zero_right] at h1
  have e9 := fun w => run_eqN r k1 (by have := hE.rn; have := ok.big; omega) (by rw [HK.out]; exact small_big 1 (by decide)) w
  rw [decide_eq_true (by rw [HK.out, hrg]; exact hg)] at e9
  have HX : Hid (x < n ∧ x * a % n = 1) := hE.last ok (by rw [hrg]; exact hg)
  clear hE hk0 hlt hs hrg
  refine wp_seq ?_
  refine wp_seq ?_
  refine walk_seq 3 [.quiet (N s), .quiet (N 0), .quiet (.bool false)] (fun w' => Mm w' [(γ4_1, cells6 y), (γ3_0, cells6 x), (γ2_4, cells6 r), (γ2_5, cells6 s), (γ1_0, cells6 n), (γ1_1, cells6 a), (γ1_2, zero6)]) ?pre9 ?F9 ?hpre9 (fun γ => ?hF9) (by kernel_rfl) ?hL9 ?hS9 ?ho9 ?he9
  case hpre9 =>
    simp only [List.take_succ_cons, List.take_zero]
    exact rfl
  case hF9 =>
    simp only [fill, Kind.val, Act.put, List.setIfInBounds_toArray, List.set_cons_zero, List.set_cons_succ]
    exact rfl
  case hL9 => exact trivial
  case hS9 => exact fun w' hb => H5.out.1.below hb
  case ho9 =>
    refine AllOk.cons ?_ ?_
    · exact fun γ => ⟨rfl, fun w' h => ex_load6 h 3 rfl rfl rfl rfl⟩
    refine AllOk.cons ?_ ?_
    · exact fun γ => ⟨rfl, fun w' _ => ex_zero6 rfl⟩
    refine AllOk.cons ?_ ?_
    · exact fun γ => ⟨rfl, fun w' _ => exec_neq6 e0 rfl rfl rfl⟩
    exact trivial
  intro γ w14 l hM hl
  have M14 : Mm w14 [(γ4_1, cells6 y), (γ3_0, cells6 x), (γ2_4, cells6 r), (γ2_5, cells6 s), (γ1_0, cells6 n), (γ1_1, cells6 a), (γ1_2, zero6)] := H5.out.1.grow hM (Nat.le_refl _) hl [] rfl (by decide)
  have B14 : Below w.heap.size w w14 := H5.out.2.trans (hM.below.mono H5.out.2.size)
  clear hM hl l H5
  clear γ
  have H14 : Hid (_ ∧ _) := ⟨M14, B14⟩
  clear M14 B14
  refine rest_at (l := []) rfl ?_
  refine rest_nil ?_
  refine then_normal ?_
  refine wp_cond_false rfl ?_
  refine wp_exit ?_
  repeat refine then_exit ?_
  refine block_exit ?_
  refine then_normal ?_
  refine wp_seq ?_
  refine wp_seq ?_
  refine walk_seq 3 [.quiet (N r), .quiet (N k1), .quiet (.bool false)] (fun w' => Mm w' [(γ4_1, cells6 y), (γ3_0, cells6 x), (γ2_4, cells6 r), (γ2_5, cells6 s), (γ1_0, cells6 n), (γ1_1, cells6 a), (γ1_2, zero6)]) ?pre10 ?F10 ?hpre10 (fun γ => ?hF10) (by kernel_rfl) ?hL10 ?hS10 ?ho10 ?he10
  case hpre10 =>
    simp only [List.take_succ_cons, List.take_zero]
    exact rfl
  case hF10 =>
    simp only [fill, Kind.val, Act.put, List.setIfInBounds_toArray, List.set_cons_zero, List.set_cons_succ]
    exact rfl
  case hL10 => exact trivial
  case hS10 => exact fun w' hb => H14.out.1.below hb
  case ho10 =>
    refine AllOk.cons ?_ ?_
    · exact fun γ => ⟨rfl, fun w' h => ex_load6 h 2 rfl rfl rfl rfl⟩
    refine AllOk.cons ?_ ?_
    · exact fun γ => ⟨rfl, fun w' _ => ex_build1' HK.out rfl rfl⟩
    refine AllOk.cons ?_ ?_
    · exact fun γ => ⟨rfl, fun w' _ => exec_neq6 e9 rfl rfl rfl⟩
    exact trivial
  intro γ w15 l hM hl
  have M15 : Mm w15 [(γ4_1, cells6 y), (γ3_0, cells6 x), (γ2_4, cells6 r), (γ2_5, cells6 s), (γ1_0, cells6 n), (γ1_1, cells6 a), (γ1_2, zero6)] := H14.out.1.grow hM (Nat.le_refl _) hl [] rfl (by decide)
  have B15 : Below w.heap.size w w15 := H14.out.2.trans (hM.below.mono H14.out.2.size)
  clear hM hl l H14
  clear γ
  have H15 : Hid (_ ∧ _) := ⟨M15, B15⟩
  clear M15 B15
  refine rest_at (l := []) rfl ?_
  refine rest_nil ?_
  refine then_normal ?_
  refine wp_cond_false rfl ?_
  refine wp_skip ?_
  refine then_normal ?_
  refine wp_seq ?_
  refine walk_seq 1 [.quiet (N x)] (fun w' => Mm w' [(γ4_1, cells6 y), (γ3_0, cells6 x), (γ2_4, cells6 r), (γ2_5, cells6 s), (γ1_0, cells6 n), (γ1_1, cells6 a), (γ1_2, zero6)]) ?pre11 ?F11 ?hpre11 (fun γ => ?hF11) (by kernel_rfl) ?hL11 ?hS11 ?ho11 ?he11
  case hpre11 =>
    simp only [List.take_succ_cons, List.take_zero]
    exact rfl
  case hF11 =>
    simp only [fill, Kind.val, Act.put, List.setIfInBounds_toArray, List.set_cons_zero, List.set_cons_succ]
    exact rfl
  case hL11 => exact trivial
  case hS11 => exact fun w' hb => H15.out.1.below hb
  case ho11 =>
    refine AllOk.cons ?_ ?_
    · exact fun γ => ⟨rfl, fun w' h => ex_load6 h 1 rfl rfl rfl rfl⟩
    exact trivial
  intro γ w16 l hM hl
  have M16 : Mm w16 [(γ4_1, cells6 y), (γ3_0, cells6 x), (γ2_4, cells6 r), (γ2_5, cells6 s), (γ1_0, cells6 n), (γ1_1, cells6 a), (γ1_2, zero6)] := H15.out.1.grow hM (Nat.le_refl _) hl [] rfl (by decide)
  have B16 : Below w.heap.size w w16 := H15.out.2.trans (hM.below.mono H15.out.2.size)
  clear hM hl l H15
  clear γ
  have H16 : Hid (_ ∧ _) := ⟨M16, B16⟩
  clear M16 B16
  refine rest_at (l := [1, 2]) rfl ?_
  refine rest_store rfl rfl rfl (ex_store6 H16.out.1 6 rfl rfl rfl rfl (Nat.le_of_ble_eq_true rfl)) ?_
  have H17 : Hid (Mm (w16.setCells γ1_2 0 (cells6 x)) [(γ4_1, cells6 y), (γ3_0, cells6 x), (γ2_4, cells6 r), (γ2_5, cells6 s), (γ1_0, cells6 n), (γ1_1, cells6 a), (γ1_2, cells6 x)] ∧ Below w.heap.size w (w16.setCells γ1_2 0 (cells6 x))) := ⟨H16.out.1.put 6 (off := 0) (vs := cells6 x) rfl (Nat.le_of_ble_eq_true rfl), below_setCells _ o1_2.out _ _ _ H16.out.2⟩
  clear H16
  generalize hgw : World.setCells _ _ _ _ = w17 at H17 ⊢
  clear hgw
  refine rest_set (d := 5) rfl rfl rfl rfl ?_
  simp only [Act.put, List.setIfInBounds_toArray, List.set_cons_zero, List.set_cons_succ]
  refine rest_nil ?_
  refine then_normal ?_
  refine wp_ret ?_
  repeat (first | refine then_ret ?_ | refine block_ret ?_)
  have c0 := H17.out.1.get 6 rfl 0 rfl
  have c1 := H17.out.1.get 6 rfl 1 rfl
  have c2 := H17.out.1.get 6 rfl 2 rfl
  have c3 := H17.out.1.get 6 rfl 3 rfl
  have c4 := H17.out.1.get 6 rfl 4 rfl
  have c5 := H17.out.1.get 6 rfl 5 rfl
  refine bodyPost_ret (v := .tuple #[N x, .int .i64 0]) (by simp [results, Tryd.results24, go_sem, *]) rfl ?_
  exact ⟨_, rfl, HX.out.1, HX.out.2, H17.out.2⟩
set_option maxHeartbeats 4000000 in
set_option maxRecDepth 100000 in
theorem rinv_bad {n a : Nat} (ok : Ok n) (sa0 z0 k1 : Nat) (hs0 : sa0 = a % n) (hz0 : z0 = 0) (hk1 : k1 = 1) (hg : Nat.gcd n a ≠ 1)
    (cr : ∀ w, Calls Tryd.prog 12 #[N n, N a] w fun e w' => e = .returned (N sa0) ∧ Below w.heap.size w w')
    (cd : ∀ r s, r ≤ n → s ≤ n → s ≠ 0 → ∀ w, Calls Tryd.prog 42 #[N r, N s] w fun e w' => e = .returned (.tuple #[N (r / s), N (r % s), .int .i64 0]) ∧ Below w.heap.size w w')
    (cp : ∀ p q, p ≤ n → q ≤ n → ∀ w, Calls Tryd.prog 22 #[N n, N p, N q] w fun e w' => e = .returned (N (p * q % n)) ∧ Below w.heap.size w w')
    (cq : ∀ p q, p ≤ n → q ≤ n → ∀ w, Calls Tryd.prog 18 #[N n, N p, N q] w fun e w' => e = .returned (N (subm n p q)) ∧ Below w.heap.size w w') (w : World) :
    Calls Tryd.prog 24 #[N n, N a] w fun e w' => e = .returned (.tuple #[N 0, .int .i64 6]) ∧ Below w.heap.size w w' := by
  have H0 : Hid (_ ∧ _) := ⟨Mm.nil w, Below.refl w.heap.size w⟩
  have CR : Hid _ := cr
  have CD : Hid _ := cd
  have CP : Hid _ := cp
  have CQ : Hid _ := cq
  have HR : Hid _ := hs0
  have HZ0 : Hid _ := hz0
  have HK : Hid _ := hk1
  have ZZ : Hid (zero6 = cells6 z0) := (by rw [hz0]; exact cells_zero.symm : zero6 = cells6 z0)
  clear cr cd cp cq hs0 hz0 hk1
  go_enter Tryd.func24, Tryd.ntmps24
  refine wp_seq ?_
  refine walk_seq 4 [.made (cells6 n) 24, .made (cells6 a) 24, .made zero6 24, .quiet (.int .i64 0)] (fun w' => Mm w' []) ?pre1 ?F1 ?hpre1 (fun γ => ?hF1) (by kernel_rfl) ?hL1 ?hS1 ?ho1 ?he1
  case hpre1 =>
    simp only [List.take_succ_cons, List.take_zero]
    exact rfl
  case hF1 =>
    simp only [fill, Kind.val, Act.put, List.setIfInBounds_toArray, List.set_cons_zero, List.set_cons_succ]
    exact rfl
  case hL1 => exact trivial
  case hS1 => exact fun w' hb => H0.out.1.below hb
  case ho1 =>
    refine AllOk.cons ?_ ?_
    · exact fun γ => ⟨rfl, fun w' => ex_box6 rfl rfl⟩
    refine AllOk.cons ?_ ?_
    · exact fun γ => ⟨rfl, fun w' => ex_box6 rfl rfl⟩
    refine AllOk.cons ?_ ?_
    · exact fun γ => ⟨rfl, fun w' => exec_made6 rfl⟩
    refine AllOk.cons ?_ ?_
    · exact fun γ => ⟨rfl, fun w' _ => rfl⟩
    exact trivial
  intro γ w1 l hM hl
  have M1 : Mm w1 [(γ 0, cells6 n), (γ 1, cells6 a), (γ 2, zero6)] := H0.out.1.grow hM (Nat.le_refl _) hl [0, 1, 2] rfl (by decide)
  have B1 : Below w.heap.size w w1 := H0.out.2.trans (hM.below.mono H0.out.2.size)
  have o1_0 : Hid (w.heap.size ≤ γ 0) := Nat.le_trans H0.out.2.size (hM.fin (Nat.le_refl _) hl (i := 0) rfl).2.1
  have o1_1 : Hid (w.heap.size ≤ γ 1) := Nat.le_trans H0.out.2.size (hM.fin (Nat.le_refl _) hl (i := 1) rfl).2.1
  have o1_2 : Hid (w.heap.size ≤ γ 2) := Nat.le_trans H0.out.2.size (hM.fin (Nat.le_refl _) hl (i := 2) rfl).2.1
  clear hM hl l
  generalize γ 0 = γ1_0 at M1 o1_0 ⊢
  generalize γ 1 = γ1_1 at M1 o1_1 ⊢
  generalize γ 2 = γ1_2 at M1 o1_2 ⊢
  clear γ
  have H1 : Hid (_ ∧ _) := ⟨M1, B1⟩
  clear M1 B1
  refine rest_at (l := []) rfl ?_
  refine rest_nil ?_
  refine then_normal ?_
  refine wp_seq ?_
  refine walk_any (by kernel_rfl) 8 [.quiet (N n), .quiet (N n), .quiet (N a), .call (N sa0), .made zero6 24, .made zero6 24, .laid 4 zero6 (cells6 n), .laid 5 zero6 (cells6 sa0)] (fun w' => Mm w' [(γ1_0, cells6 n), (γ1_1, cells6 a), (γ1_2, zero6)]) ?pre2 ?F2 ?hpre2 (fun γ => ?hF2) (by kernel_rfl) ?hL2 ?hS2 ?ho2 ?he2
  case hpre2 =>
    simp only [List.take_succ_cons, List.take_zero]
    exact rfl
  case hF2 =>
    simp only [fill, Kind.val, Act.put, List.setIfInBounds_toArray, List.set_cons_zero, List.set_cons_succ]
    exact rfl
  case hL2 => exact ⟨⟨_, rfl⟩, ⟨_, rfl⟩, trivial⟩
  case hS2 => exact fun w' hb => H1.out.1.below hb
  case ho2 =>
    refine AllOk.cons ?_ ?_
    · exact fun γ => ⟨rfl, fun w' h => ex_load6 h 0 rfl rfl rfl rfl⟩
    refine AllOk.cons ?_ ?_
    · exact fun γ => ⟨rfl, fun w' h => ex_load6 h 0 rfl rfl rfl rfl⟩
    refine AllOk.cons ?_ ?_
    · exact fun γ => ⟨rfl, fun w' h => ex_load6 h 1 rfl rfl rfl rfl⟩
    refine AllOk.cons ?_ ?_
    · exact fun γ => ⟨rfl, fun w' h => ⟨12, #[N n, N a], exec_call rfl call12 rfl (by simp only [List.map_toArray, List.map_cons, List.map_nil]; rfl), CR.out w'⟩⟩
    refine AllOk.cons ?_ ?_
    · exact fun γ => ⟨rfl, fun w' => exec_made6 rfl⟩
    refine AllOk.cons ?_ ?_
    · exact fun γ => ⟨rfl, fun w' => exec_made6 rfl⟩
    refine AllOk.cons ?_ ?_
    · exact fun γ => ⟨rfl, rfl, rfl, fun w' h => exec_laid6 h rfl rfl rfl⟩
    refine AllOk.cons ?_ ?_
    · exact fun γ => ⟨rfl, rfl, rfl, fun w' h => exec_laid6 h rfl rfl rfl⟩
    exact trivial
  intro γ w2 l hM hl
  have M2 : Mm w2 [(γ 4, cells6 n), (γ 5, cells6 sa0), (γ1_0, cells6 n), (γ1_1, cells6 a), (γ1_2, zero6)] := H1.out.1.grow hM (Nat.le_refl _) hl [4, 5] rfl (by decide)
  have B2 : Below w.heap.size w w2 := H1.out.2.trans (hM.below.mono H1.out.2.size)
  have o2_4 : Hid (w.heap.size ≤ γ 4) := Nat.le_trans H1.out.2.size (hM.fin (Nat.le_refl _) hl (i := 4) rfl).2.1
  have o2_5 : Hid (w.heap.size ≤ γ 5) := Nat.le_trans H1.out.2.size (hM.fin (Nat.le_refl _) hl (i := 5) rfl).2.1
  clear hM hl l H1
  generalize γ 4 = γ2_4 at M2 o2_4 ⊢
  generalize γ 5 = γ2_5 at M2 o2_5 ⊢
  clear γ
  have H2 : Hid (_ ∧ _) := ⟨M2, B2⟩
  clear M2 B2
  refine rest_at (l := []) rfl ?_
  refine rest_nil ?_
  refine then_normal ?_
  refine wp_seq ?_
  refine walk_seq 1 [.made zero6 24] (fun w' => Mm w' [(γ2_4, cells6 n), (γ2_5, cells6 sa0), (γ1_0, cells6 n), (γ1_1, cells6 a), (γ1_2, zero6)]) ?pre3 ?F3 ?hpre3 (fun γ => ?hF3) (by kernel_rfl) ?hL3 ?hS3 ?ho3 ?he3
  case hpre3 =>
    simp only [List.take_succ_cons, List.take_zero]
    exact rfl
  case hF3 =>
    simp only [fill, Kind.val, Act.put, List.setIfInBounds_toArray, List.set_cons_zero, List.set_cons_succ]
    exact rfl
  case hL3 => exact trivial
  case hS3 => exact fun w' hb => H2.out.1.below hb
  case ho3 =>
    refine AllOk.cons ?_ ?_
    · exact fun γ => ⟨rfl, fun w' => exec_made6 rfl⟩
    exact trivial
  intro γ w3 l hM hl
  have M3 : Mm w3 [(γ 0, zero6), (γ2_4, cells6 n), (γ2_5, cells6 sa0), (γ1_0, cells6 n), (γ1_1, cells6 a), (γ1_2, zero6)] := H2.out.1.grow hM (Nat.le_refl _) hl [0] rfl (by decide)
  have B3 : Below w.heap.size w w3 := H2.out.2.trans (hM.below.mono H2.out.2.size)
  have o3_0 : Hid (w.heap.size ≤ γ 0) := Nat.le_trans H2.out.2.size (hM.fin (Nat.le_refl _) hl (i := 0) rfl).2.1
  clear hM hl l H2
  generalize γ 0 = γ3_0 at M3 o3_0 ⊢
  clear γ
  have H3 : Hid (_ ∧ _) := ⟨M3, B3⟩
  clear M3 B3
  refine rest_at (l := []) rfl ?_
  refine rest_nil ?_
  refine then_normal ?_
  refine wp_seq ?_
  refine walk_seq 3 [.quiet (N k1), .made zero6 24, .laid 1 zero6 (cells6 k1)] (fun w' => Mm w' [(γ3_0, zero6), (γ2_4, cells6 n), (γ2_5, cells6 sa0), (γ1_0, cells6 n), (γ1_1, cells6 a), (γ1_2, zero6)]) ?pre4 ?F4 ?hpre4 (fun γ => ?hF4) (by kernel_rfl) ?hL4 ?hS4 ?ho4 ?he4
  case hpre4 =>
    simp only [List.take_succ_cons, List.take_zero]
    exact rfl
  case hF4 =>
    simp only [fill, Kind.val, Act.put, List.setIfInBounds_toArray, List.set_cons_zero, List.set_cons_succ]
    exact rfl
  case hL4 => exact ⟨⟨_, rfl⟩, trivial⟩
  case hS4 => exact fun w' hb => H3.out.1.below hb
  case ho4 =>
    refine AllOk.cons ?_ ?_
    · exact fun γ => ⟨rfl, fun w' _ => ex_build1' HK.out rfl rfl⟩
    refine AllOk.cons ?_ ?_
    · exact fun γ => ⟨rfl, fun w' => exec_made6 rfl⟩
    refine AllOk.cons ?_ ?_
    · exact fun γ => ⟨rfl, rfl, rfl, fun w' h => exec_laid6 h rfl rfl rfl⟩
    exact trivial
  intro γ w4 l hM hl
  have M4 : Mm w4 [(γ 1, cells6 k1), (γ3_0, zero6), (γ2_4, cells6 n), (γ2_5, cells6 sa0), (γ1_0, cells6 n), (γ1_1, cells6 a), (γ1_2, zero6)] := H3.out.1.grow hM (Nat.le_refl _) hl [1] rfl (by decide)
  have B4 : Below w.heap.size w w4 := H3.out.2.trans (hM.below.mono H3.out.2.size)
  have o4_1 : Hid (w.heap.size ≤ γ 1) := Nat.le_trans H3.out.2.size (hM.fin (Nat.le_refl _) hl (i := 1) rfl).2.1
  clear hM hl l H3
  generalize γ 1 = γ4_1 at M4 o4_1 ⊢
  clear γ
  have H4 : Hid (_ ∧ _) := ⟨M4, B4⟩
  clear M4 B4
  refine rest_at (l := []) rfl ?_
  refine rest_nil ?_
  refine then_normal ?_
  refine wp_seq ?_
  refine wp_block ?_
  refine loop_ghost (α := RS) (fun z a' w' => ∃ s0 : Nat → Value, a' = ⟨#[N n, N a, PT γ1_0 0, PT γ1_1 0, PT γ1_2 0, .int .i64 0, PT γ2_4 0, PT γ2_5 0, PT γ3_0 0, PT γ4_1 0, s0 10, s0 11, s0 12, N n, N n, N a, N sa0, N k1, s0 18, s0 19, s0 20, s0 21, s0 22, s0 23, s0 24, s0 25, s0 26, s0 27, s0 28, s0 29, s0 30, s0 31, s0 32, s0 33, s0 34, s0 35, s0 36, s0 37, undef, undef, undef, undef, undef], []⟩ ∧ (Mm w' [(γ4_1, cells6 z.y), (γ3_0, cells6 z.x), (γ2_4, cells6 z.r), (γ2_5, cells6 z.s), (γ1_0, cells6 n), (γ1_1, cells6 a), (γ1_2, zero6)] ∧ Below w.heap.size w w') ∧ RI n a z.r z.s z.x z.y) (fun z => z.s) ⟨n, sa0, z0, k1⟩ ?st0 ?rd0
  case st0 => exact ⟨(slotfn [undef, undef, undef, undef, undef, undef, undef, undef, undef, undef, undef, undef, undef, undef, undef, undef, undef, undef, undef, undef, undef, undef, undef, undef, undef, undef, undef, undef, undef, undef, undef, undef, undef, undef, undef, undef, undef, undef]), rfl, ⟨H4.out.1.at1 ZZ.out, H4.out.2⟩, by rw [HR.out, HZ0.out, HK.out]; exact RI.start ok⟩
  intro z a' w5 hI
  obtain ⟨s0, rfl, hMB, hk0⟩ := hI
  have H5 : Hid (_ ∧ _) := hMB
  clear hMB H4
  by_cases hlt : z.s ≠ 0
  · have hrd : True := trivial
    clear hrd
    obtain ⟨r, s, x, y⟩ := z
    have hE : RI n a r s x y := hk0
    have hs : s ≠ 0 := hlt
    have hbn := ok.big
    have e0 := fun w => run_eqN s 0 (by have := hE.sr; have := hE.rn; omega) big_pos w
    rw [decide_eq_false hs] at e0
    have cv : ∀ w, Calls Tryd.prog 42 #[N r, N s] w fun e w' => e = .returned (.tuple #[N (r / s), N (r % s), .int .i64 0]) ∧ Below w.heap.size w w' := CD.out r s hE.rn (by have := hE.sr; have := hE.rn; omega) hs
    have cm : ∀ w, Calls Tryd.prog 22 #[N n, N (r / s), N y] w fun e w' => e = .returned (N (r / s * y % n)) ∧ Below w.heap.size w w' := CP.out _ _ (Nat.le_trans (Nat.div_le_self _ _) hE.rn) (Nat.le_of_lt hE.yn)
    have cs : ∀ w, Calls Tryd.prog 18 #[N n, N x, N (r / s * y % n)] w fun e w' => e = .returned (N (subm n x (r / s * y % n))) ∧ Below w.heap.size w w' := CQ.out _ _ (Nat.le_of_lt hE.xn) (Nat.le_of_lt (Nat.mod_lt _ ok.pos))
    have HN : Hid _ := hE.next ok hs
    have HS : Hid (r % s < s) := Nat.mod_lt r (by omega)
    obtain ⟨q, hq⟩ : ∃ q, q = r / s := ⟨_, rfl⟩
    obtain ⟨t, ht⟩ : ∃ t, t = r % s := ⟨_, rfl⟩
    rw [← hq] at cv cm cs HN
    rw [← ht] at cv HN HS
    obtain ⟨p, hp⟩ : ∃ p, p = q * y % n := ⟨_, rfl⟩
    rw [← hp] at cm cs HN
    obtain ⟨u, hu⟩ : ∃ u, u = subm n x p := ⟨_, rfl⟩
    rw [← hu] at cs HN
    have CV : Hid _ := cv
    have CM : Hid _ := cm
    have CS : Hid _ := cs
    clear cv cm cs hE hk0 hq ht hp hu
    refine wp_seq ?_
    refine wp_seq ?_
    refine walk_seq 3 [.quiet (N s), .quiet (N 0), .quiet (.bool true)] (fun w' => Mm w' [(γ4_1, cells6 y), (γ3_0, cells6 x), (γ2_4, cells6 r), (γ2_5, cells6 s), (γ1_0, cells6 n), (γ1_1, cells6 a), (γ1_2, zero6)]) ?pre5 ?F5 ?hpre5 (fun γ => ?hF5) (by kernel_rfl) ?hL5 ?hS5 ?ho5 ?he5
    case hpre5 =>
      simp only [List.take_succ_cons, List.take_zero]
      exact rfl
    case hF5 =>
      simp only [fill, Kind.val, Act.put, List.setIfInBounds_toArray, List.set_cons_zero, List.set_cons_succ]
      exact rfl
    case hL5 => exact trivial
    case hS5 => exact fun w' hb => H5.out.1.below hb
    case ho5 =>
      refine AllOk.cons ?_ ?_
      · exact fun γ => ⟨rfl, fun w' h => ex_load6 h 3 rfl rfl rfl rfl⟩
      refine AllOk.cons ?_ ?_
      · exact fun γ => ⟨rfl, fun w' _ => ex_zero6 rfl⟩
      refine AllOk.cons ?_ ?_
      · exact fun γ => ⟨rfl, fun w' _ => exec_neq6 e0 rfl rfl rfl⟩
      exact trivial
    intro γ w6 l hM hl
    have M6 : Mm w6 [(γ4_1, cells6 y), (γ3_0, cells6 x), (γ2_4, cells6 r), (γ2_5, cells6 s), (γ1_0, cells6 n), (γ1_1, cells6 a), (γ1_2, zero6)] := H5.out.1.grow hM (Nat.le_refl _) hl [] rfl (by decide)
    have B6 : Below w.heap.size w w6 := H5.out.2.trans (hM.below.mono H5.out.2.size)
    clear hM hl l H5
    clear γ
    have H6 : Hid (_ ∧ _) := ⟨M6, B6⟩
    clear M6 B6
    refine rest_at (l := []) rfl ?_
    refine rest_nil ?_
    refine then_normal ?_
    refine wp_cond_true rfl ?_
    refine wp_skip ?_
    refine then_normal ?_
    refine wp_block ?_
    refine wp_seq ?_
    refine walk_seq 12 [.quiet (N r), .quiet (N s), .call (.tuple #[N q, N t, .int .i64 0]), .quiet (.tuple #[N q, N t, .int .i64 0]), .quiet (N q), .quiet (N t), .quiet (.int .i64 0), .made zero6 24, .made zero6 24, .laid 7 zero6 (cells6 q), .laid 8 zero6 (cells6 t), .quiet (.int .i64 0)] (fun w' => Mm w' [(γ4_1, cells6 y), (γ3_0, cells6 x), (γ2_4, cells6 r), (γ2_5, cells6 s), (γ1_0, cells6 n), (γ1_1, cells6 a), (γ1_2, zero6)]) ?pre6 ?F6 ?hpre6 (fun γ => ?hF6) (by kernel_rfl) ?hL6 ?hS6 ?ho6 ?he6
    case hpre6 =>
      simp only [List.take_succ_cons, List.take_zero]
      exact rfl
    case hF6 =>
      simp only [fill, Kind.val, Act.put, List.setIfInBounds_toArray, List.set_cons_zero, List.set_cons_succ]
      exact rfl
    case hL6 => exact ⟨⟨_, rfl⟩, ⟨_, rfl⟩, trivial⟩
    case hS6 => exact fun w' hb => H6.out.1.below hb
    case ho6 =>
      refine AllOk.cons ?_ ?_
      · exact fun γ => ⟨rfl, fun w' h => ex_load6 h 2 rfl rfl rfl rfl⟩
      refine AllOk.cons ?_ ?_
      · exact fun γ => ⟨rfl, fun w' h => ex_load6 h 3 rfl rfl rfl rfl⟩
      refine AllOk.cons ?_ ?_
      · exact fun γ => ⟨rfl, fun w' h => ⟨42, #[N r, N s], exec_call rfl call42 rfl (by simp only [List.map_toArray, List.map_cons, List.map_nil]; rfl), CV.out w'⟩⟩
      refine AllOk.cons ?_ ?_
      · exact fun γ => ⟨rfl, fun w' _ => rfl⟩
      refine AllOk.cons ?_ ?_
      · (refine fun γ => ⟨rfl, fun w' h => ?_⟩; clear h; go_simp)
      refine AllOk.cons ?_ ?_
      · (refine fun γ => ⟨rfl, fun w' h => ?_⟩; clear h; go_simp)
      refine AllOk.cons ?_ ?_
      · (refine fun γ => ⟨rfl, fun w' h => ?_⟩; clear h; go_simp)
      refine AllOk.cons ?_ ?_
      · exact fun γ => ⟨rfl, fun w' => exec_made6 rfl⟩
      refine AllOk.cons ?_ ?_
      · exact fun γ => ⟨rfl, fun w' => exec_made6 rfl⟩
      refine AllOk.cons ?_ ?_
      · exact fun γ => ⟨rfl, rfl, rfl, fun w' h => exec_laid6 h rfl rfl rfl⟩
      refine AllOk.cons ?_ ?_
      · exact fun γ => ⟨rfl, rfl, rfl, fun w' h => exec_laid6 h rfl rfl rfl⟩
      refine AllOk.cons ?_ ?_
      · exact fun γ => ⟨rfl, fun w' _ => rfl⟩
      exact trivial
    intro γ w7 l hM hl
    have M7 : Mm w7 [(γ 7, cells6 q), (γ 8, cells6 t), (γ4_1, cells6 y), (γ3_0, cells6 x), (γ2_4, cells6 r), (γ2_5, cells6 s), (γ1_0, cells6 n), (γ1_1, cells6 a), (γ1_2, zero6)] := H6.out.1.grow hM (Nat.le_refl _) hl [7, 8] rfl (by decide)
    have B7 : Below w.heap.size w w7 := H6.out.2.trans (hM.below.mono H6.out.2.size)
    have o6_7 : Hid (w.heap.size ≤ γ 7) := Nat.le_trans H6.out.2.size (hM.fin (Nat.le_refl _) hl (i := 7) rfl).2.1
    have o6_8 : Hid (w.heap.size ≤ γ 8) := Nat.le_trans H6.out.2.size (hM.fin (Nat.le_refl _) hl (i := 8) rfl).2.1
    clear hM hl l H6
    generalize γ 7 = γ6_7 at M7 o6_7 ⊢
    generalize γ 8 = γ6_8 at M7 o6_8 ⊢
    clear γ
    have H7 : Hid (_ ∧ _) := ⟨M7, B7⟩
    clear M7 B7
    refine rest_at (l := []) rfl ?_
    refine rest_nil ?_
    refine then_normal ?_
    refine wp_seq ?_
    refine walk_put2 (by kernel_rfl) 8 [] [.quiet (N y), .quiet (N n), .quiet (N x), .quiet (N n), .quiet (N q), .quiet (N y), .call (N p), .call (N u)] (fun w' => Mm w' [(γ6_7, cells6 q), (γ6_8, cells6 t), (γ4_1, cells6 y), (γ3_0, cells6 x), (γ2_4, cells6 r), (γ2_5, cells6 s), (γ1_0, cells6 n), (γ1_1, cells6 a), (γ1_2, zero6)]) ?pre7 ?F7 _ ?hpre7 (fun γ => ?hF7) (by kernel_rfl) rfl ?hL7 ?hS7 ?ho7 ?hla7 ?he7
    case hpre7 =>
      simp only [List.take_succ_cons, List.take_zero]
      exact rfl
    case hF7 =>
      simp only [fill, Kind.val, Act.put, List.setIfInBounds_toArray, List.set_cons_zero, List.set_cons_succ]
      exact rfl
    case hL7 => exact trivial
    case hS7 => exact fun w' hb => H7.out.1.below hb
    case ho7 =>
      refine AllOk.cons ?_ ?_
      · exact fun γ => ⟨rfl, fun w' h => ex_load6 h 2 rfl rfl rfl rfl⟩
      refine AllOk.cons ?_ ?_
      · exact fun γ => ⟨rfl, fun w' h => ex_load6 h 6 rfl rfl rfl rfl⟩
      refine AllOk.cons ?_ ?_
      · exact fun γ => ⟨rfl, fun w' h => ex_load6 h 3 rfl rfl rfl rfl⟩
      refine AllOk.cons ?_ ?_
      · exact fun γ => ⟨rfl, fun w' h => ex_load6 h 6 rfl rfl rfl rfl⟩
      refine AllOk.cons ?_ ?_
      · exact fun γ => ⟨rfl, fun w' h => ex_load6 h 0 rfl rfl rfl rfl⟩
      refine AllOk.cons ?_ ?_
      · exact fun γ => ⟨rfl, fun w' h => ex_load6 h 2 rfl rfl rfl rfl⟩
      refine AllOk.cons ?_ ?_
      · exact fun γ => ⟨rfl, fun w' h => ⟨22, #[N n, N q, N y], exec_call rfl call22 rfl (by simp only [List.map_toArray, List.map_cons, List.map_nil]; rfl), CM.out w'⟩⟩
      refine AllOk.cons ?_ ?_
      · exact fun γ => ⟨rfl, fun w' h => ⟨18, #[N n, N x, N p], exec_call rfl call18 rfl (by simp only [List.map_toArray, List.map_cons, List.map_nil]; rfl), CS.out w'⟩⟩
      exact trivial
    case hla7 => exact rfl
    intro γ w8 l hM hl
    have M8 : Mm w8 [(γ6_7, cells6 q), (γ6_8, cells6 t), (γ4_1, cells6 y), (γ3_0, cells6 x), (γ2_4, cells6 r), (γ2_5, cells6 s), (γ1_0, cells6 n), (γ1_1, cells6 a), (γ1_2, zero6)] := H7.out.1.grow hM (Nat.le_refl _) hl [] rfl (by decide)
    have B8 : Below w.heap.size w w8 := H7.out.2.trans (hM.below.mono H7.out.2.size)
    clear hM hl l H7
    clear γ
    have H8 : Hid (_ ∧ _) := ⟨M8, B8⟩
    clear M8 B8
    have H9 : Hid (Mm (w8.setCells γ3_0 0 (cells6 y)) [(γ6_7, cells6 q), (γ6_8, cells6 t), (γ4_1, cells6 y), (γ3_0, cells6 y), (γ2_4, cells6 r), (γ2_5, cells6 s), (γ1_0, cells6 n), (γ1_1, cells6 a), (γ1_2, zero6)] ∧ Below w.heap.size w (w8.setCells γ3_0 0 (cells6 y))) := ⟨H8.out.1.put 3 (off := 0) (vs := cells6 y) rfl (Nat.le_of_ble_eq_true rfl), below_setCells _ o3_0.out _ _ _ H8.out.2⟩
    refine ⟨_, ex_store6 H8.out.1 3 rfl rfl rfl rfl (Nat.le_of_ble_eq_true rfl), trivial, ?_⟩
    clear H8
    generalize hgw : World.setCells _ _ _ _ = w9 at H9 ⊢
    clear hgw
    refine rest_at (l := [9]) rfl ?_
    refine rest_store rfl rfl rfl (ex_store6 H9.out.1 2 rfl rfl rfl rfl (Nat.le_of_ble_eq_true rfl)) ?_
    have H10 : Hid (Mm (w9.setCells γ4_1 0 (cells6 u)) [(γ6_7, cells6 q), (γ6_8, cells6 t), (γ4_1, cells6 u), (γ3_0, cells6 y), (γ2_4, cells6 r), (γ2_5, cells6 s), (γ1_0, cells6 n), (γ1_1, cells6 a), (γ1_2, zero6)] ∧ Below w.heap.size w (w9.setCells γ4_1 0 (cells6 u))) := ⟨H9.out.1.put 2 (off := 0) (vs := cells6 u) rfl (Nat.le_of_ble_eq_true rfl), below_setCells _ o4_1.out _ _ _ H9.out.2⟩
    clear H9
    generalize hgw : World.setCells _ _ _ _ = w10 at H10 ⊢
    clear hgw
    refine rest_nil ?_
    refine then_normal ?_
    refine walk_put2 (by kernel_rfl) 2 [1] [.quiet (N s), .quiet (N t)] (fun w' => Mm w' [(γ6_7, cells6 q), (γ6_8, cells6 t), (γ4_1, cells6 u), (γ3_0, cells6 y), (γ2_4, cells6 r), (γ2_5, cells6 s), (γ1_0, cells6 n), (γ1_1, cells6 a), (γ1_2, zero6)]) ?pre8 ?F8 _ ?hpre8 (fun γ => ?hF8) (by kernel_rfl) rfl ?hL8 ?hS8 ?ho8 ?hla8 ?he8
    case hpre8 =>
      simp only [List.take_succ_cons, List.take_zero]
      exact rfl
    case hF8 =>
      simp only [fill, Kind.val, Act.put, List.setIfInBounds_toArray, List.set_cons_zero, List.set_cons_succ]
      exact rfl
    case hL8 => exact trivial
    case hS8 => exact fun w' hb => H10.out.1.below hb
    case ho8 =>
      refine AllOk.cons ?_ ?_
      · exact fun γ => ⟨rfl, fun w' h => ex_load6 h 5 rfl rfl rfl rfl⟩
      refine AllOk.cons ?_ ?_
      · exact fun γ => ⟨rfl, fun w' h => ex_load6 h 1 rfl rfl rfl rfl⟩
      exact trivial
    case hla8 => exact rfl
    intro γ w11 l hM hl
    have M11 : Mm w11 [(γ6_7, cells6 q), (γ6_8, cells6 t), (γ4_1, cells6 u), (γ3_0, cells6 y), (γ2_4, cells6 r), (γ2_5, cells6 s), (γ1_0, cells6 n), (γ1_1, cells6 a), (γ1_2, zero6)] := H10.out.1.grow hM (Nat.le_refl _) hl [] rfl (by decide)
    have B11 : Below w.heap.size w w11 := H10.out.2.trans (hM.below.mono H10.out.2.size)
    clear hM hl l H10
    clear γ
    have H11 : Hid (_ ∧ _) := ⟨M11, B11⟩
    clear M11 B11
    have H12 : Hid (Mm (w11.setCells γ2_4 0 (cells6 s)) [(γ6_7, cells6 q), (γ6_8, cells6 t), (γ4_1, cells6 u), (γ3_0, cells6 y), (γ2_4, cells6 s), (γ2_5, cells6 s), (γ1_0, cells6 n), (γ1_1, cells6 a), (γ1_2, zero6)] ∧ Below w.heap.size w (w11.setCells γ2_4 0 (cells6 s))) := ⟨H11.out.1.put 4 (off := 0) (vs := cells6 s) rfl (Nat.le_of_ble_eq_true rfl), below_setCells _ o2_4.out _ _ _ H11.out.2⟩
    refine ⟨_, ex_store6 H11.out.1 4 rfl rfl rfl rfl (Nat.le_of_ble_eq_true rfl), ⟨⟨_, _, rfl, rfl, rfl, ex_load6 H12.out.1 1 rfl rfl rfl rfl⟩, trivial⟩, ?_⟩
    clear H11
    generalize hgw : World.setCells _ _ _ _ = w12 at H12 ⊢
    clear hgw
    refine rest_at (l := [3]) rfl ?_
    refine rest_store rfl rfl rfl (ex_store6 H12.out.1 5 rfl rfl rfl rfl (Nat.le_of_ble_eq_true rfl)) ?_
    have H13 : Hid (Mm (w12.setCells γ2_5 0 (cells6 t)) [(γ6_7, cells6 q), (γ6_8, cells6 t), (γ4_1, cells6 u), (γ3_0, cells6 y), (γ2_4, cells6 s), (γ2_5, cells6 t), (γ1_0, cells6 n), (γ1_1, cells6 a), (γ1_2, zero6)] ∧ Below w.heap.size w (w12.setCells γ2_5 0 (cells6 t))) := ⟨H12.out.1.put 5 (off := 0) (vs := cells6 t) rfl (Nat.le_of_ble_eq_true rfl), below_setCells _ o2_5.out _ _ _ H12.out.2⟩
    clear H12
    generalize hgw : World.setCells _ _ _ _ = w13 at H13 ⊢
    clear hgw
    refine rest_nil ?_
    refine block_normal ?_
    refine then_normal ?_
    exact ⟨⟨s, t, y, u⟩, ⟨(slotfn [undef, undef, undef, undef, undef, undef, undef, undef, undef, undef, PT γ6_7 0, PT γ6_8 0, .int .i64 0, undef, undef, undef, undef, undef, N s, N 0, .bool true, .tuple #[N q, N t, .int .i64 0], N r, N s, .tuple #[N q, N t, .int .i64 0], N q, N t, .int .i64 0, N y, N n, N x, N n, N q, N y, N p, N u, N s, N t]), rfl, ⟨H13.out.1.tail.tail, H13.out.2⟩, HN.out⟩, HS.out⟩
  obtain ⟨r, s, x, y⟩ := z
  have hE : RI n a r s x y := hk0
  have hs : s = 0 := Classical.byContradiction hlt
  have e0 := fun w => run_eqN s 0 (by rw [hs]; exact big_pos) big_pos w
  rw [decide_eq_true hs] at e0
  have hrg : r = Nat.gcd n a := by have h1 := hE.gcd; rwa [hs, Nat.gcd_zero_right] at h1
  have e9 := fun w => run_eqN r k1 (by have := hE.rn; have := ok.big; omega) (by rw [HK.out]; exact small_big 1 (by decide)) w
  rw [decide_eq_false (by rw [HK.out, hrg]; exact hg)] at e9
  clear hE hk0 hlt hs hrg
  refine wp_seq ?_
  refine wp_seq ?_
  refine walk_seq 3 [.quiet (N s), .quiet (N 0), .quiet (.bool false)] (fun w' => Mm w' [(γ4_1, cells6 y), (γ3_0, cells6 x), (γ2_4, cells6 r), (γ2_5, cells6 s), (γ1_0, cells6 n), (γ1_1, cells6 a), (γ1_2, zero6)]) ?pre9 ?F9 ?hpre9 (fun γ => ?hF9) (by kernel_rfl) ?hL9 ?hS9 ?ho9 ?he9
  case hpre9 =>
    simp only [List.take_succ_cons, List.take_zero]
    exact rfl
  case hF9 =>
    simp only [fill, Kind.val, Act.put, List.setIfInBounds_toArray, List.set_cons_zero, List.set_cons_succ]
    exact rfl
  case hL9 => exact trivial
  case hS9 => exact fun w' hb => H5.out.1.below hb
  case ho9 =>
    refine AllOk.cons ?_ ?_
    · exact fun γ => ⟨rfl, fun w' h => ex_load6 h 3 rfl rfl rfl rfl⟩
    refine AllOk.cons ?_ ?_
    · exact fun γ => ⟨rfl, fun w' _ => ex_zero6 rfl⟩
    refine AllOk.cons ?_ ?_
    · exact fun γ => ⟨rfl, fun w' _ => exec_neq6 e0 rfl rfl rfl⟩
    exact trivial
  intro γ w14 l hM hl
  have M14 : Mm w14 [(γ4_1, cells6 y), (γ3_0, cells6 x), (γ2_4, cells6 r), (γ2_5, cells6 s), (γ1_0, cells6 n), (γ1_1, cells6 a), (γ1_2, zero6)] := H5.out.1.grow hM (Nat.le_refl _) hl [] rfl (by decide)
  have B14 : Below w.heap.size w w14 := H5.out.2.trans (hM.below.mono H5.out.2.size)
  clear hM hl l H5
  clear γ
  have H14 : Hid (_ ∧ _) := ⟨M14, B14⟩
  clear M14 B14
  refine rest_at (l := []) rfl ?_
  refine rest_nil ?_
  refine then_normal ?_
  refine wp_cond_false rfl ?_
  refine wp_exit ?_
  repeat refine then_exit ?_
  refine block_exit ?_
  refine then_normal ?_
  refine wp_seq ?_
  refine wp_seq ?_
  refine walk_seq 3 [.quiet (N r), .quiet (N k1), .quiet (.bool true)] (fun w' => Mm w' [(γ4_1, cells6 y), (γ3_0, cells6 x), (γ2_4, cells6 r), (γ2_5, cells6 s), (γ1_0, cells6 n), (γ1_1, cells6 a), (γ1_2, zero6)]) ?pre10 ?F10 ?hpre10 (fun γ => ?hF10) (by kernel_rfl) ?hL10 ?hS10 ?ho10 ?he10
  case hpre10 =>
    simp only [List.take_succ_cons, List.take_zero]
    exact rfl
  case hF10 =>
    simp only [fill, Kind.val, Act.put, List.setIfInBounds_toArray, List.set_cons_zero, List.set_cons_succ]
    exact rfl
  case hL10 => exact trivial
  case hS10 => exact fun w' hb => H14.out.1.below hb
  case ho10 =>
    refine AllOk.cons ?_ ?_
    · exact fun γ => ⟨rfl, fun w' h => ex_load6 h 2 rfl rfl rfl rfl⟩
    refine AllOk.cons ?_ ?_
    · exact fun γ => ⟨rfl, fun w' _ => ex_build1' HK.out rfl rfl⟩
    refine AllOk.cons ?_ ?_
    · exact fun γ => ⟨rfl, fun w' _ => exec_neq6 e9 rfl rfl rfl⟩
    exact trivial
  intro γ w15 l hM hl
  have M15 : Mm w15 [(γ4_1, cells6 y), (γ3_0, cells6 x), (γ2_4, cells6 r), (γ2_5, cells6 s), (γ1_0, cells6 n), (γ1_1, cells6 a), (γ1_2, zero6)] := H14.out.1.grow hM (Nat.le_refl _) hl [] rfl (by decide)
  have B15 : Below w.heap.size w w15 := H14.out.2.trans (hM.below.mono H14.out.2.size)
  clear hM hl l H14
  clear γ
  have H15 : Hid (_ ∧ _) := ⟨M15, B15⟩
  clear M15 B15
  refine rest_at (l := []) rfl ?_
  refine rest_nil ?_
  refine then_normal ?_
  refine wp_cond_true rfl ?_
  refine wp_seq ?_
  refine walk_seq 1 [.quiet (N 0)] (fun w' => Mm w' [(γ4_1, cells6 y), (γ3_0, cells6 x), (γ2_4, cells6 r), (γ2_5, cells6 s), (γ1_0, cells6 n), (γ1_1, cells6 a), (γ1_2, zero6)]) ?pre11 ?F11 ?hpre11 (fun γ => ?hF11) (by kernel_rfl) ?hL11 ?hS11 ?ho11 ?he11
  case hpre11 =>
    simp only [List.take_succ_cons, List.take_zero]
    exact rfl
  case hF11 =>
    simp only [fill, Kind.val, Act.put, List.setIfInBounds_toArray, List.set_cons_zero, List.set_cons_succ]
    exact rfl
  case hL11 => exact trivial
  case hS11 => exact fun w' hb => H15.out.1.below hb
  case ho11 =>
    refine AllOk.cons ?_ ?_
    · exact fun γ => ⟨rfl, fun w' _ => ex_zero6 rfl⟩
    exact trivial
  intro γ w16 l hM hl
  have M16 : Mm w16 [(γ4_1, cells6 y), (γ3_0, cells6 x), (γ2_4, cells6 r), (γ2_5, cells6 s), (γ1_0, cells6 n), (γ1_1, cells6 a), (γ1_2, zero6)] := H15.out.1.grow hM (Nat.le_refl _) hl [] rfl (by decide)
  have B16 : Below w.heap.size w w16 := H15.out.2.trans (hM.below.mono H15.out.2.size)
  clear hM hl l H15
  clear γ
  have H16 : Hid (_ ∧ _) := ⟨M16, B16⟩
  clear M16 B16
  refine rest_at (l := [1, 2]) rfl ?_
  refine rest_store rfl rfl rfl (ex_store6 H16.out.1 6 rfl rfl rfl rfl (Nat.le_of_ble_eq_true rfl)) ?_
  have H17 : Hid (Mm (w16.setCells γ1_2 0 (cells6 0)) [(γ4_1, cells6 y), (γ3_0, cells6 x), (γ2_4, cells6 r), (γ2_5, cells6 s), (γ1_0, cells6 n), (γ1_1, cells6 a), (γ1_2, cells6 0)] ∧ Below w.heap.size w (w16.setCells γ1_2 0 (cells6 0))) := ⟨H16.out.1.put 6 (off := 0) (vs := cells6 0) rfl (Nat.le_of_ble_eq_true rfl), below_setCells _ o1_2.out _ _ _ H16.out.2⟩
  clear H16
  generalize hgw : World.setCells _ _ _ _ = w17 at H17 ⊢
  clear hgw
  refine rest_set (d := 5) rfl rfl rfl rfl ?_
  simp only [Act.put, List.setIfInBounds_toArray, List.set_cons_zero, List.set_cons_succ]
  refine rest_nil ?_
  refine then_normal ?_
  refine wp_ret ?_
  repeat (first | refine then_ret ?_ | refine block_ret ?_)
  have c0 := H17.out.1.get 6 rfl 0 rfl
  have c1 := H17.out.1.get 6 rfl 1 rfl
  have c2 := H17.out.1.get 6 rfl 2 rfl
  have c3 := H17.out.1.get 6 rfl 3 rfl
  have c4 := H17.out.1.get 6 rfl 4 rfl
  have c5 := H17.out.1.get 6 rfl 5 rfl
  refine bodyPost_ret (v := .tuple #[N 0, .int .i64 6]) (by simp [results, Tryd.results24, go_sem, *]) rfl ?_
  exact ⟨rfl, H17.out.2⟩
end Rg
end Go.Proofs.YtkfannhbnbgloaaDoor
/- The document's functions of a modulus: their answers -/
namespace Go.Proofs.YtkfannhbnbgloaaDoor
open Go.RowKit
namespace Rg
theorem rreduce_any {n a : Nat} (ok : Ok n) (ha : a < big) (w : World) : Calls Tryd.prog 12 #[N n, N a] w fun e w' => e = .returned (N (a % n)) ∧ Below w.heap.size w w' :=
  rreduce_gen n a (a / n) (a % n) (fun w => divide_ref_some a n ha ok.big (by have := ok.pos; omega) w) w
theorem radd_any {n a b : Nat} (ok : Ok n) (ha : a < big) (hb : b < big) (w : World) : Calls Tryd.prog 16 #[N n, N a, N b] w fun e w' => e = .returned (N ((a + b) % n)) ∧ Below w.heap.size w w' := by
  have h1 := Nat.mod_lt a ok.pos
  have h2 := Nat.mod_lt b ok.pos
  have h3 := ok.top
  have c2 := fun w => add_ref (a % n) (b % n) (okLt ok a) (okLt ok b) w
  rw [decide_eq_false (by omega), Nat.mod_eq_of_lt (show a % n + b % n < big by omega)] at c2
  have c3 := fun w => rreduce_any ok (show a % n + b % n < big by omega) w
  rw [← Nat.add_mod] at c3
  exact radd_gen n a b _ _ _ _ (fun w => rreduce_any ok ha w) (fun w => rreduce_any ok hb w) c2 c3 w
theorem rneg_any {n a : Nat} (ok : Ok n) (ha : a < big) (w : World) : Calls Tryd.prog 20 #[N n, N a] w fun e w' => e = .returned (N (subm n 0 a)) ∧ Below w.heap.size w w' := by
  have h1 := Nat.mod_lt a ok.pos
  have hn := ok.big
  have c2 := fun w => sub_ref n (a % n) hn (okLt ok a) w
  rw [decide_eq_false (by omega), show n + big - a % n = n - a % n + big by omega, Nat.add_mod_right, Nat.mod_eq_of_lt (show n - a % n < big by omega)] at c2
  have c3 := fun w => rreduce_any ok (show n - a % n < big by omega) w
  have e : (n - a % n) % n = subm n 0 a := by unfold subm; rw [Nat.zero_add]
  rw [e] at c3
  exact rneg_gen n a _ _ _ (fun w => rreduce_any ok ha w) c2 c3 w
theorem rsub_any {n a b : Nat} (ok : Ok n) (ha : a < big) (hb : b < big) (w : World) : Calls Tryd.prog 18 #[N n, N a, N b] w fun e w' => e = .returned (N (subm n a b)) ∧ Below w.heap.size w w' := by
  have hn := ok.big
  have c := fun w => radd_any ok ha (Nat.lt_trans (subm_lt_n ok.pos 0 b) hn) w
  have e : (a + subm n 0 b) % n = subm n a b := by unfold subm; rw [Nat.zero_add, Nat.add_mod_mod]
  rw [e] at c
  exact rsub_gen n a b _ _ (fun w => rneg_any ok hb w) c w
theorem rmul_any {n a b : Nat} (ok : Ok n) (ha : a < big) (hb : b < big) (w : World) : Calls Tryd.prog 22 #[N n, N a, N b] w fun e w' => e = .returned (N (a * b % n)) ∧ Below w.heap.size w w' := by
  have hd : a * b / big < big := Nat.div_lt_of_lt_mul (Nat.mul_lt_mul'' ha hb)
  have c := fun w => rwide_any ok (Nat.mod_lt (a * b) big_pos) hd w
  rw [Nat.mul_comm (a * b / big) big, Nat.mod_add_div] at c
  exact rmul_gen n a b _ _ _ (fun w => mul_ref a b ha hb w) c w
theorem rpow_any {n a e : Nat} (ok : Ok n) (ha : a < big) (he : e < big) (w : World) : Calls Tryd.prog 26 #[N n, N a, N e] w fun r w' => r = .returned (N (a ^ e % n)) ∧ Below w.heap.size w w' := by
  have hl : bl e ≤ 384 := by
    obtain ⟨m, hm, h⟩ := big_pow
    rw [h] at he
    have := bl_le_of e _ he
    omega
  have h := rpow_gen n a e 1 (1 % n) (bl e) rfl hl (fun k => a ^ (e / 2 ^ k) % n) (fun k => a ^ (2 * (e / 2 ^ (k + 1))) % n) (fun k => bitv e k) ?_ (bit_cases e) (fun k hk => ?_) (fun w => rreduce_any ok (small_big 1 (by decide)) w) (fun w => len_ref e he w) (fun k w => ?_) (fun k w hk => ?_) (fun k hk w => ?_) w
  · rw [Nat.pow_zero, Nat.div_one] at h
    exact h
  · simp only [Nat.div_eq_of_lt (bl_lt e), Nat.pow_zero]
  · have h2 : e / 2 ^ k % 2 = 0 := by unfold bitv at hk; omega
    have h3 := half_step e k
    rw [h2, Nat.add_zero] at h3
    simp only [← h3]
  · have h := rmul_any ok (okLt ok (a ^ (e / 2 ^ (k + 1)))) (okLt ok (a ^ (e / 2 ^ (k + 1)))) w
    rw [← Nat.mul_mod, ← Nat.pow_add, ← Nat.two_mul] at h
    exact h
  · have h := bit_ref_in e k (by omega) w
    rw [show (((k + 1 : Nat) : Int) - 1) = ((k : Nat) : Int) by omega]
    exact h
  · have h := rmul_any ok (okLt ok (a ^ (2 * (e / 2 ^ (k + 1))))) ha w
    have h2 : e / 2 ^ k % 2 = 1 := by unfold bitv at hk; omega
    have h3 := half_step e k
    rw [h2] at h3
    have h4 : a ^ (2 * (e / 2 ^ (k + 1))) * a = a ^ (e / 2 ^ k) := by rw [h3]; exact (Nat.pow_succ ..).symm
    rw [Nat.mod_mul_mod, h4] at h
    exact h
theorem rinv_none {n a : Nat} (ok : Ok n) (ha : a < big) (hg : Nat.gcd n a ≠ 1) (w : World) : Calls Tryd.prog 24 #[N n, N a] w fun e w' => e = .returned (.tuple #[N 0, .int .i64 6]) ∧ Below w.heap.size w w' :=
  rinv_bad (n := n) (a := a) ok (a % n) 0 1 rfl rfl rfl hg (fun w => rreduce_any ok ha w) (fun r s hr hs h0 w => divide_ref_some r s (Nat.lt_of_le_of_lt hr ok.big) (Nat.lt_of_le_of_lt hs ok.big) h0 w) (fun _ _ hp hq w => rmul_any ok (Nat.lt_of_le_of_lt hp ok.big) (Nat.lt_of_le_of_lt hq ok.big) w) (fun _ _ hp hq w => rsub_any ok (Nat.lt_of_le_of_lt hp ok.big) (Nat.lt_of_le_of_lt hq ok.big) w) w
theorem rinv_some {n a : Nat} (ok : Ok n) (ha : a < big) (hg : Nat.gcd n a = 1) (w : World) :
    Calls Tryd.prog 24 #[N n, N a] w fun e w' => e = .returned (.tuple #[N (invm n a), .int .i64 0]) ∧ Below w.heap.size w w' := by
  refine (rinv_good (n := n) (a := a) ok (a % n) 0 1 rfl rfl rfl hg (fun w => rreduce_any ok ha w) (fun r s hr hs h0 w => divide_ref_some r s (Nat.lt_of_le_of_lt hr ok.big) (Nat.lt_of_le_of_lt hs ok.big) h0 w) (fun _ _ hp hq w => rmul_any ok (Nat.lt_of_le_of_lt hp ok.big) (Nat.lt_of_le_of_lt hq ok.big) w) (fun _ _ hp hq w => rsub_any ok (Nat.lt_of_le_of_lt hp ok.big) (Nat.lt_of_le_of_lt hq ok.big) w) w).mono ?_
  rintro e w' ⟨x, he, h1, h2, hb⟩
  rw [invm_eq h1 h2]
  exact ⟨he, hb⟩
end Rg
end Go.Proofs.YtkfannhbnbgloaaDoor
