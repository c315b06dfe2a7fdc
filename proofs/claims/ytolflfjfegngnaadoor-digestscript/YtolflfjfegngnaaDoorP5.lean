/- Texts of the proof, joined. -/
import Derived.Test.YtolflfjfegngnaaDoorP4
section
namespace Go.Proofs.YtolflfjfegngnaaDoor
open Go.RowKit
namespace Rg
section
variable {P : Program} {ops : Array Oper} {ks : List Kind} {a₀ : Act} {w₀ : World} {Q : Exit → Act → World → Prop}
theorem first_value {full : Array Oper} {n p : Nat} {op : Oper} {d : Nat} (hO : Orderly ops ks n) (hn : n = a₀.tmps.size) (hL : LaidOk ks ks) {S : World → Prop} (hS : ∀ w, Below w₀.heap.size w₀ w → S w)
    (hp : ops.size = p) (hpf : p + 1 ≤ full.size) (hfull : ∀ i, i < p → full[i]? = ops[i]?) (hgd : ∀ {i : Nat} {o : Oper} {g : Nat} {b : Bool}, ops[i]? = some o → o.guard = some (g, b) → g < p)
    (hup : ∀ {i : Nat} {o : Oper}, full[i]? = some o → ∀ e ∈ o.after, Region.binds .any e = true → e.on < i)
    (hop : full[p]? = some op) (hdst : op.dst = some d) (hdn : d < n) (hdo : ∀ (j : Nat) (oj : Oper), ops[j]? = some oj → oj.dst ≠ some d) (hgu : op.guard = none) (hsel : ∀ cs b, op.op ≠ .select cs b)
    {late : List Nat} (hwp : ∀ j, j < p → waitsT full 12 op j = true ∨ j ∈ late) (hlook : ∀ d ∈ op.looksAt full, ∀ j oj, ops[j]? = some oj → oj.dst = some d → waitsT full 12 op j = true)
    (hwt : ∀ {i : Nat} {o : Oper}, full[i]? = some o → p + 1 ≤ i → ∀ j, j < i → waitsT full 12 o j = true)
    (hlate : ∀ v, LateOk P ops ks (fun γ => fill γ 0 ops.toList ks (a₀.put (some d) v)) late)
    (hops : AllOk P ops S (fun γ => fill γ 0 ops.toList ks a₀) ops.toList ks)
    (hend : ∀ γ w l, Mem ks w₀ l γ w → (∀ i, i < p → l.getD i false = true) → ∃ (v : Value) (w' : World), (execOp (fill γ 0 ops.toList ks a₀).eval op).run P w = .ok (.value v) w' ∧ wpOps P full Q (List.range' (p + 1) (full.size - (p + 1))) (fill γ 0 ops.toList ks (a₀.put (some d) v)) w') :
    ∀ (fuel : Nat) (l : Array Bool) (γ : Nat → Nat) (a : Act) (w : World), l.size = full.size → l.toList.count false ≤ fuel → Closed full l → (∀ i, p ≤ i → i < full.size → l.getD i true = false) → Agree ops ks a₀ l γ a → Mem ks w₀ l γ w → wpAny P .any full Q fuel l a w := by
  intro fuel
  induction fuel with
  | zero =>
    intro l γ a w hsz hc hcl ht hA hM
    have := count_set (ht p (Nat.le_refl _) (by omega))
    omega
  | succ fuel ih =>
    intro l γ a w hsz hc hcl ht hA hM
    have hpu := ht p (Nat.le_refl _) (by omega)
    refine ⟨fun hr => ?_, fun i hi => ?_⟩
    · have := ready_all hup hsz hr p (by omega)
      rw [(getD_same hpu).1] at this
      cases this
    · obtain ⟨hun, o, ho, hedge⟩ := mem_ready.1 hi
      have hilt : i < full.size := (Array.getElem?_eq_some_iff.1 ho).1
      have hc' := count_set hun
      have hip1 : i < p + 1 := by
        rcases Nat.lt_or_ge i (p + 1) with h' | h'
        · exact h'
        · have := waitsT_spec hcl 12 o (hwt ho h' p (by omega)) hedge
          rw [(getD_same hpu).1] at this
          cases this
      by_cases hip : i = p
      · subst hip
        have ho2 := ho
        rw [hop] at ho
        injection ho with ho
        subst ho
        have hbefore : ∀ j, j < i → j ∉ late → l.getD j false = true := fun j hj hnl => by
          rcases hwp j hj with h | h
          · exact waitsT_spec hcl 12 _ h hedge
          · exact absurd h hnl
        obtain ⟨l', hM', hs', hl1, hl2⟩ := mem_late (hlate undef) hM
        have hfin : ∀ j, j < i → l'.getD j false = true := fun j hj => by
          by_cases h : j ∈ late
          · exact hl2 j h (by omega)
          · exact hl1 j (hbefore j hj h)
        obtain ⟨v, w1, hx, hQ⟩ := hend γ w l' hM' hfin
        have he := see_all (full := full) hA hsel (fun d hd j oj hj hdj => waitsT_spec hcl 12 _ (hlook d hd j oj hj hdj) hedge)
        refine wpOp_step hop (fun K' hK => ?_)
        have hwn : Region.wanted op (yielded full a.tmps) = true := by unfold Region.wanted; rw [hgu]
        rw [if_pos hwn]
        unfold Oper.wp
        rw [he, hx]
        have hA' : Agree ops ks (a₀.put (some d) v) (l.setIfInBounds i true) γ (a.put op.dst v) := by
          rw [hdst]
          refine ⟨by rw [put_defers', put_defers']; exact hA.defers, by rw [put_size, put_size]; exact hA.size, fun t ht => ?_⟩
          by_cases e : t = d
          · subst e
            rw [fill_off γ t ops.toList ks _ 0 (fun j' oj hj => hdo j' oj (by simpa using hj))]
            simp only [Act.put, Array.getElem?_setIfInBounds]
            rw [if_pos trivial, if_pos trivial, hA.size]
          · have h0 := hA.slots t (fun j oj hj hdj => by
              have h1 := ht j oj hj hdj
              have hj' : j < i := by rw [← hp]; exact (Array.getElem?_eq_some_iff.1 hj).1
              rwa [getD_set_ne false (by omega)] at h1)
            rw [fill_put γ d v ops.toList ks a₀ 0 (fun j' oj hj => hdo j' oj (by simpa using hj))]
            simp only [Act.put, Array.getElem?_setIfInBounds]
            rw [if_neg (fun h => e h.symm), if_neg (fun h => e h.symm)]
            exact h0
        refine hK _ _ (after_putU (a₀ := a₀.put (some d) v) hO (by rw [put_size]; exact hn) hp hpf hfull hgd hup hwt (hlate v) hQ fuel _ _ (by simp [hsz]) (by omega) (hcl.step ho2 hedge) (fun j hj hj2 => ?_) (fun j hj hj2 => ?_) hA')
        · by_cases e : i = j
          · subst e
            have hi' : i < l.size := by omega
            simp [hi'] at hj2
          · rw [getD_set_ne true e] at hj2
            apply Classical.byContradiction
            intro hnl
            have := hbefore j (by omega) hnl
            rw [(getD_same hj2).1] at this
            cases this
        · rw [getD_set_ne true (by omega)]
          exact ht j (by omega) hj2
      · have hlt : i < p := by omega
        have ho' : ops[i]? = some o := by rw [← hfull i hlt]; exact ho
        refine kind_step hO hn hL hS hfull hgd hops hA hM hlt ho' hun hedge (fun γ' a' w' hA' hM' => ?_)
        exact ih _ γ' a' w' (by simp [hsz]) (by omega) (hcl.step ho hedge) (fun j hj hj2 => by rw [getD_set_ne true (by omega)]; exact ht j hj hj2) hA' hM'
theorem walk_value {full : Array Oper} {a : Act} {w : World} {id : Nat} (hm : P.follows .mixedOrders = true) (p : Nat) (late : List Nat) (ks : List Kind) (S : World → Prop) (pre : List Oper) (F : (Nat → Nat) → Act) (F' : Value → (Nat → Nat) → Act) (op : Oper) (d : Nat) (hpre : full.toList.take p = pre)
    (hF : ∀ γ, fill γ 0 pre ks a = F γ) (hF' : ∀ v γ, fill γ 0 pre ks (a.put (some d) v) = F' v γ) (hor : (orderly pre.toArray ks a.tmps.size && guarded pre.toArray p && enterly full p d a.tmps.size late) = true) (hop : full[p]? = some op) (hL : LaidOk ks ks) (hS : ∀ w', Below w.heap.size w w' → S w')
    (hops : AllOk P pre.toArray S F pre ks) (hlate : ∀ v, LateOk P pre.toArray ks (F' v) late)
    (hend : ∀ γ w' l, Mem ks w l γ w' → (∀ i, i < p → l.getD i false = true) → ∃ (v : Value) (w'' : World), (execOp (F γ).eval op).run P w' = .ok (.value v) w'' ∧ wpOps P full Q (List.range' (p + 1) (full.size - (p + 1))) (F' v γ) w'') :
    (Code.region id full true).wp P Q a w := by
  subst hpre
  obtain rfl : (fun γ => fill γ 0 (full.toList.take p) ks a) = F := funext hF
  obtain rfl : (fun v γ => fill γ 0 (full.toList.take p) ks (a.put (some d) v)) = F' := funext fun v => funext (hF' v)
  simp only [Bool.and_eq_true] at hor
  obtain ⟨⟨h1, h2⟩, h3⟩ := hor
  unfold enterly at h3
  rw [hop] at h3
  simp only [Bool.and_eq_true, decide_eq_true_eq, Option.isNone_iff_eq_none, beq_iff_eq] at h3
  obtain ⟨⟨⟨⟨⟨⟨h5, h6⟩, h7⟩, ⟨⟨h8, h9⟩, h10⟩, h11⟩, h12⟩, h13⟩, h14⟩ := h3
  have hsz : (full.toList.take p).toArray.size = p := by simp; omega
  have hfu : ∀ i, i < p → full[i]? = (full.toList.take p).toArray[i]? := fun i hi => by rw [← take_arr]; exact first_full hi
  refine wp_region_any hm (first_value (ops := (full.toList.take p).toArray) (Orderly.of h1) rfl hL hS hsz h6 hfu (fun ho hg => guarded_spec h2 ho hg) (fun ho e he hb => ?_) hop h8 h13 (fun j oj hj => ?_) h9 (fun cs b => Region.noSelect_spec h7 p op cs b hop) (late := late) (fun j hj => ?_) (fun d hd j oj hj hdj => ?_) (fun ho hi j hj => ?_) hlate hops hend full.size _ (fun _ => 0) a w.drew (by simp) (by simp) (Closed.none _ _) (fun i _ hi => none_listed' hi) (start_agree _ _) (start_mem _ _ (Below.refl _ _).drew))
  · have := Array.all_eq_true_iff_forall_mem.1 (eachOp_spec h5 ho) e he
    simpa [hb] using this
  · have hj' : j < p := by rw [← hsz]; exact (Array.getElem?_eq_some_iff.1 hj).1
    have := eachOp_spec h14 (by rw [hfu j hj']; exact hj)
    simp only [Bool.or_eq_true, decide_eq_true_eq, bne_iff_ne, ne_eq] at this
    rcases this with h | h
    · omega
    · exact h
  · have := List.all_eq_true.1 h10 j (List.mem_range.2 hj)
    simpa using this
  · have hj' : j < p := by rw [← hsz]; exact (Array.getElem?_eq_some_iff.1 hj).1
    have := eachOp_spec (List.all_eq_true.1 h11 d hd) (by rw [hfu j hj']; exact hj)
    simp only [hdj, bne_self_eq_false, Bool.false_or, Bool.or_eq_true, decide_eq_true_eq] at this
    rcases this with h | h
    · exact h
    · omega
  · have := eachOp_spec h12 ho
    simp only [Bool.or_eq_true, decide_eq_true_eq] at this
    rcases this with h | h
    · omega
    · exact List.all_eq_true.1 h j (List.mem_range.2 hj)
end
end Rg
end Go.Proofs.YtolflfjfegngnaaDoor
end
section
namespace Go.Proofs.YtolflfjfegngnaaDoor
open Go.RowKit
namespace Rg
set_option maxRecDepth 100000
/-- A call of a hash: its kind, its bytes. -/
structure Ac where
  kd : Nat
  q : Pt8
  xs : List Int
def ac (x : Ac) : List Value := [Z8 x.kd, .slice x.q.p x.q.n x.q.cp]
/-- Acts in a list. -/
def Lc (pl : Option Addr) (X : Nat → Ac) (m : Nat) (w : World) : Prop := ∀ g o, pl = some ⟨g, o, none⟩ → ∀ i, i < m → g < w.heap.size ∧ w.cell? ⟨g, o + 2 * i, none⟩ = some (Z8 (X i).kd) ∧ w.cell? ⟨g, o + 2 * i + 1, none⟩ = some (.slice (X i).q.p (X i).q.n (X i).q.cp) ∧ (X i).q.bs (X i).xs w
theorem Lc.below {pl : Option Addr} {X : Nat → Ac} {m : Nat} {w w' : World} (h : Lc pl X m w) (hb : Below w.heap.size w w') : Lc pl X m w' := fun g o e i hi => by
  obtain ⟨h1, h2, h3, h4⟩ := h g o e i hi
  exact ⟨Nat.lt_of_lt_of_le h1 hb.size, by rw [hb.cell h1]; exact h2, by rw [hb.cell h1]; exact h3, h4.below hb⟩
section
variable {ρ : Operand → Value} {o : Oper} {x y : Operand} {g off m c j a b : Nat} {w : World} {p : Option Addr}
theorem ex_ixP40 (he : p = some ⟨g, off, none⟩) (ho : o.op = .indexAddr 40 x y) (hx : ρ x = .slice p m c) (hy : ρ y = .int .i64 ((j : Nat) : Int)) (h : j < m) : (execOp ρ o).run Tryd.prog w = .ok (.value (PT g (off + 2 * j))) w := by
  subst he
  simp only [execOp, ho, hx, hy]
  clear ho hx hy
  go_simp
  first | done | (rw [Nat.mul_comm])
theorem ex_ixP43 (he : p = some ⟨g, off, none⟩) (ho : o.op = .indexAddr 43 x y) (hx : ρ x = .slice p m c) (hy : ρ y = .int .i64 ((j : Nat) : Int)) (h : j < m) : (execOp ρ o).run Tryd.prog w = .ok (.value (PT g (off + j))) w := by
  subst he
  simp only [execOp, ho, hx, hy]
  clear ho hx hy
  go_simp
theorem ex_ld45 {X : Nat → Ac} (h : Lc p X m w) (he : p = some ⟨g, off, none⟩) (hj : j < m) (ho : o.op = .load 45 x) (hx : ρ x = PT g (off + 2 * j)) : (execOp ρ o).run Tryd.prog w = .ok (.value (.agg (ac (X j)).toArray)) w := by
  obtain ⟨h1, h2, h3, _⟩ := h g off he j hj
  have ha : ∀ w, (isAgg 45).run Tryd.prog w = .ok true w := Tryd.isAgg45
  have hs : ∀ w, (sizeOf 45).run Tryd.prog w = .ok 2 w := Tryd.sizeOf45
  clear h
  simp only [execOp, ho, hx]
  go_simp
  first | done | rfl | simp [ac]
theorem ex_mk45 (ho : o.op = .alloc 45) : (execOp ρ o).run Tryd.prog w = .ok (.value (.pointer (some ⟨w.heap.size, 0, none⟩))) (w.alloc (.cells ([Z8 0, .slice none 0 0] : List Value).toArray 45)) := by
  simp only [execOp, ho]
  go_simp
  first | done | rfl
theorem ex_bsH {g0 g1 : Nat} (ho : o.op = .buildSlice 43 2 #[(0, x), (1, y)]) (hx : ρ x = PT g0 0) (hy : ρ y = PT g1 0) : (execOp ρ o).run Tryd.prog w = .ok (.value (.slice (some ⟨w.heap.size, 0, none⟩) 2 2)) (w.alloc (.cells ([PT g0 0, PT g1 0] : List Value).toArray 41)) := by
  simp only [execOp, ho, List.map_toArray, List.map_cons, List.map_nil, hx, hy]
  kernel_rfl
theorem ex_bsM (ho : o.op = .buildSlice 29 2 #[(0, .const (.slice none 0 0)), (1, .const (.slice none 0 0))]) (hc : ∀ v, ρ (.const v) = v) : (execOp ρ o).run Tryd.prog w = .ok (.value (.slice (some ⟨w.heap.size, 0, none⟩) 2 2)) (w.alloc (.cells ([.slice none 0 0, .slice none 0 0] : List Value).toArray 22)) := by
  simp only [execOp, ho, List.map_toArray, List.map_cons, List.map_nil, hc]
  kernel_rfl
theorem ex_storeP {g' : Nat} {cs : List Value} {l : List (Nat × List Value)} (h : Mm w l) (k : Nat) (hk : l[k]? = some (g, cs)) (ho : o.op = .store 41 x y) (hx : ρ x = PT g off) (hy : ρ y = PT g' 0) (hc : off < cs.length) :
    (execOp ρ o).run Tryd.prog w = .ok .skip (w.setCells g off [PT g' 0]) := by
  have hs : ∀ w, (sizeOf 41).run Tryd.prog w = .ok 1 w := Tryd.sizeOf41
  have hm := List.mem_of_getElem? hk
  have e : cs[off]? = some (cs[off]'hc) := List.getElem?_eq_getElem _
  have c0 := h.cell hm e
  have f0 := h.free hm e
  clear h hm hk
  simp only [execOp, ho, hx, hy]
  go_simp
  simp [World.setCells]
theorem ex_eq8 {t : Bool} (ht : decide (a = b) = t) (ho : o.op = .binOp .eql 5 x y 5) (hx : ρ x = Z8 a) (hy : ρ y = .int .u8 (b : Int)) : (execOp ρ o).run Tryd.prog w = .ok (.value (.bool t)) w := by
  subst ht
  simp only [execOp, ho, hx, hy]
  clear ho hx hy
  go_simp
  by_cases h : a = b
  · simp [h]
  · simp [h]
    omega
end
set_option maxRecDepth 100000 in
theorem Clone_ok (g : Nat) (q : Hq) (w : World) (hm : Mm w [(g, hs true q.s q.r q.c)]) :
    Calls Tryd.prog 30 #[PT g 0] w fun e w' => Below w.heap.size w w' ∧ ∃ g', e = .returned (PT g' 0) ∧ w.heap.size ≤ g' ∧ g' < w'.heap.size ∧ Blk w' g' (hs true q.s q.r q.c) := by
  have H0 : Hid (_ ∧ _) := ⟨hm, Below.refl w.heap.size w⟩
  clear hm
  go_enter Tryd.func30, Tryd.ntmps30
  refine wp_seq ?_
  refine walk_seqB 1 [.quiet (.pointer none)] H0 ?ho1 ?he1
  case ho1 => exact ak (fun _ => ⟨rfl, fun _ _ => rfl⟩) trivial
  intro _ w1 H1
  refine rest0 rfl (then_normal (wp_seq (wp_seq ?_)))
  refine walk_seqB 3 [.quiet (PT g 0), .call (.bool true), .quiet (.bool false)] H1 ?ho2 ?he2
  case ho2 => exact ak (fun _ => ⟨rfl, fun _ _ => rfl⟩) (ak (fun γ => ⟨rfl, fun w' h => ⟨54, #[PT g 0], exec_call rfl call54 rfl (mpn rfl), known_any _ _ _ _ _ w' (h.one 0 rfl)⟩⟩) (ak (by refine fun γ => ⟨rfl, fun w' h => ?_⟩; clear h; go_simp) trivial))
  intro _ w2 H2
  clear H1
  refine rest0 rfl (then_normal (wp_cond_false rfl ?_))
  refine wp_skip (then_normal (wp_seq ?_))
  refine walk_seqA 5 [.quiet (PT g 0), .quiet (PT g 0), .quiet (.agg (hs true q.s q.r q.c).toArray), .made (hs false (fun _ => 0) (fun _ => 0) 0) 58, .laid 3 (hs false (fun _ => 0) (fun _ => 0) 0) (hs true q.s q.r q.c)] (sB H2) ?ho3 ?he3 (hL := ?hL3)
  case hL3 => exact ⟨⟨_, rfl⟩, trivial⟩
  case ho3 => exact ak (fun _ => ⟨rfl, fun _ _ => rfl⟩) (ak (by refine fun γ => ⟨rfl, fun w' h => ?_⟩; clear h; go_simp) (ak (fun γ => ⟨rfl, fun w' h => ex_loadT h 0 rfl rfl rfl Tryd.isAgg58 Tryd.sizeOf58 (hs_whole _ _ _ _) (hs_len _ _ _ _)⟩) (ak (fun γ => ⟨rfl, fun w' => ex_mk58 rfl⟩) (ak (fun γ => ⟨rfl, rfl, (hs_len _ _ _ _).trans (hs_len _ _ _ _).symm, fun w' h => ex_laidH h Tryd.sizeOf58 rfl rfl rfl⟩) trivial))))
  intro γ w3 l hM hl
  have H3 : Hid (Mm w3 [(γ 3, hs true q.s q.r q.c), (g, hs true q.s q.r q.c)] ∧ _) := growB H2 hM (Nat.le_refl _) hl [3] rfl (by decide)
  have o3_3 := ownB H2 hM (Nat.le_refl _) hl (i := 3) rfl
  clear hM hl l H2
  generalize γ 3 = γ3_3 at H3 o3_3 ⊢
  clear γ
  refine rest0 rfl (then_normal (wp_seq ?_))
  refine walk_seqB 1 [.quiet (PT γ3_3 0)] H3 ?ho4 ?he4
  case ho4 => exact ak (fun _ => ⟨rfl, fun _ _ => rfl⟩) trivial
  intro _ w4 H4
  clear H3
  refine rest0 rfl (then_normal (wp_ret ?_))
  repeat (first | refine then_ret ?_ | refine block_ret ?_)
  refine bodyPost_ret (v := PT γ3_3 0) (by simp [results, Tryd.results30, go_sem, *]) rfl ?_
  exact ⟨H4.out.2, γ3_3, rfl, o3_3.out, (H4.out.1.one 0 rfl).blk _ (List.mem_singleton.2 rfl)⟩
set_option maxHeartbeats 1000000 in
set_option maxRecDepth 100000 in
theorem copy_zo (a : Pt8) (ha : Pok a) (hN0 : a.p = none → a.cp = 0) (hna : a.n ≤ 1048576) (w : World) (hRa : a.rs w) :
    Calls Tryd.prog 28 #[.slice a.p a.n a.cp] w fun e w' => ∃ v B, e = .returned v ∧ Zo w B [] v a.n a.f w' ∧ v ≠ .slice none 0 0 := by
  have H0 : Hid (_ ∧ _) := ⟨Mm.nil w, Below.refl w.heap.size w⟩
  have RA : Hid (a.rs w) := hRa
  have hN : Hid _ := hN0
  clear hRa hN0
  go_enter Tryd.func28, Tryd.ntmps28
  refine wp_seq ?_
  refine walk_seqB 1 [.quiet (.slice none 0 0)] H0 ?ho1 ?he1
  case ho1 => exact ak (fun _ => ⟨rfl, fun _ _ => rfl⟩) trivial
  intro _ w1 H1
  refine rest0 rfl (then_normal (wp_seq ?_))
  refine walk_seqB 0 [] H1 ?ho2 ?he2
  case ho2 => exact trivial
  intro _ w2 H2
  clear H1
  refine rest_at (l := [0, 1, 2, 3]) rfl ?_
  refine rest_set (d := 3) (v := .slice (some ⟨w2.heap.size, 0, none⟩) 0 0) (w' := (w2.alloc (.cells #[] 5))) rfl rfl rfl (ex_bs0 rfl) ?_
  simp only [Act.put, sa, sz, ss]
  have H3 : Hid (Mm (w2.alloc (.cells #[] 5)) [] ∧ Zo w w2.heap.size [] (.slice (some ⟨w2.heap.size, 0, none⟩) 0 0) 0 a.f (w2.alloc (.cells #[] 5))) := ⟨Mm.nil _, Zo.made a.f H2.out.1 H2.out.2⟩
  clear H2
  generalize hgw : (w2.alloc (.cells #[] 5)) = w3 at H3 ⊢
  clear hgw
  generalize w2.heap.size = γb at H3 ⊢
  refine rest_set (d := 4) (v := .slice a.p a.n a.cp) (w' := w3) rfl rfl rfl rfl ?_
  simp only [Act.put, sa, sz, ss]
  obtain ⟨v4, w4, hr, hZ, hnn⟩ := H3.out.2.appR (q := a) ha hN.out (RA.out.below H3.out.2.b) (by omega) (fun e => by cases e) 22
  rw [Nat.zero_add] at hZ
  refine rest_set (d := 5) (v := v4) (w' := w4) rfl rfl rfl (ex_app rfl rfl rfl hr) ?_
  simp only [Act.put, sa, sz, ss]
  have H4 : Hid (Mm w4 [] ∧ Zo w γb [] v4 a.n a.f w4) := ⟨Mm.nil _, hZ.cg (fun j _ => by rw [ct_zero])⟩
  have NN : Hid _ := hnn
  clear hr hZ hnn H3
  refine rest_set (d := 2) (v := v4) (w' := w4) rfl rfl rfl rfl ?_
  simp only [Act.put, sa, sz, ss]
  refine rest_nil (then_normal (wp_ret ?_))
  repeat (first | refine then_ret ?_ | refine block_ret ?_)
  refine bodyPost_ret (v := v4) (by simp [results, Tryd.results28, go_sem, *]) rfl ?_
  exact ⟨_, _, rfl, H4.out.2, NN.out⟩
/-- What the object of a slice's own block is. -/
def Eo (n : Nat) (f : Nat → Nat) (o : Obj) (x : Nat) : Prop := ∃ cur, o = .cells cur 5 (0, 0) ∧ n + x ≤ maxLen ∧ cur.size = (n + x) * 1 ∧ cur.toList.take (n * 1) = ints .u8 f n
theorem Eo.own {n g x B : Nat} {f : Nat → Nat} {w : World} (h : ∃ o, w.heap[g]? = some o ∧ Eo n f o x) (hB : B ≤ g) : w.ownsRow B 5 1 (.slice (some ⟨g, 0, none⟩) n (n + x)) n (ints .u8 f n) := by
  obtain ⟨o, h1, cur, rfl, h2, h3, h4⟩ := h
  exact ⟨by rw [ints_len, Nat.mul_one], .inr ⟨g, n + x, cur, rfl, hB, h1, Nat.le_add_right _ _, h2, h3, h4⟩⟩
theorem copy_own (a : Pt8) (ha : Pok a) (hN : a.p = none → a.cp = 0) (hna : a.n ≤ 1048576) (w : World) (hRa : a.rs w) :
    Calls Tryd.prog 28 #[.slice a.p a.n a.cp] w fun e w' => Below w.heap.size w w' ∧ ∃ (g x y : Nat), e = .returned ((fun g x _ => .slice (some ⟨g, 0, none⟩) a.n (a.n + x)) g x y) ∧ w.heap.size ≤ g ∧ g < w'.heap.size ∧ Blk w' g (ints .u8 a.f a.n) ∧ ∃ o, w'.heap[g]? = some o ∧ Eo a.n a.f o x := by
  refine Calls.mono (copy_zo a ha hN hna w hRa) ?_
  rintro e w' ⟨v, B, rfl, hz, hv⟩
  obtain ⟨g3, cap3, e3⟩ := hz.form1 hv
  subst e3
  obtain ⟨hf1, hf2, hf3, hf4⟩ := hz.blk
  have ho := hz.own.2
  rcases ho with ⟨h1, _⟩ | ⟨g', cap', cur, h1, h2, h3, h4, h5, h6, h7⟩
  · cases h1
  · injection h1 with e1 _ e2
    injection e1 with e1
    injection e1 with e1
    subst e1 e2
    exact ⟨hz.b, g3, cap3 - a.n, 0, by show Ending.returned _ = Ending.returned (Value.slice (some ⟨g3, 0, none⟩) a.n (a.n + (cap3 - a.n))); rw [show a.n + (cap3 - a.n) = cap3 by omega], Nat.le_trans hz.lo hf1, hf2, hf4, _, h3, cur, rfl, by rw [show a.n + (cap3 - a.n) = cap3 by omega]; exact h5, by rw [show a.n + (cap3 - a.n) = cap3 by omega]; exact h6, h7⟩
theorem own_appQ {w1 : World} {B n : Nat} {vv : Value} {P : Nat → Nat} (h : w1.ownsRow B 5 1 vv n (ints .u8 P n)) (hB : B ≤ w1.heap.size) {q : Pt8} (hq : Pok q) (hN : q.p = none → q.cp = 0) (hR : q.rs w1) (hb : n + q.n ≤ 2097152) (ty : TypeId) :
    ∃ v' w2, (Builtin.append_ #[22, 22] ty #[vv, .slice q.p q.n q.cp]).run Tryd.prog w1 = .ok v' w2 ∧ w2.ownsRow B 5 1 v' (n + q.n) (ints .u8 (ct P n q.f) (n + q.n)) ∧ w1.grownBy w2 vv.ownBlock ∧ (v'.ownBlock = vv.ownBlock ∨ v'.ownBlock = some w1.heap.size) := by
  obtain ⟨gb, o, m, cp, p, f⟩ := q
  obtain ⟨hB', hle⟩ := hq
  simp only [Pt8.rs] at hB' hN hR hb hle ⊢
  cases p with
  | none =>
    have hn : m = 0 := by
      rcases Nat.eq_zero_or_pos m with e | e
      · exact e
      · have := hB'.1 e
        simp at this
    have hc := hN rfl
    subst hn hc
    obtain ⟨i0, hi, _, _, _⟩ := info_byte
    exact ⟨vv, w1, run_append_owned_none (P := Tryd.prog) (w := w1) B 22 ty 5 i0 1 Tryd.underlying22 hi vv n _ h, own_cg h (fun j hj => by unfold ct; rw [if_pos (show j < n from hj)]), ⟨rfl, rfl, rfl, Nat.le_refl _, fun _ _ _ => rfl⟩, .inl rfl⟩
  | some a =>
    refine own_app h hB (a := a) m cp f (fun j hj => ?_) hb ty
    have e := hB'.1 (by omega)
    injection e with e1
    injection e1 with e1
    rw [e1]
    exact hR.add j hj
/-- The part that a slice of one's own is. -/
theorem own_part {w1 : World} {B n : Nat} {vv : Value} {P : Nat → Nat} (h : w1.ownsRow B 5 1 vv n (ints .u8 P n)) : ∃ q : Pt8, vv = .slice q.p q.n q.cp ∧ Pok q ∧ (q.p = none → q.cp = 0) ∧ q.n = n ∧ q.f = P ∧ q.rs w1 ∧ (0 < q.n → vv.ownBlock = some q.gb) := by
  rcases h.2 with ⟨h1, h2⟩ | ⟨g, cap, cur, h1, h2, h3, h4, _⟩
  · subst h2
    exact ⟨⟨0, 0, 0, 0, none, P⟩, h1, ⟨Bv.void _ _ _ _ _, Nat.le_refl _⟩, fun _ => rfl, rfl, rfl, Rs.void _ _ _ _, fun h => absurd h (Nat.lt_irrefl _)⟩
  · subst h1
    refine ⟨⟨g, 0, n, cap, some ⟨g, 0, none⟩, P⟩, rfl, ⟨Bv.start _ _ _ _, h4⟩, (fun e => by cases e), rfl, rfl, ⟨fun _ => (World.ownsRow.lt h g rfl).2, fun i hi => ?_⟩, fun _ => rfl⟩
    have := World.ownsRow.cells h (g := g) rfl i _ (ints_get .u8 P hi)
    rw [show (⟨g, 0, none⟩ : Addr).add i = ⟨g, 0 + i, none⟩ by unfold Addr.add; split <;> simp_all] at this
    exact this
/-- Two parts that can be read, apart from blocks L that may change. -/
structure Sr (w : World) (L : List Nat) (q0 q1 : Pt8) (w' : World) : Prop where
  b : Below w.heap.size w w'
  r0 : q0.rs w'
  r1 : q1.rs w'
  a0 : 0 < q0.n → q0.gb ∉ L
  a1 : 0 < q1.n → q1.gb ∉ L
section
variable {w w1 w2 : World} {L : List Nat} {q0 q1 q : Pt8} {g : Nat}
theorem Rs.kpx {g gb o n : Nat} {f : Nat → Nat} {w w' : World} (h : Rs gb o n f w) (k : Kp g w w') (ne : 0 < n → gb ≠ g) : Rs gb o n f w' := by
  refine ⟨fun hn => Nat.lt_of_lt_of_le (h.lt hn) k.size, fun i hi => ?_⟩
  have e := k.block gb (h.lt (by omega)) (ne (by omega))
  rw [World.cell?_of_block (w := w) (a := ⟨gb, o + i, none⟩) e]
  exact h.at_ i hi
theorem Sr.size (h : Sr w L q0 q1 w1) : w.heap.size ≤ w1.heap.size := h.b.size
theorem Sr.step (h : Sr w L q0 q1 w1) (hb : Below w1.heap.size w1 w2) : Sr w L q0 q1 w2 := ⟨h.b.trans (hb.mono h.b.size), h.r0.below hb, h.r1.below hb, h.a0, h.a1⟩
theorem Sr.kp (h : Sr w L q0 q1 w1) (hk : Kp g w1 w2) (hg : g ∈ L) (ho : w.heap.size ≤ g) : Sr w L q0 q1 w2 :=
  ⟨Below.kp h.b hk ho h.b.size, h.r0.kpx hk (fun hn e => h.a0 hn (e ▸ hg)), h.r1.kpx hk (fun hn e => h.a1 hn (e ▸ hg)), h.a0, h.a1⟩
theorem Sr.put {off : Nat} {vs : List Value} (h : Sr w L q0 q1 w1) (hg : g ∈ L) (ho : w.heap.size ≤ g) : Sr w L q0 q1 (w1.setCells g off vs) := h.kp ((Kp.refl g w1).put (Or.inl rfl)) hg ho
theorem Sr.more (h : Sr w L q0 q1 w1) (h0 : 0 < q0.n → q0.gb < g) (h1 : 0 < q1.n → q1.gb < g) : Sr w (g :: L) q0 q1 w1 :=
  ⟨h.b, h.r0, h.r1, fun hn hm => by
    rcases List.mem_cons.1 hm with e | e
    · have := h0 hn; omega
    · exact h.a0 hn e, fun hn hm => by
    rcases List.mem_cons.1 hm with e | e
    · have := h1 hn; omega
    · exact h.a1 hn e⟩
end
end Rg
end Go.Proofs.YtolflfjfegngnaaDoor
end
