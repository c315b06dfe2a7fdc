/- Texts of the proof, joined. -/
import Derived.Test.YtdbejmgomajjmaaGreatDoorP1
import Derived.Laws.StructEq
import Derived.Deep.RegionHeld3
import Derived.Deep.DeepCutAuto
section
namespace Go.Proofs.YtdbejmgomajjmaaGreatDoor
open Go.RowKit
theorem run_eq6' (D : Nat) (hin : ∀ (a b : Int) (w : World), (Op.equalIn D 22 (.int .u64 a) (.int .u64 b)).run Tryz.prog w = .ok (a == b) w) (x0 x1 x2 x3 x4 x5 y0 y1 y2 y3 y4 y5 : Int) (w : World) :
    (Op.equalIn (D + 1) 24 (.agg #[.int .u64 x0, .int .u64 x1, .int .u64 x2, .int .u64 x3, .int .u64 x4, .int .u64 x5]) (.agg #[.int .u64 y0, .int .u64 y1, .int .u64 y2, .int .u64 y3, .int .u64 y4, .int .u64 y5])).run Tryz.prog w =
      .ok (x0 == y0 && (x1 == y1 && (x2 == y2 && (x3 == y3 && (x4 == y4 && x5 == y5))))) w := by
  have h24 : Tryz.prog.underlying 24 = some (.array 6 22) := by kernel_rfl
  have hsz : ∀ w, (sizeOf 22).run Tryz.prog w = .ok 1 w := fun w => by kernel_rfl
  have hp : ∀ (a b c d e f : Int) (w : World), (Go.part 22 #[.int .u64 a, .int .u64 b, .int .u64 c, .int .u64 d, .int .u64 e, .int .u64 f] 0).run Tryz.prog w = .ok (.int .u64 a) w ∧ (Go.part 22 #[.int .u64 a, .int .u64 b, .int .u64 c, .int .u64 d, .int .u64 e, .int .u64 f] 1).run Tryz.prog w = .ok (.int .u64 b) w ∧ (Go.part 22 #[.int .u64 a, .int .u64 b, .int .u64 c, .int .u64 d, .int .u64 e, .int .u64 f] 2).run Tryz.prog w = .ok (.int .u64 c) w ∧ (Go.part 22 #[.int .u64 a, .int .u64 b, .int .u64 c, .int .u64 d, .int .u64 e, .int .u64 f] 3).run Tryz.prog w = .ok (.int .u64 d) w ∧ (Go.part 22 #[.int .u64 a, .int .u64 b, .int .u64 c, .int .u64 d, .int .u64 e, .int .u64 f] 4).run Tryz.prog w = .ok (.int .u64 e) w ∧ (Go.part 22 #[.int .u64 a, .int .u64 b, .int .u64 c, .int .u64 d, .int .u64 e, .int .u64 f] 5).run Tryz.prog w = .ok (.int .u64 f) w := fun a b c d e f w => ⟨by kernel_rfl, by kernel_rfl, by kernel_rfl, by kernel_rfl, by kernel_rfl, by kernel_rfl⟩
  simp only [Op.equalIn, Sem.run_bind, run_underlying h24, Result.andThen_ok, hsz]
  simp [Std.Legacy.Range.forIn_eq_forIn_range', List.range', List.forIn_cons, hin, hp]
  repeat' split
  all_goals simp_all
theorem run_eq6 (x0 x1 x2 x3 x4 x5 y0 y1 y2 y3 y4 y5 : Int) (w : World) :
    (Op.equalIn 10000 24 (.agg #[.int .u64 x0, .int .u64 x1, .int .u64 x2, .int .u64 x3, .int .u64 x4, .int .u64 x5]) (.agg #[.int .u64 y0, .int .u64 y1, .int .u64 y2, .int .u64 y3, .int .u64 y4, .int .u64 y5])).run Tryz.prog w =
      .ok (x0 == y0 && (x1 == y1 && (x2 == y2 && (x3 == y3 && (x4 == y4 && x5 == y5))))) w :=
  run_eq6' 9999 (fun a b w => run_equalIn_int w 9998 22 .u64 .u64 a b (by kernel_rfl)) x0 x1 x2 x3 x4 x5 y0 y1 y2 y3 y4 y5 w
theorem num_ext' (a b : Nat) : ∀ m, (∀ j, j < m → wd a j = wd b j) → a % 2 ^ (64 * m) = b % 2 ^ (64 * m) := by
  intro m
  induction m with
  | zero => intro _; rw [Nat.mul_zero, Nat.pow_zero, Nat.mod_one, Nat.mod_one]
  | succ m ih =>
    intro h
    have h2 : wn a m = wn b m := Int.ofNat.inj (h m (by omega))
    rw [mod_step, mod_step, ih (fun j hj => h j (by omega)), h2]
theorem num_ext (a b : Nat) (ha : a < big) (hb : b < big) (h : ∀ j, j < 6 → wd a j = wd b j) : a = b := by
  have h2 := num_ext' a b 6 h
  rw [← big_eq, Nat.mod_eq_of_lt ha, Nat.mod_eq_of_lt hb] at h2
  exact h2
theorem num_eq (a b : Nat) (ha : a < big) (hb : b < big) : (wd a 0 == wd b 0 && (wd a 1 == wd b 1 && (wd a 2 == wd b 2 && (wd a 3 == wd b 3 && (wd a 4 == wd b 4 && wd a 5 == wd b 5))))) = decide (a = b) := by
  by_cases h : a = b
  · subst h; simp
  · rw [decide_eq_false h]
    apply Bool.eq_false_iff.2
    intro hh
    simp only [Bool.and_eq_true, beq_iff_eq] at hh
    obtain ⟨h0, h1, h2, h3, h4, h5⟩ := hh
    apply h
    apply num_ext a b ha hb
    intro j hj
    match j, hj with
    | 0, _ => exact h0
    | 1, _ => exact h1
    | 2, _ => exact h2
    | 3, _ => exact h3
    | 4, _ => exact h4
    | 5, _ => exact h5
theorem run_eqN (a b : Nat) (ha : a < big) (hb : b < big) (w : World) :
    (Op.equalIn 10000 24 (N a) (N b)).run Tryz.prog w = .ok (decide (a = b)) w := by rw [run_eq6, num_eq a b ha hb]
theorem big_pos : 0 < big := by rw [big_eq]; exact pow_pos' 6
theorem wd_small (n j : Nat) (hn : n < 18446744073709551616) : wd n (j + 1) = 0 := wd_top' n 1 (j + 1) (by simpa using hn) (by omega)
theorem wd_small0 (n : Nat) (hn : n < 18446744073709551616) : wd n 0 = n := by unfold wd; rw [Nat.mul_zero, Nat.pow_zero, Nat.div_one, Nat.mod_eq_of_lt hn]
set_option maxHeartbeats 400000 in
theorem of_any (n : Nat) (hn : n < 18446744073709551616) (w : World) :
    Calls Tryz.prog 24 #[.int .u64 n] w fun e w' => e = .returned (N n) ∧ Below w.heap.size w w' := by
  have h1 : wd n 1 = 0 := wd_small n 0 hn
  have h2 : wd n 2 = 0 := wd_small n 1 hn
  have h3 : wd n 3 = 0 := wd_small n 2 hn
  have h4 : wd n 4 = 0 := wd_small n 3 hn
  have h5 : wd n 5 = 0 := wd_small n 4 hn
  have h0 := wd_small0 n hn
  unfold N
  rw [h0, h1, h2, h3, h4, h5]
  clear h0 h1 h2 h3 h4 h5 hn
  go_enter Tryz.func24, Tryz.ntmps24
  go_wp2
  refine bodyPost_ret (v := .agg #[.int .u64 n, .int .u64 0, .int .u64 0, .int .u64 0, .int .u64 0, .int .u64 0]) ?_ rfl ⟨rfl, ?_⟩
  · simp [results, Tryz.results24, go_sem]
  · exact (Below.refl _ _).alloc (Nat.le_refl _) _
/-- What Compare tells. -/
def cmpv (a b : Nat) : Int := if a = b then 0 else if a < b then -1 else 1
set_option maxHeartbeats 400000 in
set_option maxRecDepth 100000 in
theorem compare_any (a b : Nat) (ha : a < big) (hb : b < big) (w : World) :
    Calls Tryz.prog 138 #[N a, N b] w fun e w' => e = .returned (.int .i64 (cmpv a b)) ∧ Below w.heap.size w w' := by
  have he := fun w => run_eqN a b ha hb w
  have hs := fun w => sub_any a b ha hb w
  have HS : Hid _ := hs
  clear hs ha hb
  unfold cmpv
  by_cases c : a = b
  · have hd : decide (a = b) = true := decide_eq_true c
    rw [if_pos c]
    simp only [hd] at he
    clear c hd
    go_enter Tryz.func138, Tryz.ntmps138
    go_wp2
    go_ret
    exact ⟨rfl, ((Below.refl _ _).alloc (Nat.le_refl _) _).alloc (by first | omega | (simp <;> omega)) _⟩
  · have hd : decide (a = b) = false := decide_eq_false c
    rw [if_neg c]
    simp only [hd] at he
    clear c hd
    by_cases c2 : a < b
    · rw [if_pos c2]
      have hd2 : decide (a < b) = true := decide_eq_true c2
      simp only [hd2] at HS
      clear hd2 c2
      go_enter Tryz.func138, Tryz.ntmps138
      go_wp2_with fail
      refine (HS.out _).mono ?_
      rintro e w1 ⟨rfl, hb1⟩
      go_wp2
      go_ret
      refine ⟨rfl, ?_⟩
      exact (((((Below.refl _ _).alloc (Nat.le_refl _) _).alloc (by first | omega | (simp <;> omega)) _).trans (hb1.mono (by simp <;> omega))).alloc (by have := hb1.size; simp at this; omega) _)
    · rw [if_neg c2]
      have hd2 : decide (a < b) = false := decide_eq_false c2
      simp only [hd2] at HS
      clear hd2 c2
      go_enter Tryz.func138, Tryz.ntmps138
      go_wp2_with fail
      refine (HS.out _).mono ?_
      rintro e w1 ⟨rfl, hb1⟩
      go_wp2
      go_ret
      refine ⟨rfl, ?_⟩
      exact (((((Below.refl _ _).alloc (Nat.le_refl _) _).alloc (by first | omega | (simp <;> omega)) _).trans (hb1.mono (by simp <;> omega))).alloc (by have := hb1.size; simp at this; omega) _)
end Go.Proofs.YtdbejmgomajjmaaGreatDoor
end
section
namespace Go.Proofs.YtdbejmgomajjmaaGreatDoor
open Go.RowKit
theorem exec_eq6 {ρ : Operand → Value} {o : Oper} {i j : Tmp} {v v' : Nat} {t : Bool} {w : World} (he : ∀ w, (Op.equalIn 10000 24 (N v) (N v')).run Tryz.prog w = .ok t w) (ho : o.op = .binOp .eql 24 (.tmp i) (.tmp j) 24) (hx : ρ (.tmp i) = N v) (hy : ρ (.tmp j) = N v') :
    (execOp ρ o).run Tryz.prog w = .ok (.value (.bool t)) w := by
  simp only [execOp, ho, hx, hy]
  clear hx hy
  go_simp
theorem exec_neq6 {ρ : Operand → Value} {o : Oper} {i j : Tmp} {v v' : Nat} {t : Bool} {w : World} (he : ∀ w, (Op.equalIn 10000 24 (N v) (N v')).run Tryz.prog w = .ok t w) (ho : o.op = .binOp .neq 24 (.tmp i) (.tmp j) 24) (hx : ρ (.tmp i) = N v) (hy : ρ (.tmp j) = N v') :
    (execOp ρ o).run Tryz.prog w = .ok (.value (.bool !t)) w := by
  simp only [execOp, ho, hx, hy]
  clear hx hy
  go_simp
end Go.Proofs.YtdbejmgomajjmaaGreatDoor
end
section
namespace Go.Proofs.YtdbejmgomajjmaaGreatDoor
open Go.RowKit
namespace Rg
/-- The blocks of the list are there, apart from each other, and hold these cells. -/
structure Mm (w : World) (l : List (Nat × List Value)) : Prop where
  blk : ∀ p ∈ l, p.1 < w.heap.size ∧ Blk w p.1 p.2
  nd : l.Pairwise (fun a b => a.1 ≠ b.1)
theorem Mm.nil (w : World) : Mm w [] := ⟨fun p h => absurd h (by simp), List.Pairwise.nil⟩
theorem Mm.below {w w1 : World} {l : List (Nat × List Value)} (h : Mm w l) (hb : Below w.heap.size w w1) : Mm w1 l :=
  ⟨fun p hp => ⟨Nat.lt_of_lt_of_le (h.blk p hp).1 hb.size, (h.blk p hp).2.below hb (h.blk p hp).1⟩, h.nd⟩
theorem Mm.drew {w : World} {l : List (Nat × List Value)} (h : Mm w l) : Mm w.drew l := h.below (Below.refl _ _).drew
theorem Mm.cons {w : World} {l : List (Nat × List Value)} (h : Mm w l) {g : Nat} {cs : List Value} (hb : Blk w g cs) (hg : g < w.heap.size) (hn : ∀ p ∈ l, p.1 ≠ g) : Mm w ((g, cs) :: l) :=
  ⟨fun p hp => by
    rcases List.mem_cons.1 hp with e | hp
    · subst e; exact ⟨hg, hb⟩
    · exact h.blk p hp, List.Pairwise.cons (fun p hp => (hn p hp).symm) h.nd⟩
theorem Mm.alloc {w : World} {l : List (Nat × List Value)} (h : Mm w l) (cs : List Value) (t : TypeId) {g : Nat} (hg : g = w.heap.size) : Mm (w.alloc (.cells cs.toArray t)) ((g, cs) :: l) := by
  subst hg
  exact (h.below ((Below.refl _ _).alloc (Nat.le_refl _) _)).cons (Blk.new w cs t) (by simp) (fun p hp => by have := (h.blk p hp).1; omega)
theorem Mm.sub {w : World} {l l' : List (Nat × List Value)} (h : Mm w l) (hs : l'.Sublist l) : Mm w l' := ⟨fun p hp => h.blk p (hs.subset hp), h.nd.sublist hs⟩
theorem Mm.tail {w : World} {p : Nat × List Value} {l : List (Nat × List Value)} (h : Mm w (p :: l)) : Mm w l := h.sub (List.sublist_cons_self _ _)
theorem Mm.cell {w : World} {l : List (Nat × List Value)} (h : Mm w l) {g : Nat} {cs : List Value} (hm : (g, cs) ∈ l) {k : Nat} {v : Value} (hk : cs[k]? = some v) : w.cell? ⟨g, k, none⟩ = some v := ((h.blk _ hm).2 k v hk).1
theorem Mm.free {w : World} {l : List (Nat × List Value)} (h : Mm w l) {g : Nat} {cs : List Value} (hm : (g, cs) ∈ l) {k : Nat} {v : Value} (hk : cs[k]? = some v) : w.frozen? ⟨g, k, none⟩ = false := ((h.blk _ hm).2 k v hk).2
theorem Mm.lt {w : World} {l : List (Nat × List Value)} (h : Mm w l) {g : Nat} {cs : List Value} (hm : (g, cs) ∈ l) : g < w.heap.size := (h.blk _ hm).1
/-! What a region leaves. -/
def laidOn (i : Nat) : List Kind → Option (List Value)
  | [] => none
  | (Sum.inr (Sum.inr (Sum.inr (Sum.inr (Sum.inl (j, _, cs)))))) :: r => if j = i then some cs else laidOn i r
  | _ :: r => laidOn i r
def fin (ks : List Kind) (i : Nat) : List Value := match laidOn i ks with | some cs => cs | none => (fresh ks i).getD []
theorem laidOn_some {i : Nat} {cs : List Value} : ∀ {ks : List Kind}, laidOn i ks = some cs → ∃ (s : Nat) (zs : List Value), ks[s]? = some (.laid i zs cs)
  | [], h => by cases h
  | k :: r, h => by
    cases k using Kind.each with
    | laid j zs cs' =>
      unfold laidOn at h
      split at h
      · rename_i e
        injection h with h
        subst h e
        exact ⟨0, zs, rfl⟩
      · obtain ⟨s, z, hs⟩ := laidOn_some h
        exact ⟨s + 1, z, hs⟩
    | _ =>
      obtain ⟨s, z, hs⟩ := laidOn_some (ks := r) h
      exact ⟨s + 1, z, hs⟩
theorem laidOn_none {i : Nat} : ∀ {ks : List Kind}, laidOn i ks = none → ∀ (s : Nat) (zs cs : List Value), ks[s]? ≠ some (.laid i zs cs)
  | [], _ => fun _ _ _ h => by simp at h
  | k :: r, h => by
    intro s zs cs hs
    have hr : laidOn i r = none := by
      cases k using Kind.each with
      | laid j z c => unfold laidOn at h; split at h <;> first | cases h | exact h
      | _ => exact h
    cases s with
    | zero =>
      simp at hs
      subst hs
      unfold laidOn at h
      rw [if_pos rfl] at h
      cases h
    | succ s => exact laidOn_none hr s zs cs (by simpa using hs)
theorem Mem.fin {ks : List Kind} {w₀ w : World} {l : Array Bool} {γ : Nat → Nat} (h : Mem ks w₀ l γ w) {p : Nat} (hp : ks.length ≤ p) (hl : ∀ i, i < p → l.getD i false = true) {i : Nat} (hi : (fresh ks i).isSome = true) :
    Blk w (γ i) (fin ks i) ∧ w₀.heap.size ≤ γ i ∧ γ i < w.heap.size := by
  obtain ⟨zs, hz⟩ := Option.isSome_iff_exists.1 hi
  have hlt : ∀ (s : Nat) (k : Kind), ks[s]? = some k → l.getD s false = true := fun s k hs => hl s (by have := (List.getElem?_eq_some_iff.1 hs).1; omega)
  have hil : l.getD i false = true := by
    unfold fresh at hz
    cases hk : ks[i]? with
    | none => rw [hk] at hz; cases hz
    | some k => exact hlt i k hk
  refine ⟨?_, h.made i zs hz hil⟩
  unfold Rg.fin
  cases hL : laidOn i ks with
  | some cs =>
    obtain ⟨s, z, hs⟩ := laidOn_some hL
    exact (h.full s i z cs hs (hlt s _ hs)).1
  | none =>
    rw [hz]
    exact h.raw i zs hz hil (fun s z c hs => absurd hs (laidOn_none hL s z c))
/-- The blocks that a region made, beside those that were there. -/
theorem Mm.grow {ks : List Kind} {w₀ w : World} {l : Array Bool} {γ : Nat → Nat} {L : List (Nat × List Value)} (hm : Mm w₀ L) (h : Mem ks w₀ l γ w) {p : Nat} (hp : ks.length ≤ p) (hl : ∀ i, i < p → l.getD i false = true) :
    ∀ (is : List Nat), (is.all fun i => (fresh ks i).isSome) = true → is.Pairwise (· ≠ ·) → Mm w (is.map (fun i => (γ i, fin ks i)) ++ L)
  | [], _, _ => hm.below h.below
  | i :: is, ha, hn => by
    simp only [List.all_cons, Bool.and_eq_true] at ha
    have ih := Mm.grow hm h hp hl is ha.2 (List.Pairwise.of_cons hn)
    obtain ⟨h1, h2, h3⟩ := h.fin hp hl ha.1
    refine ih.cons h1 h3 (fun q hq => ?_)
    rcases List.mem_append.1 hq with hq | hq
    · obtain ⟨j, hj, e⟩ := List.mem_map.1 hq
      subst e
      have hjs := List.all_eq_true.1 ha.2 j hj
      obtain ⟨zi, hzi⟩ := Option.isSome_iff_exists.1 ha.1
      obtain ⟨zj, hzj⟩ := Option.isSome_iff_exists.1 hjs
      have hlist : ∀ {x : Nat} {z : List Value}, fresh ks x = some z → l.getD x false = true := fun {x z} hx => by
        unfold fresh at hx
        cases hk : ks[x]? with
        | none => rw [hk] at hx; cases hx
        | some k => exact hl x (by have := (List.getElem?_eq_some_iff.1 hk).1; omega)
      exact h.apart j i zj zi hzj hzi (hlist hzj) (hlist hzi) (fun e => (List.rel_of_pairwise_cons hn hj) e.symm)
    · have := (hm.blk q hq).1
      omega
/-- A store into a block of the list. -/
def patch (cs : List Value) (off : Nat) (vs : List Value) : List Value := cs.take off ++ vs ++ cs.drop (off + vs.length)
theorem patch_get (cs : List Value) (off : Nat) (vs : List Value) (h : off + vs.length ≤ cs.length) (k : Nat) : (patch cs off vs)[k]? = if off ≤ k ∧ k < off + vs.length then vs[k - off]? else cs[k]? := by
  unfold patch
  by_cases h1 : k < off
  · rw [if_neg (by omega), List.append_assoc, List.getElem?_append_left (by simp; omega), List.getElem?_take, if_pos h1]
  · by_cases h2 : k < off + vs.length
    · rw [if_pos ⟨by omega, h2⟩, List.append_assoc, List.getElem?_append_right (by simp; omega), List.getElem?_append_left (by simp; omega)]
      congr 1
      simp; omega
    · rw [if_neg (by omega), List.getElem?_append_right (by simp; omega), List.getElem?_drop]
      congr 1
      simp; omega
theorem Blk.patch {w : World} {g : Nat} {cs : List Value} (h : Blk w g cs) (off : Nat) (vs : List Value) (hl : off + vs.length ≤ cs.length) : Blk (w.setCells g off vs) g (patch cs off vs) := fun j v hv => by
  rw [patch_get _ _ _ hl] at hv
  split at hv
  · rename_i hj
    have hz : cs[j]? = some (cs[j]'(by omega)) := List.getElem?_eq_getElem _
    refine ⟨?_, by rw [World.frozen?_setCells]; exact (h j _ hz).2⟩
    have := World.cell?_setCells_in g vs off w (fun i hi => by
      have := (h (off + i) _ (List.getElem?_eq_getElem (show off + i < cs.length by omega))).1
      rw [this]; rfl) (j - off) (by omega)
    rw [show off + (j - off) = j by omega] at this
    rw [this]
    obtain ⟨h1, h2⟩ := List.getElem?_eq_some_iff.1 hv
    rw [← h2]
  · rename_i hj
    exact ⟨by rw [World.cell?_setCells_out g vs off w _ (fun _ => by simp; omega)]; exact (h j v hv).1, by rw [World.frozen?_setCells]; exact (h j v hv).2⟩
theorem Blk.apart {w : World} {g g' off : Nat} {cs vs : List Value} (h : Blk w g cs) (hg : g ≠ g') : Blk (w.setCells g' off vs) g cs := fun j v hv =>
  ⟨by rw [World.cell?_setCells_out g' vs off w _ (fun e => absurd e hg)]; exact (h j v hv).1, by rw [World.frozen?_setCells]; exact (h j v hv).2⟩
theorem Mm.put {w : World} {l : List (Nat × List Value)} (h : Mm w l) (k : Nat) {g off : Nat} {cs vs : List Value} (hk : l[k]? = some (g, cs)) (hl : off + vs.length ≤ cs.length) : Mm (w.setCells g off vs) (l.set k (g, patch cs off vs)) := by
  have hkl : k < l.length := (List.getElem?_eq_some_iff.1 hk).1
  have hke : l[k] = (g, cs) := (List.getElem?_eq_some_iff.1 hk).2
  have hpw := List.pairwise_iff_getElem.1 h.nd
  refine ⟨fun p hp => ?_, ?_⟩
  · rw [size_setCells]
    obtain ⟨j, hj, e⟩ := List.getElem_of_mem hp
    rw [List.getElem_set] at e
    have hj' : j < l.length := by simpa using hj
    split at e
    · subst e
      have := h.blk _ (List.mem_of_getElem? hk)
      exact ⟨this.1, Blk.patch this.2 off vs hl⟩
    · rename_i hne
      subst e
      have := h.blk _ (List.getElem_mem hj')
      refine ⟨this.1, Blk.apart this.2 ?_⟩
      rcases Nat.lt_or_ge j k with h' | h'
      · have := hpw j k hj' hkl h'
        rw [hke] at this
        exact this
      · have := hpw k j hkl hj' (by omega)
        rw [hke] at this
        exact this.symm
  · refine List.pairwise_iff_getElem.2 fun i j hi hj hij => ?_
    have hi' : i < l.length := by simpa using hi
    have hj' : j < l.length := by simpa using hj
    have := hpw i j hi' hj' hij
    rw [List.getElem_set, List.getElem_set]
    split
    · rename_i e1
      subst e1
      rw [if_neg (by omega)]
      rw [hke] at this
      exact this
    · split
      · rename_i e2
        subst e2
        rw [hke] at this
        exact this
      · exact this
end Rg
end Go.Proofs.YtdbejmgomajjmaaGreatDoor
end
section
namespace Go.Proofs.YtdbejmgomajjmaaGreatDoor
open Go.RowKit
/-- What is carried out of the lowest j words of S + x b. -/
def cc (S x b j : Nat) : Nat := (S % 2 ^ (64 * j) + x * (b % 2 ^ (64 * j))) / 2 ^ (64 * j)
theorem cc_zero (S x b : Nat) : cc S x b 0 = 0 := by simp [cc, Nat.mod_one]
theorem cc_core (S x b Q : Nat) (hQ : 0 < Q) :
    (S % (Q * 18446744073709551616) + x * (b % (Q * 18446744073709551616))) / (Q * 18446744073709551616) = (x * (b / Q % 18446744073709551616) + S / Q % 18446744073709551616 + (S % Q + x * (b % Q)) / Q) / 18446744073709551616 ∧
    (S + x * b) / Q % 18446744073709551616 = (x * (b / Q % 18446744073709551616) + S / Q % 18446744073709551616 + (S % Q + x * (b % Q)) / Q) % 18446744073709551616 := by
  constructor
  · rw [Nat.mod_mul, Nat.mod_mul, ← Nat.div_div_eq_div_mul]
    have e : S % Q + Q * (S / Q % 18446744073709551616) + x * (b % Q + Q * (b / Q % 18446744073709551616)) = (S % Q + x * (b % Q)) + Q * (x * (b / Q % 18446744073709551616) + S / Q % 18446744073709551616) := by
      rw [Nat.mul_add, Nat.mul_add, Nat.mul_left_comm x Q]; omega
    rw [e, Nat.add_mul_div_left _ _ hQ]
    congr 1
    omega
  · have e : S + x * b = (S % Q + x * (b % Q)) + Q * (S / Q + x * (b / Q)) := by
      have h1 := Nat.div_add_mod S Q
      have h2 : x * b = x * (Q * (b / Q)) + x * (b % Q) := by rw [← Nat.mul_add, Nat.div_add_mod]
      rw [Nat.mul_add, Nat.mul_left_comm Q x]; omega
    rw [e, Nat.add_mul_div_left _ _ hQ]
    generalize (S % Q + x * (b % Q)) / Q = c
    have h3 : x * (b / Q) = 18446744073709551616 * (x * (b / Q / 18446744073709551616)) + x * (b / Q % 18446744073709551616) := by
      rw [Nat.mul_left_comm, ← Nat.mul_add, Nat.div_add_mod]
    generalize x * (b / Q) = p at h3 ⊢
    generalize x * (b / Q / 18446744073709551616) = q at h3
    generalize x * (b / Q % 18446744073709551616) = r at h3 ⊢
    omega
theorem cc_lt (S x b j : Nat) (hx : x < 18446744073709551616) : cc S x b j < 18446744073709551616 := by
  unfold cc
  have hq := pow_pos' j
  have h1 := Nat.mod_lt S hq
  have h3 := Nat.mod_lt b hq
  rw [Nat.div_lt_iff_lt_mul hq]
  have h4 : x * (b % 2 ^ (64 * j)) ≤ 18446744073709551615 * 2 ^ (64 * j) := Nat.mul_le_mul (by omega) (by omega)
  generalize 2 ^ (64 * j) = Q at *
  omega
theorem cc_hi (S x b j : Nat) : mulHi (x : Int) (wd b j) (wd S j) (cc S x b j : Nat) = (cc S x b (j + 1) : Nat) := by
  unfold mulHi
  have e := (cc_core S x b _ (pow_pos' j)).1
  unfold cc
  rw [pow_step, e, wd_wn, wd_wn]
  unfold wn
  rw [← Int.natCast_mul, ← Int.natCast_add, ← Int.natCast_add]
  rfl
theorem cc_lo (S x b j : Nat) : mulLo (x : Int) (wd b j) (wd S j) (cc S x b j : Nat) = wd (S + x * b) j := by
  unfold mulLo cc
  have e := (cc_core S x b _ (pow_pos' j)).2
  rw [wd_wn (S + x * b)]
  unfold wn
  rw [e, wd_wn, wd_wn]
  unfold wn
  rw [← Int.natCast_mul, ← Int.natCast_add, ← Int.natCast_add]
  rfl
/-! Congruences. -/
/-- a and b leave the same by n. -/
def Cg (n a b : Nat) : Prop := a % n = b % n
theorem Cg.refl (n a : Nat) : Cg n a a := rfl
theorem Cg.symm {n a b : Nat} (h : Cg n a b) : Cg n b a := Eq.symm h
theorem Cg.trans {n a b c : Nat} (h : Cg n a b) (h' : Cg n b c) : Cg n a c := Eq.trans h h'
theorem Cg.mul {n a b c d : Nat} (h : Cg n a b) (h' : Cg n c d) : Cg n (a * c) (b * d) := by
  unfold Cg at *; rw [Nat.mul_mod, h, h', ← Nat.mul_mod]
theorem Cg.add {n a b c d : Nat} (h : Cg n a b) (h' : Cg n c d) : Cg n (a + c) (b + d) := by
  unfold Cg at *; rw [Nat.add_mod, h, h', ← Nat.add_mod]
theorem Cg.mod (n a : Nat) : Cg n (a % n) a := Nat.mod_mod a n
theorem Cg.mulL {n a b : Nat} (c : Nat) (h : Cg n a b) : Cg n (c * a) (c * b) := (Cg.refl n c).mul h
theorem Cg.mulR {n a b : Nat} (c : Nat) (h : Cg n a b) : Cg n (a * c) (b * c) := h.mul (Cg.refl n c)
theorem Cg.addL {n a b : Nat} (c : Nat) (h : Cg n a b) : Cg n (c + a) (c + b) := (Cg.refl n c).add h
theorem Cg.addR {n a b : Nat} (c : Nat) (h : Cg n a b) : Cg n (a + c) (b + c) := h.add (Cg.refl n c)
theorem Cg.zero (n k : Nat) : Cg n (k * n) 0 := by unfold Cg; rw [Nat.mul_mod_left, Nat.zero_mod]
theorem Cg.pow {n a b : Nat} (h : Cg n a b) (k : Nat) : Cg n (a ^ k) (b ^ k) := by
  induction k with
  | zero => exact Cg.refl _ _
  | succ k ih => rw [Nat.pow_succ, Nat.pow_succ]; exact ih.mul h
theorem Cg.eq_of_lt {n a b : Nat} (h : Cg n a b) (ha : a < n) (hb : b < n) : a = b := by
  unfold Cg at h; rwa [Nat.mod_eq_of_lt ha, Nat.mod_eq_of_lt hb] at h
theorem Cg.eq_mod {n a b : Nat} (h : Cg n a b) (ha : a < n) : a = b % n := by
  unfold Cg at h; rwa [Nat.mod_eq_of_lt ha] at h
/-! A half, by an odd number; what undoes 2^384. -/
def hf (n : Nat) : Nat := (n + 1) / 2
theorem hf_two (n : Nat) (ho : n % 2 = 1) : Cg n (2 * hf n) 1 := by
  have e : 2 * hf n = 1 + n := by unfold hf; omega
  unfold Cg; rw [e, Nat.add_mod_right]
theorem hf_pow (n k : Nat) (ho : n % 2 = 1) : Cg n (2 ^ k * hf n ^ k) 1 := by
  rw [← Nat.mul_pow]
  have := (hf_two n ho).pow k
  rwa [Nat.one_pow] at this
def ri (n : Nat) : Nat := hf n ^ (64 * 6)
theorem ri_big (n : Nat) (ho : n % 2 = 1) : Cg n (big * ri n) 1 := by
  unfold ri; rw [big_eq]
  obtain ⟨k, hk⟩ : ∃ k, k = 64 * 6 := ⟨_, rfl⟩
  rw [← hk]
  exact hf_pow n k ho
/-- What Montgomery's product tells. -/
def mont (n a b : Nat) : Nat := a * b * ri n % n
theorem mont_lt (n a b : Nat) (hn : 0 < n) : mont n a b < n := Nat.mod_lt _ hn
theorem mont_cg (n a b : Nat) : Cg n (mont n a b) (a * b * ri n) := Cg.mod _ _
theorem mont_of (n a b y : Nat) (ho : n % 2 = 1) (h : Cg n (y * big) (a * b)) : Cg n y (mont n a b) := by
  have h1 : Cg n (y * big * ri n) (a * b * ri n) := h.mulR _
  have h2 : Cg n (y * (big * ri n)) (y * 1) := (ri_big n ho).mulL y
  rw [← Nat.mul_assoc, Nat.mul_one] at h2
  exact (h2.symm.trans h1).trans (mont_cg n a b).symm
/-! The rounds. -/
def mt (X wr : Nat) : Nat := X % 18446744073709551616 * wr % 18446744073709551616
theorem mt_lt (X wr : Nat) : mt X wr < 18446744073709551616 := Nat.mod_lt _ (by decide)
def mstep (n wr b S x : Nat) : Nat := (S + x * b + mt (S + x * b) wr * n) / 18446744073709551616
def mrun (n wr a b : Nat) : Nat → Nat
  | 0 => 0
  | i + 1 => mstep n wr b (mrun n wr a b i) (wn a i)
theorem mt_even (n wr X : Nat) (h : wr * n % 18446744073709551616 = 18446744073709551615) : (X + mt X wr * n) % 18446744073709551616 = 0 := by
  have h1 : Cg 18446744073709551616 (mt X wr * n) (X * (wr * n)) := by
    rw [← Nat.mul_assoc]
    exact (((Cg.mod _ _).trans ((Cg.mod _ _).mulR wr))).mulR n
  have h2 : Cg 18446744073709551616 (X * (wr * n)) (X * 18446744073709551615) := Cg.mulL X (by unfold Cg; rw [h])
  have h3 := (h1.trans h2).addL X
  unfold Cg at h3
  rw [h3]
  omega
theorem mstep_mul (n wr b S x : Nat) (h : wr * n % 18446744073709551616 = 18446744073709551615) : mstep n wr b S x * 18446744073709551616 = S + x * b + mt (S + x * b) wr * n := by
  have := mt_even n wr (S + x * b) h
  unfold mstep
  omega
theorem mstep_lt (n wr b S x : Nat) (hS : S < b + n) (hx : x < 18446744073709551616) : mstep n wr b S x < b + n := by
  unfold mstep
  have ht := mt_lt (S + x * b) wr
  rw [Nat.div_lt_iff_lt_mul (by decide)]
  have h1 : x * b ≤ 18446744073709551615 * b := Nat.mul_le_mul_right _ (by omega)
  have h2 : mt (S + x * b) wr * n ≤ 18446744073709551615 * n := Nat.mul_le_mul_right _ (by omega)
  omega
theorem mrun_lt (n wr a b : Nat) (hn : 0 < n) : ∀ i, mrun n wr a b i < b + n
  | 0 => by unfold mrun; omega
  | i + 1 => mstep_lt n wr b _ _ (mrun_lt n wr a b hn i) (wn_lt a i)
theorem mrun_cg (n wr a b : Nat) (h : wr * n % 18446744073709551616 = 18446744073709551615) : ∀ i, Cg n (mrun n wr a b i * 2 ^ (64 * i)) (a % 2 ^ (64 * i) * b)
  | 0 => by
    unfold mrun
    rw [Nat.mul_zero, Nat.pow_zero, Nat.mod_one, Nat.zero_mul, Nat.zero_mul]
    exact Cg.refl _ _
  | i + 1 => by
    have ih := mrun_cg n wr a b h i
    have e : mrun n wr a b (i + 1) * 2 ^ (64 * (i + 1)) = mrun n wr a b i * 2 ^ (64 * i) + wn a i * b * 2 ^ (64 * i) + mt (mrun n wr a b i + wn a i * b) wr * 2 ^ (64 * i) * n := by
      have hm := mstep_mul n wr b (mrun n wr a b i) (wn a i) h
      rw [pow_step, Nat.mul_comm (2 ^ (64 * i)), ← Nat.mul_assoc]
      show mstep n wr b (mrun n wr a b i) (wn a i) * 18446744073709551616 * 2 ^ (64 * i) = _
      rw [hm, Nat.add_mul, Nat.add_mul]
      congr 1
      rw [Nat.mul_assoc, Nat.mul_comm n, ← Nat.mul_assoc]
    rw [e, mod_step, Nat.add_mul]
    have h2 := (ih.addR (wn a i * b * 2 ^ (64 * i))).add (Cg.zero n (mt (mrun n wr a b i + wn a i * b) wr * 2 ^ (64 * i)))
    rw [Nat.add_zero] at h2
    refine h2.trans ?_
    have e3 : wn a i * b * 2 ^ (64 * i) = 2 ^ (64 * i) * wn a i * b := by rw [Nat.mul_comm, ← Nat.mul_assoc]
    rw [e3]
    exact Cg.refl _ _
theorem mrun_end (n wr a b : Nat) (ho : n % 2 = 1) (h : wr * n % 18446744073709551616 = 18446744073709551615) (ha : a < big) : Cg n (mrun n wr a b 6) (mont n a b) := by
  have := mrun_cg n wr a b h 6
  rw [← big_eq, Nat.mod_eq_of_lt ha] at this
  exact mont_of n a b _ ho this
theorem low_cut (n x y : Nat) (h : Cg n x y) (hx : x < n + n) (hy : y < n) : (if x < n then x else x - n) = y := by
  split
  · exact h.eq_of_lt ‹_› hy
  · refine Cg.eq_of_lt (n := n) ?_ (by omega) hy
    refine Cg.trans ?_ h
    unfold Cg
    rw [Nat.mod_eq_sub_mod (a := x) (by omega)]
/-! One round's words. -/
theorem step_word (n wr b S x k : Nat) : wd (mstep n wr b S x) k = wd (S + x * b + mt (S + x * b) wr * n) (k + 1) := by
  unfold mstep wd
  rw [pow_step, Nat.mul_comm (2 ^ (64 * k)), Nat.div_div_eq_div_mul]
theorem big_pos0 : 0 < big := by rw [big_eq]; exact pow_pos' 6
theorem step_top (n wr b S x : Nat) (hS : S < big) (hb : b < big) (hn : n < big) (hr : mstep n wr b S x < big) : (cc S x b 6 + cc (S + x * b) (mt (S + x * b) wr) n 6 : Nat) = wn (mstep n wr b S x) 5 := by
  have e1 : cc S x b 6 = (S + x * b) / big := by unfold cc; rw [← big_eq, Nat.mod_eq_of_lt hS, Nat.mod_eq_of_lt hb]
  have e2 : cc (S + x * b) (mt (S + x * b) wr) n 6 = ((S + x * b) % big + mt (S + x * b) wr * n) / big := by unfold cc; rw [← big_eq, Nat.mod_eq_of_lt hn]
  rw [e1, e2]
  have e3 : mstep n wr b S x = (S + x * b + mt (S + x * b) wr * n) / 18446744073709551616 := rfl
  rw [e3] at hr ⊢
  unfold wn
  obtain ⟨m, hm⟩ : ∃ m, m = 5 := ⟨_, rfl⟩
  have hb' : big = 2 ^ (64 * m) * 18446744073709551616 := by
    rw [big_eq, ← pow_step m]
    have : 6 = m + 1 := by omega
    rw [this]
  rw [← hm]
  generalize mt (S + x * b) wr * n = T at hr ⊢
  generalize S + x * b = X at hr ⊢
  have h1 : (X + T) / 18446744073709551616 / 2 ^ (64 * m) = (X + T) / big := by rw [Nat.div_div_eq_div_mul, hb', Nat.mul_comm]
  have h2 : (X + T) / 18446744073709551616 / 2 ^ (64 * m) < 18446744073709551616 := Nat.div_lt_of_lt_mul (by rw [← hb']; exact hr)
  have h3 : (X + T) / big = X / big + (X % big + T) / big := by
    have h4 := Nat.div_add_mod X big
    have h5 : X + T = (X % big + T) + big * (X / big) := by omega
    rw [h5, Nat.add_mul_div_left _ _ big_pos0]; omega
  rw [Nat.mod_eq_of_lt h2, h1, h3]
end Go.Proofs.YtdbejmgomajjmaaGreatDoor
end
section
namespace Go.Proofs.YtdbejmgomajjmaaGreatDoor
open Go.RowKit
namespace Rg
abbrev PT (g off : Nat) : Value := .pointer (some ⟨g, off, none⟩)
theorem six_of {cs : List Value} {off v : Nat} (hc : (cs.drop off).take 6 = cells6 v) : cs[off]? = some (.int .u64 (wd v 0)) ∧ cs[off + 1]? = some (.int .u64 (wd v 1)) ∧ cs[off + 2]? = some (.int .u64 (wd v 2)) ∧ cs[off + 3]? = some (.int .u64 (wd v 3)) ∧ cs[off + 4]? = some (.int .u64 (wd v 4)) ∧ cs[off + 5]? = some (.int .u64 (wd v 5)) := by
  have h : ∀ k, k < 6 → cs[off + k]? = (cells6 v)[k]? := fun k hk => by
    rw [← hc, List.getElem?_take, if_pos hk, List.getElem?_drop]
  exact ⟨h 0 (by decide), h 1 (by decide), h 2 (by decide), h 3 (by decide), h 4 (by decide), h 5 (by decide)⟩
theorem ex_load6 {ρ : Operand → Value} {o : Oper} {x : Operand} {g off v : Nat} {cs : List Value} {w : World} {l : List (Nat × List Value)} (h : Mm w l) (k : Nat) (hk : l[k]? = some (g, cs)) (ho : o.op = .load 24 x) (hx : ρ x = PT g off) (hc : (cs.drop off).take 6 = cells6 v) :
    (execOp ρ o).run Tryz.prog w = .ok (.value (N v)) w := by
  have hm := List.mem_of_getElem? hk
  obtain ⟨k0, k1, k2, k3, k4, k5⟩ := six_of hc
  have c0 := h.cell hm k0
  have c1 := h.cell hm k1
  have c2 := h.cell hm k2
  have c3 := h.cell hm k3
  have c4 := h.cell hm k4
  have c5 := h.cell hm k5
  clear h hk hm hc k0 k1 k2 k3 k4 k5
  simp only [execOp, ho, hx]
  go_simp
theorem ex_load1 {ρ : Operand → Value} {o : Oper} {x : Operand} {g off : Nat} {v : Value} {cs : List Value} {w : World} {l : List (Nat × List Value)} (h : Mm w l) (k : Nat) (hk : l[k]? = some (g, cs)) (ho : o.op = .load 22 x) (hx : ρ x = PT g off) (hc : cs[off]? = some v) :
    (execOp ρ o).run Tryz.prog w = .ok (.value v) w := by
  have c0 := h.cell (List.mem_of_getElem? hk) hc
  clear h hk hc
  simp only [execOp, ho, hx]
  go_simp
theorem ex_box6 {ρ : Operand → Value} {o : Oper} {x : Operand} {v : Nat} {w : World} (ho : o.op = .box 24 x) (hx : ρ x = N v) :
    (execOp ρ o).run Tryz.prog w = .ok (.value (.pointer (some ⟨w.heap.size, 0, none⟩))) (w.alloc (.cells (cells6 v).toArray 24)) := by
  simp only [execOp, ho, hx]
  go_simp
theorem ex_store6 {ρ : Operand → Value} {o : Oper} {x y : Operand} {g off v : Nat} {cs : List Value} {w : World} {l : List (Nat × List Value)} (h : Mm w l) (k : Nat) (hk : l[k]? = some (g, cs)) (ho : o.op = .store 24 x y) (hx : ρ x = PT g off) (hy : ρ y = N v) (hc : off + 6 ≤ cs.length) :
    (execOp ρ o).run Tryz.prog w = .ok .skip (w.setCells g off (cells6 v)) := by
  have hm := List.mem_of_getElem? hk
  have hq : ∀ k, k < 6 → ∃ u, w.cell? ⟨g, off + k, none⟩ = some u ∧ w.frozen? ⟨g, off + k, none⟩ = false := fun k hk => by
    have e : cs[off + k]? = some (cs[off + k]'(by omega)) := List.getElem?_eq_getElem _
    exact ⟨_, h.cell hm e, h.free hm e⟩
  obtain ⟨u0, c0, f0⟩ := hq 0 (by decide)
  obtain ⟨u1, c1, f1⟩ := hq 1 (by decide)
  obtain ⟨u2, c2, f2⟩ := hq 2 (by decide)
  obtain ⟨u3, c3, f3⟩ := hq 3 (by decide)
  obtain ⟨u4, c4, f4⟩ := hq 4 (by decide)
  obtain ⟨u5, c5, f5⟩ := hq 5 (by decide)
  clear h hm hc hk hq
  rw [Nat.add_zero] at c0 f0
  simp only [execOp, ho, hx, hy]
  go_simp
  simp [World.setCells]
theorem ex_storeI {ρ : Operand → Value} {o : Oper} {x y : Operand} {g off : Nat} {ik : IntKind} {v : Int} {t : TypeId} {cs : List Value} {w : World} {l : List (Nat × List Value)} (h : Mm w l) (k : Nat) (hk : l[k]? = some (g, cs)) (ho : o.op = .store t x y) (hs : ∀ w, (sizeOf t).run Tryz.prog w = .ok 1 w) (hx : ρ x = PT g off) (hy : ρ y = .int ik v) (hc : off < cs.length) :
    (execOp ρ o).run Tryz.prog w = .ok .skip (w.setCells g off [.int ik v]) := by
  have hm := List.mem_of_getElem? hk
  have e : cs[off]? = some (cs[off]'hc) := List.getElem?_eq_getElem _
  have c0 := h.cell hm e
  have f0 := h.free hm e
  clear h hm hk
  simp only [execOp, ho, hx, hy]
  go_simp
  simp [World.setCells]
theorem ex_storeB {ρ : Operand → Value} {o : Oper} {x y : Operand} {g off : Nat} {v : Bool} {t : TypeId} {cs : List Value} {w : World} {l : List (Nat × List Value)} (h : Mm w l) (k : Nat) (hk : l[k]? = some (g, cs)) (ho : o.op = .store t x y) (hs : ∀ w, (sizeOf t).run Tryz.prog w = .ok 1 w) (hx : ρ x = PT g off) (hy : ρ y = .bool v) (hc : off < cs.length) :
    (execOp ρ o).run Tryz.prog w = .ok .skip (w.setCells g off [.bool v]) := by
  have hm := List.mem_of_getElem? hk
  have e : cs[off]? = some (cs[off]'hc) := List.getElem?_eq_getElem _
  have c0 := h.cell hm e
  have f0 := h.free hm e
  clear h hm hk
  simp only [execOp, ho, hx, hy]
  go_simp
  simp [World.setCells]
theorem Mm.one {w : World} {l : List (Nat × List Value)} (h : Mm w l) (k : Nat) {p : Nat × List Value} (hk : l[k]? = some p) : Mm w [p] :=
  ⟨fun q hq => by rw [List.mem_singleton.1 hq]; exact h.blk p (List.mem_of_getElem? hk), List.pairwise_singleton _ _⟩
theorem Mm.get {w : World} {l : List (Nat × List Value)} (h : Mm w l) (k : Nat) {g : Nat} {cs : List Value} (hk : l[k]? = some (g, cs)) (j : Nat) {v : Value} (hj : cs[j]? = some v) : w.cell? ⟨g, j, none⟩ = some v := h.cell (List.mem_of_getElem? hk) hj
/-- A call of a function in place of which the model has a law. -/
theorem ex_extern {P : Program} {ρ : Operand → Value} {o : Oper} {f : FuncId} {xs : Array Operand} {ts : Array TypeId} {args : Array Value} {v : Value} {w : World} (ho : o.op = .call { callee := .value (.func f), args := xs, argTypes := ts }) (hc : (callFunc f args).run P w = .ok (.value v) w) (hf : ρ (.func f) = .func (.func f) #[] #[]) (hx : xs.map ρ = args) :
    (execOp ρ o).run P w = .ok (.value v) w := by
  subst hx
  simp only [execOp, ho, resolve, hf]
  simp [go_sem, Deferred.ofValue, invoke, hc]
/-! The laws of regions, as a walk uses them. -/
section
variable {P : Program} {Q : Exit → Act → World → Prop} {full : Array Oper} {a : Act} {w : World}
theorem take_arr (full : Array Oper) (p : Nat) : full.extract 0 p = (full.toList.take p).toArray := by
  apply Array.toList_inj.1
  simp [List.extract_eq_take_drop]
theorem walk_any {id : Nat} (hm : P.follows .mixedOrders = true) (p : Nat) (ks : List Kind) (S : World → Prop) (pre : List Oper) (F : (Nat → Nat) → Act) (hpre : full.toList.take p = pre)
    (hF : ∀ γ, fill γ 0 pre ks a = F γ) (hor : (orderly pre.toArray ks a.tmps.size && guarded pre.toArray p && chained full p && decide (p ≤ full.size)) = true) (hL : LaidOk ks ks) (hS : ∀ w', Below w.heap.size w w' → S w')
    (hops : AllOk P pre.toArray S F pre ks)
    (hend : ∀ γ w' l, Mem ks w l γ w' → (∀ i, i < p → l.getD i false = true) → wpOps P full Q (List.range' p (full.size - p)) (F γ) w') :
    (Code.region id full true).wp P Q a w := by
  subst hpre
  rw [← take_arr] at hor hops
  refine region_any hm p ks S F (fun γ => ?_) hor hL hS ?_ hend
  · rw [take_arr]; exact hF γ
  · have e : (full.extract 0 p).toList = full.toList.take p := by rw [take_arr]
    rw [e]; exact hops
theorem walk_seq {id : Nat} (p : Nat) (ks : List Kind) (S : World → Prop) (pre : List Oper) (F : (Nat → Nat) → Act) (hpre : full.toList.take p = pre)
    (hF : ∀ γ, fill γ 0 pre ks a = F γ) (hor : (orderly pre.toArray ks a.tmps.size && guarded pre.toArray p && decide (p ≤ full.size)) = true) (hL : LaidOk ks ks) (hS : ∀ w', Below w.heap.size w w' → S w')
    (hops : AllOk P pre.toArray S F pre ks)
    (hend : ∀ γ w' l, Mem ks w l γ w' → (∀ i, i < p → l.getD i false = true) → wpOps P full Q (List.range' p (full.size - p)) (F γ) w') :
    (Code.region id full false).wp P Q a w := by
  subst hpre
  rw [← take_arr] at hor hops
  refine region_seq p ks S F (fun γ => ?_) hor hL hS ?_ hend
  · rw [take_arr]; exact hF γ
  · have e : (full.extract 0 p).toList = full.toList.take p := by rw [take_arr]
    rw [e]; exact hops
theorem AllOk.cons {ops : Array Oper} {S : World → Prop} {F : (Nat → Nat) → Act} {o : Oper} {os : List Oper} {k : Kind} {ks : List Kind} (h : KindOk P ops S F o k) (hs : AllOk P ops S F os ks) : AllOk P ops S F (o :: os) (k :: ks) := ⟨h, hs⟩
theorem rest_at {p m : Nat} {l : List Nat} (h : List.range' p m = l) (hw : wpOps P full Q l a w) : wpOps P full Q (List.range' p m) a w := by rw [h]; exact hw
theorem then_normal {K : Act → World → Prop} (h : K a w) : Exit.then K Q .normal a w := h
theorem then_ret {K : Act → World → Prop} (h : Q .ret a w) : Exit.then K Q .ret a w := h
theorem then_exit {K : Act → World → Prop} {id : Nat} (h : Q (.exit id) a w) : Exit.then K Q (.exit id) a w := h
theorem block_ret {id : Nat} (h : Q .ret a w) : Exit.inBlock id Q .ret a w := h
theorem rest_set {i d : Nat} {r : List Nat} {o : Oper} {v : Value} {w' : World} (ho : full[i]? = some o) (hd : o.dst = some d) (hw : Region.wanted o (yielded full a.tmps) = true) (hx : (execOp a.eval o).run P w = .ok (.value v) w') (h : wpOps P full Q r (a.put (some d) v) w') : wpOps P full Q (i :: r) a w :=
  rest_value ho hw hx (by rw [hd]; exact h)
theorem rest_store {i : Nat} {r : List Nat} {o : Oper} {w' : World} (ho : full[i]? = some o) (hd : o.dst = none) (hw : Region.wanted o (yielded full a.tmps) = true) (hx : (execOp a.eval o).run P w = .ok .skip w') (h : wpOps P full Q r a w') : wpOps P full Q (i :: r) a w :=
  rest_skip ho hw hx (by rw [hd]; exact h)
theorem rest_enter {i d : Nat} {r : List Nat} {o : Oper} {f : FuncId} {args : Array Value} {R : Value → World → Prop} (ho : full[i]? = some o) (hd : o.dst = some d) (hw : Region.wanted o (yielded full a.tmps) = true) (hx : (execOp a.eval o).run P w = .ok (.enter f args) w)
    (hc : Calls P f args w (fun e w' => ∃ v, e = .returned v ∧ R v w')) (h : ∀ v w', R v w' → wpOps P full Q r (a.put (some d) v) w') : wpOps P full Q (i :: r) a w :=
  rest_call ho hw hx hc (fun v w' hr => by rw [hd]; exact h v w' hr)
theorem block_exit {id : Nat} (h : Q .normal a w) : Exit.inBlock id Q (.exit id) a w := by simp only [Exit.inBlock, if_true]; exact h
theorem block_normal {id : Nat} (h : Q .normal a w) : Exit.inBlock id Q .normal a w := h
/-- A loop, by what is known at each round's beginning. -/
theorem loop_ghost {α : Type} {c : Code} (I : α → Act → World → Prop) (μ : α → Nat) (x₀ : α) (h₀ : I x₀ a w)
    (round : ∀ x a w, I x a w → c.wp P (Exit.then (fun a' w' => ∃ x', I x' a' w' ∧ μ x' < μ x) Q) a w) : (Code.loop c).wp P Q a w := by
  have least : ∀ (n : Nat) (a : Act) (w : World) (x : α), μ x = n → I x a w → ∃ y, I y a w ∧ ∀ z, I z a w → μ y ≤ μ z := by
    intro n
    induction n using Nat.strongRecOn with
    | _ n ih =>
      intro a w x hn hx
      by_cases h : ∃ z, I z a w ∧ μ z < μ x
      · obtain ⟨z, hz, hlt⟩ := h
        exact ih (μ z) (by omega) a w z rfl hz
      · refine ⟨x, hx, fun z hz => ?_⟩
        rcases Nat.lt_or_ge (μ z) (μ x) with h' | h'
        · exact absurd ⟨z, hz, h'⟩ h
        · exact h'
  have pick : ∀ (a : Act) (w : World), ∃ m : Nat, ∀ x, I x a w → (∃ y, I y a w ∧ μ y = m) ∧ m ≤ μ x := by
    intro a w
    by_cases h : ∃ x, I x a w
    · obtain ⟨x, hx⟩ := h
      obtain ⟨y, hy, hmin⟩ := least _ a w x rfl hx
      exact ⟨μ y, fun z hz => ⟨⟨y, hy, rfl⟩, hmin z hz⟩⟩
    · exact ⟨0, fun x hx => absurd ⟨x, hx⟩ h⟩
  refine wp_loop (fun a w => ∃ x, I x a w) (fun a w => Classical.choose (pick a w)) ⟨x₀, h₀⟩ ?_
  rintro a w ⟨x, hx⟩
  obtain ⟨⟨y, hy, hm⟩, hle⟩ := Classical.choose_spec (pick a w) x hx
  refine Code.wp_mono (fun e a' w' h => ?_) (round y a w hy)
  cases e with
  | normal =>
    obtain ⟨x', hx', hlt⟩ := h
    refine ⟨⟨x', hx'⟩, ?_⟩
    have := (Classical.choose_spec (pick a' w') x' hx').2
    show Classical.choose (pick a' w') < Classical.choose (pick a w)
    omega
  | _ => exact h
end
/-! Shorter words for what stands behind each region. -/
theorem keepB {w₀ w w' : World} {L : List (Nat × List Value)} (H : Hid (Mm w L ∧ Below w₀.heap.size w₀ w)) (hb : Below w.heap.size w w') : Hid (Mm w' L ∧ Below w₀.heap.size w₀ w') :=
  ⟨H.out.1.below hb, H.out.2.trans (hb.mono H.out.2.size)⟩
theorem growB {ks : List Kind} {w₀ w w' : World} {l : Array Bool} {γ : Nat → Nat} {L : List (Nat × List Value)} (H : Hid (Mm w L ∧ Below w₀.heap.size w₀ w)) (h : Mem ks w l γ w') {p : Nat} (hp : ks.length ≤ p) (hl : ∀ i, i < p → l.getD i false = true)
    (is : List Nat) (ha : (is.all fun i => (fresh ks i).isSome) = true) (hn : is.Pairwise (· ≠ ·)) : Hid (Mm w' (is.map (fun i => (γ i, fin ks i)) ++ L) ∧ Below w₀.heap.size w₀ w') :=
  ⟨H.out.1.grow h hp hl is ha hn, H.out.2.trans (h.below.mono H.out.2.size)⟩
theorem ownB {ks : List Kind} {w₀ w w' : World} {l : Array Bool} {γ : Nat → Nat} {L : List (Nat × List Value)} (H : Hid (Mm w L ∧ Below w₀.heap.size w₀ w)) (h : Mem ks w l γ w') {p : Nat} (hp : ks.length ≤ p) (hl : ∀ i, i < p → l.getD i false = true) {i : Nat} (hi : (fresh ks i).isSome = true) : Hid (w₀.heap.size ≤ γ i) :=
  Nat.le_trans H.out.2.size (h.fin hp hl hi).2.1
theorem sB {w : World} {L : List (Nat × List Value)} {R : World → Prop} (H : Hid (Mm w L ∧ R w)) (w' : World) (hb : Below w.heap.size w w') : Mm w' L := H.out.1.below hb
theorem sa {l : List Value} {i : Nat} {x : Value} : l.toArray.setIfInBounds i x = (l.set i x).toArray := List.setIfInBounds_toArray ..
theorem sz {l : List Value} {x y : Value} : (x :: l).set 0 y = y :: l := rfl
theorem ss {l : List Value} {n : Nat} {x y : Value} : (x :: l).set (n + 1) y = x :: l.set n y := rfl
theorem tk {α : Type} {l : List α} {n : Nat} {x : α} : (x :: l).take (n + 1) = x :: l.take n := rfl
theorem tz {α : Type} {l : List α} : l.take 0 = [] := rfl
theorem rest0 {P : Program} {Q : Exit → Act → World → Prop} {full : Array Oper} {a : Act} {w : World} {p m : Nat} (h : List.range' p m = []) (hw : Q .normal a w) : wpOps P full Q (List.range' p m) a w := by rw [h]; exact rest_nil hw
theorem walk_seqB {P : Program} {Q : Exit → Act → World → Prop} {full : Array Oper} {a : Act} {w w₀ : World} {L : List (Nat × List Value)} {id : Nat} (p : Nat) (ks : List Kind) {pre : List Oper} {F : (Nat → Nat) → Act} (H : Hid (Mm w L ∧ Below w₀.heap.size w₀ w))
    (hops : AllOk P pre.toArray (fun w' => Mm w' L) F pre ks)
    (hend : ∀ γ w', Hid (Mm w' L ∧ Below w₀.heap.size w₀ w') → wpOps P full Q (List.range' p (full.size - p)) (F γ) w')
    (hq : full.toList.take p = pre ∧ (∀ γ, fill γ 0 pre ks a = F γ) ∧ (orderly pre.toArray ks a.tmps.size && guarded pre.toArray p && decide (p ≤ full.size)) = true := by
      refine ⟨?_, ?_, ?_⟩
      · simp only [List.append_eq, List.cons_append, List.nil_append, tk, tz]; rfl
      · intro _; simp only [fill, Kind.val, Act.put, sa, sz, ss]; rfl
      · kernel_rfl)
    (hL : LaidOk ks ks := by trivial) :
    (Code.region id full false).wp P Q a w :=
  walk_seq p ks _ pre F hq.1 hq.2.1 hq.2.2 hL (sB H) hops (fun γ w' _ hM _ => hend γ w' (keepB H hM.below))
theorem walk_anyB {P : Program} {Q : Exit → Act → World → Prop} {full : Array Oper} {a : Act} {w w₀ : World} {L : List (Nat × List Value)} {id : Nat} (p : Nat) (ks : List Kind) {pre : List Oper} {F : (Nat → Nat) → Act} (H : Hid (Mm w L ∧ Below w₀.heap.size w₀ w))
    (hops : AllOk P pre.toArray (fun w' => Mm w' L) F pre ks)
    (hend : ∀ γ w', Hid (Mm w' L ∧ Below w₀.heap.size w₀ w') → wpOps P full Q (List.range' p (full.size - p)) (F γ) w')
    (hq : full.toList.take p = pre ∧ (∀ γ, fill γ 0 pre ks a = F γ) ∧ (orderly pre.toArray ks a.tmps.size && guarded pre.toArray p && chained full p && decide (p ≤ full.size)) = true := by
      refine ⟨?_, ?_, ?_⟩
      · simp only [List.append_eq, List.cons_append, List.nil_append, tk, tz]; rfl
      · intro _; simp only [fill, Kind.val, Act.put, sa, sz, ss]; rfl
      · kernel_rfl)
    (hm : P.follows .mixedOrders = true := by kernel_rfl)
    (hL : LaidOk ks ks := by trivial) :
    (Code.region id full true).wp P Q a w :=
  walk_any hm p ks _ pre F hq.1 hq.2.1 hq.2.2 hL (sB H) hops (fun γ w' _ hM _ => hend γ w' (keepB H hM.below))
theorem walk_seqA {P : Program} {Q : Exit → Act → World → Prop} {full : Array Oper} {a : Act} {w : World} {S : World → Prop} {id : Nat} (p : Nat) (ks : List Kind) {pre : List Oper} {F : (Nat → Nat) → Act} (hS : ∀ w', Below w.heap.size w w' → S w')
    (hops : AllOk P pre.toArray S F pre ks)
    (hend : ∀ γ w' l, Mem ks w l γ w' → (∀ i, i < p → l.getD i false = true) → wpOps P full Q (List.range' p (full.size - p)) (F γ) w')
    (hq : full.toList.take p = pre ∧ (∀ γ, fill γ 0 pre ks a = F γ) ∧ (orderly pre.toArray ks a.tmps.size && guarded pre.toArray p && decide (p ≤ full.size)) = true := by
      refine ⟨?_, ?_, ?_⟩
      · simp only [List.append_eq, List.cons_append, List.nil_append, tk, tz]; rfl
      · intro _; simp only [fill, Kind.val, Act.put, sa, sz, ss]; rfl
      · kernel_rfl)
    (hL : LaidOk ks ks := by trivial) :
    (Code.region id full false).wp P Q a w :=
  walk_seq p ks _ pre F hq.1 hq.2.1 hq.2.2 hL hS hops hend
theorem walk_anyA {P : Program} {Q : Exit → Act → World → Prop} {full : Array Oper} {a : Act} {w : World} {S : World → Prop} {id : Nat} (p : Nat) (ks : List Kind) {pre : List Oper} {F : (Nat → Nat) → Act} (hS : ∀ w', Below w.heap.size w w' → S w')
    (hops : AllOk P pre.toArray S F pre ks)
    (hend : ∀ γ w' l, Mem ks w l γ w' → (∀ i, i < p → l.getD i false = true) → wpOps P full Q (List.range' p (full.size - p)) (F γ) w')
    (hq : full.toList.take p = pre ∧ (∀ γ, fill γ 0 pre ks a = F γ) ∧ (orderly pre.toArray ks a.tmps.size && guarded pre.toArray p && chained full p && decide (p ≤ full.size)) = true := by
      refine ⟨?_, ?_, ?_⟩
      · simp only [List.append_eq, List.cons_append, List.nil_append, tk, tz]; rfl
      · intro _; simp only [fill, Kind.val, Act.put, sa, sz, ss]; rfl
      · kernel_rfl)
    (hm : P.follows .mixedOrders = true := by kernel_rfl)
    (hL : LaidOk ks ks := by trivial) :
    (Code.region id full true).wp P Q a w :=
  walk_any hm p ks _ pre F hq.1 hq.2.1 hq.2.2 hL hS hops hend
theorem ak {P : Program} {ops : Array Oper} {S : World → Prop} {F : (Nat → Nat) → Act} {o : Oper} {os : List Oper} {k : Kind} {ks : List Kind} (h : KindOk P ops S F o k) (hs : AllOk P ops S F os ks) : AllOk P ops S F (o :: os) (k :: ks) := ⟨h, hs⟩
theorem mpn {ρ : Operand → Value} {xs : List Operand} {vs : List Value} (h : xs.map ρ = vs) : xs.toArray.map ρ = vs.toArray := by rw [List.map_toArray, h]
end Rg
end Go.Proofs.YtdbejmgomajjmaaGreatDoor
end
section
namespace Go.Proofs.YtdbejmgomajjmaaGreatDoor
open Go.RowKit
namespace Rg
section
variable {P : Program} {ops : Array Oper} {ks : List Kind} {a₀ : Act} {w₀ : World} {Q : Exit → Act → World → Prop}
/-- An operation that the store need not wait for: it tells its value in whatever world. -/
def LateOk (P : Program) (ops : Array Oper) (ks : List Kind) (F : (Nat → Nat) → Act) : List Nat → Prop
  | [] => True
  | i :: r => (∃ o v, ops[i]? = some o ∧ ks[i]? = some (.quiet v) ∧ ∀ γ, Region.wanted o (yielded ops (F γ).tmps) = true ∧ ∀ w, (execOp (F γ).eval o).run P w = .ok (.value v) w) ∧ LateOk P ops ks F r
theorem LateOk.at {F : (Nat → Nat) → Act} : ∀ {late : List Nat}, LateOk P ops ks F late → ∀ {i : Nat}, i ∈ late → ∃ o v, ops[i]? = some o ∧ ks[i]? = some (.quiet v) ∧ ∀ γ, Region.wanted o (yielded ops (F γ).tmps) = true ∧ ∀ w, (execOp (F γ).eval o).run P w = .ok (.value v) w
  | [], _, _, h => by cases h
  | j :: r, hl, i, h => by
    rcases List.mem_cons.1 h with e | h
    · subst e; exact hl.1
    · exact hl.2.at h
theorem mem_late {F : (Nat → Nat) → Act} {γ : Nat → Nat} {w : World} : ∀ {late : List Nat} {l : Array Bool}, LateOk P ops ks F late → Mem ks w₀ l γ w → ∃ l', Mem ks w₀ l' γ w ∧ l'.size = l.size ∧ (∀ i, l.getD i false = true → l'.getD i false = true) ∧ ∀ i ∈ late, i < l.size → l'.getD i false = true
  | [], l, _, h => ⟨l, h, rfl, fun _ h => h, fun _ h => by cases h⟩
  | j :: r, l, hl, h => by
    obtain ⟨o, v, _, hk, _⟩ := hl.1
    obtain ⟨l', h1, h2, h3, h4⟩ := mem_late (late := r) hl.2 (h.still (Below.refl _ _) hk rfl (fun _ _ _ h => by cases h))
    refine ⟨l', h1, by rw [h2]; simp, fun i hi => h3 i (getD_true hi), fun i hi hlt => ?_⟩
    rcases List.mem_cons.1 hi with e | hi
    · subst e
      exact h3 i (by simp [hlt])
    · exact h4 i hi (by simpa using hlt)
theorem see_all {full : Array Oper} {l : Array Bool} {γ : Nat → Nat} {a : Act} (h : Agree ops ks a₀ l γ a) {o : Oper} (hn : ∀ cs b, o.op ≠ .select cs b)
    (hlook : ∀ d ∈ o.looksAt full, ∀ j oj, ops[j]? = some oj → oj.dst = some d → l.getD j false = true) :
    execOp a.eval o = execOp (fill γ 0 ops.toList ks a₀).eval o := by
  refine execOp_congr o hn (fun x hx => ?_)
  cases x with
  | tmp t =>
    have := h.slots t (hlook t (List.mem_append_left _ (List.mem_filterMap.2 ⟨.tmp t, by simpa using hx, rfl⟩)))
    simp only [Act.eval, Array.getD_eq_getD_getElem?, this]
  | _ => rfl
/-- The operations that have come up: with each, all that it waits for. -/
def Closed (full : Array Oper) (l : Array Bool) : Prop := ∀ (i : Nat) (o : Oper), full[i]? = some o → l.getD i false = true → ∀ e ∈ o.after, Region.binds .any e = true → l.getD e.on false = true
theorem Closed.none (full : Array Oper) (n : Nat) : Closed full (Array.replicate n false) := fun i o _ h => by rw [none_listed] at h; cases h
theorem Closed.step {full : Array Oper} {l : Array Bool} (h : Closed full l) {i : Nat} {o : Oper} (ho : full[i]? = some o) (hedge : ∀ e ∈ o.after, Region.binds .any e = true → l.getD e.on false = true) : Closed full (l.setIfInBounds i true) := fun j oj hj hl e he hb => by
  by_cases hij : i = j
  · subst hij
    rw [ho] at hj
    injection hj with hj
    subst hj
    exact getD_true (hedge e he hb)
  · rw [getD_set_ne false hij] at hl
    exact getD_true (h j oj hj hl e he hb)
/-- Who waits for operation j, by others or not. -/
def waitsT (full : Array Oper) : Nat → Oper → Nat → Bool
  | 0, o, j => waits o j
  | f + 1, o, j => waits o j || o.after.any fun e => Region.binds .any e && (match full[e.on]? with | some o' => waitsT full f o' j | none => false)
theorem waitsT_spec {full : Array Oper} {l : Array Bool} (h : Closed full l) {j : Nat} : ∀ (f : Nat) (o : Oper), waitsT full f o j = true → (∀ e ∈ o.after, Region.binds .any e = true → l.getD e.on false = true) → l.getD j false = true
  | 0, o, hw, he => waits_spec hw he
  | f + 1, o, hw, he => by
    unfold waitsT at hw
    rw [Bool.or_eq_true] at hw
    rcases hw with hw | hw
    · exact waits_spec hw he
    · obtain ⟨e, hm, hx⟩ := Array.any_eq_true'.1 hw
      rw [Bool.and_eq_true] at hx
      obtain ⟨hb, hx⟩ := hx
      cases ho : full[e.on]? with
      | none => rw [ho] at hx; cases hx
      | some o' =>
        rw [ho] at hx
        exact waitsT_spec h f o' hx (fun e' he' hb' => h e.on o' ho (he e hm hb) e' he' hb')
theorem rest_anyT {full : Array Oper} (p : Nat) (hup : ∀ {i : Nat} {o : Oper}, full[i]? = some o → ∀ e ∈ o.after, Region.binds .any e = true → e.on < i)
    (hwt : ∀ {i : Nat} {o : Oper}, full[i]? = some o → p ≤ i → ∀ j, j < i → waitsT full 4 o j = true) : ∀ (m fuel q : Nat) (l : Array Bool) (a : Act) (w : World), q + m = full.size → p ≤ q → l.size = full.size → m ≤ fuel → Closed full l →
      (∀ i, i < q → l.getD i false = true) → (∀ i, q ≤ i → i < full.size → l.getD i true = false) → wpOps P full Q (List.range' q m) a w → wpAny P .any full Q fuel l a w := by
  intro m
  induction m with
  | zero =>
    intro fuel q l a w hq hpq hsz hfu hcl hl hu h
    have hr : Region.ready .any full l = [] := by
      refine List.eq_nil_iff_forall_not_mem.2 fun i hi => ?_
      obtain ⟨h1, o, ho, _⟩ := mem_ready.1 hi
      have h2 := hl i (by have := (Array.getElem?_eq_some_iff.1 ho).1; omega)
      rw [(getD_same h1).1] at h2
      cases h2
    have hQ : Q .normal a w := h
    cases fuel with
    | zero => exact ⟨hr, hQ⟩
    | succ f => exact ⟨fun _ => hQ, by rw [hr]; simp⟩
  | succ m ih =>
    intro fuel q l a w hq hpq hsz hfu hcl hl hu h
    cases fuel with
    | zero => omega
    | succ f =>
      have hqs : q < full.size := by omega
      have hqr : q ∈ Region.ready .any full l := mem_ready.2 ⟨hu q (Nat.le_refl _) hqs, full[q], Array.getElem?_eq_getElem hqs, fun e he hb => hl _ (hup (Array.getElem?_eq_getElem hqs) e he hb)⟩
      refine ⟨fun hr => absurd hqr (by rw [hr]; simp), fun i hi => ?_⟩
      obtain ⟨hun, o, ho, hedge⟩ := mem_ready.1 hi
      have hilt : i < full.size := (Array.getElem?_eq_some_iff.1 ho).1
      have hiq : i = q := by
        rcases Nat.lt_trichotomy i q with h' | h' | h'
        · have h2 := hl i h'
          rw [(getD_same hun).1] at h2
          cases h2
        · exact h'
        · have h2 := waitsT_spec hcl 4 o (hwt ho (by omega) q h') hedge
          rw [(getD_same (hu q (Nat.le_refl _) hqs)).1] at h2
          cases h2
      subst hiq
      rw [List.range'_succ, wpOps_cons] at h
      refine wpOp_mono (fun a' w' h' => ?_) h
      refine ih f (i + 1) _ a' w' (by omega) (by omega) (by simp [hsz]) (by omega) (hcl.step ho hedge) (fun j hj => ?_) (fun j hj hj2 => ?_) h'
      · rcases Nat.lt_or_ge j i with h2 | h2
        · exact getD_true (hl j h2)
        · have : j = i := by omega
          subst this
          exact (getD_same hun).2
      · rw [getD_set_ne true (by omega)]
        exact hu j (by omega) hj2
theorem tail_count (n : Nat) : ∀ (m : Nat) (l : Array Bool), l.size = n → m ≤ n → (∀ i, n - m ≤ i → i < n → l.getD i true = false) → m ≤ l.toList.count false := by
  intro m
  induction m with
  | zero => intro l _ _ _; omega
  | succ m ih =>
    intro l hs hm hl
    have h4 := count_set (hl (n - (m + 1)) (Nat.le_refl _) (by omega))
    have h5 := ih (l.setIfInBounds (n - (m + 1)) true) (by simp [hs]) (by omega) (fun i hi1 hi2 => by rw [getD_set_ne true (by omega)]; exact hl i (by omega) hi2)
    omega
theorem ready_all {full : Array Oper} (hup : ∀ {i : Nat} {o : Oper}, full[i]? = some o → ∀ e ∈ o.after, Region.binds .any e = true → e.on < i) {l : Array Bool} (hsz : l.size = full.size) (hr : Region.ready .any full l = []) : ∀ i, i < full.size → l.getD i false = true := by
  intro i
  induction i using Nat.strongRecOn with
  | _ i ih2 =>
    intro hi
    have hi' : i < l.size := by omega
    cases hl : l.getD i true with
    | true => simpa [hi'] using hl
    | false =>
      exfalso
      have : i ∈ Region.ready .any full l := mem_ready.2 ⟨hl, full[i], Array.getElem?_eq_getElem hi, fun e he hb => ih2 e.on (hup (Array.getElem?_eq_getElem hi) e he hb) (by have := hup (Array.getElem?_eq_getElem hi) e he hb; omega)⟩
      rw [hr] at this
      cases this
theorem after_put {full : Array Oper} {n p : Nat} (hO : Orderly ops ks n) (hn : n = a₀.tmps.size) (hp : ops.size = p) (hpf : p + 1 ≤ full.size) (hfull : ∀ i, i < p → full[i]? = ops[i]?) (hgd : ∀ {i : Nat} {o : Oper} {g : Nat} {b : Bool}, ops[i]? = some o → o.guard = some (g, b) → g < p)
    (hup : ∀ {i : Nat} {o : Oper}, full[i]? = some o → ∀ e ∈ o.after, Region.binds .any e = true → e.on < i)
    (hwt : ∀ {i : Nat} {o : Oper}, full[i]? = some o → p + 1 ≤ i → ∀ j, j < i → waitsT full 4 o j = true)
    {late : List Nat} (hlate : LateOk P ops ks (fun γ => fill γ 0 ops.toList ks a₀) late) {γ : Nat → Nat} {w : World} (hQ : wpOps P full Q (List.range' (p + 1) (full.size - (p + 1))) (fill γ 0 ops.toList ks a₀) w) :
    ∀ (fuel : Nat) (l : Array Bool) (a : Act), l.size = full.size → l.toList.count false ≤ fuel → Closed full l → (∀ i, i ≤ p → l.getD i true = false → i ∈ late) → (∀ i, p + 1 ≤ i → i < full.size → l.getD i true = false) → Agree ops ks a₀ l γ a → wpAny P .any full Q fuel l a w := by
  intro fuel
  induction fuel with
  | zero =>
    intro l a hsz hc hcl hu ht hA
    have hall : ∀ i, i < full.size → l.getD i false = true := fun i hi => by
      cases hb : l.getD i true with
      | false => have := count_set hb; omega
      | true =>
        have hi' : i < l.size := by omega
        simpa [hi'] using hb
    rw [hA.whole (fun i hi => hall i (by omega))]
    have h0 := tail_count full.size (full.size - (p + 1)) l hsz (by omega) (fun i hi1 hi2 => ht i (by omega) hi2)
    exact rest_anyT (p + 1) hup hwt (full.size - (p + 1)) 0 (p + 1) l _ w (by omega) (Nat.le_refl _) hsz (by omega) hcl (fun i hi => hall i (by omega)) ht hQ
  | succ fuel ih =>
    intro l a hsz hc hcl hu ht hA
    by_cases hall : ∀ i, i < p + 1 → l.getD i false = true
    · rw [hA.whole (fun i hi => hall i (by omega))]
      have h0 := tail_count full.size (full.size - (p + 1)) l hsz (by omega) (fun i hi1 hi2 => ht i (by omega) hi2)
      exact rest_anyT (p + 1) hup hwt (full.size - (p + 1)) (fuel + 1) (p + 1) l _ w (by omega) (Nat.le_refl _) hsz (by omega) hcl hall ht hQ
    · have hex : ∃ x, x < p + 1 ∧ l.getD x false = false := by
        apply Classical.byContradiction
        intro hno
        apply hall
        intro i hi
        cases hb : l.getD i false with
        | true => rfl
        | false => exact absurd ⟨i, hi, hb⟩ hno
      obtain ⟨x, hx, hxf⟩ := hex
      refine ⟨fun hr => ?_, fun i hi => ?_⟩
      · have := ready_all hup hsz hr x (by omega)
        rw [hxf] at this
        cases this
      · obtain ⟨hun, o, ho, hedge⟩ := mem_ready.1 hi
        have hilt : i < full.size := (Array.getElem?_eq_some_iff.1 ho).1
        have hip1 : i < p + 1 := by
          rcases Nat.lt_or_ge i (p + 1) with h' | h'
          · exact h'
          · have := waitsT_spec hcl 4 o (hwt ho h' x (by omega)) hedge
            rw [hxf] at this
            cases this
        obtain ⟨o', v, ho', hk, hxq⟩ := hlate.at (hu i (by omega) hun)
        have hip : i < p := by rw [← hp]; exact (Array.getElem?_eq_some_iff.1 ho').1
        have hof := ho
        rw [hfull i hip, ho'] at ho
        injection ho with ho
        subst ho
        obtain ⟨he, hw0⟩ := hA.sees hO ho' hedge
        have hy : ∀ ts, Region.wanted o' (yielded full ts) = Region.wanted o' (yielded ops ts) := fun ts => by
          unfold Region.wanted
          cases hg : o'.guard with
          | none => rfl
          | some gw =>
            obtain ⟨g, want⟩ := gw
            have : yielded full ts g = yielded ops ts g := by unfold yielded; rw [hfull g (hgd ho' hg)]
            simp only [this]
        have hc' := count_set hun
        refine wpOp_step hof (fun K' hK => ?_)
        rw [hy, hw0, if_pos (hxq γ).1]
        unfold Oper.wp
        rw [he, (hxq γ).2 w]
        refine hK _ _ (ih _ _ (by simp [hsz]) (by omega) (hcl.step hof hedge) (fun j hj hj2 => ?_) (fun j hj hj2 => ?_) (hA.step hO hn ho' hk (fun _ _ _ _ => rfl)))
        · by_cases e : i = j
          · subst e
            have hi' : i < l.size := by omega
            simp [hi'] at hj2
          · rw [getD_set_ne true e] at hj2
            exact hu j hj hj2
        · rw [getD_set_ne true (by omega)]
          exact ht j hj hj2
theorem first_put {full : Array Oper} {n p : Nat} {op : Oper} (hO : Orderly ops ks n) (hn : n = a₀.tmps.size) (hL : LaidOk ks ks) {S : World → Prop} (hS : ∀ w, Below w₀.heap.size w₀ w → S w)
    (hp : ops.size = p) (hpf : p + 1 ≤ full.size) (hfull : ∀ i, i < p → full[i]? = ops[i]?) (hgd : ∀ {i : Nat} {o : Oper} {g : Nat} {b : Bool}, ops[i]? = some o → o.guard = some (g, b) → g < p)
    (hup : ∀ {i : Nat} {o : Oper}, full[i]? = some o → ∀ e ∈ o.after, Region.binds .any e = true → e.on < i)
    (hop : full[p]? = some op) (hdst : op.dst = none) (hgu : op.guard = none) (hsel : ∀ cs b, op.op ≠ .select cs b)
    {late : List Nat} (hwp : ∀ j, j < p → waitsT full 4 op j = true ∨ j ∈ late) (hlook : ∀ d ∈ op.looksAt full, ∀ j oj, ops[j]? = some oj → oj.dst = some d → waitsT full 4 op j = true)
    (hwt : ∀ {i : Nat} {o : Oper}, full[i]? = some o → p + 1 ≤ i → ∀ j, j < i → waitsT full 4 o j = true)
    (hlate : LateOk P ops ks (fun γ => fill γ 0 ops.toList ks a₀) late)
    (hops : AllOk P ops S (fun γ => fill γ 0 ops.toList ks a₀) ops.toList ks)
    (hend : ∀ γ w l, Mem ks w₀ l γ w → (∀ i, i < p → l.getD i false = true) → ∃ w', (execOp (fill γ 0 ops.toList ks a₀).eval op).run P w = .ok .skip w' ∧ wpOps P full Q (List.range' (p + 1) (full.size - (p + 1))) (fill γ 0 ops.toList ks a₀) w') :
    ∀ (fuel : Nat) (l : Array Bool) (γ : Nat → Nat) (a : Act) (w : World), l.size = full.size → l.toList.count false ≤ fuel → Closed full l → (∀ i, p ≤ i → i < full.size → l.getD i true = false) → Agree ops ks a₀ l γ a → Mem ks w₀ l γ w → wpAny P .any full Q fuel l a w := by
  intro fuel
  induction fuel with
  | zero =>
    intro l γ a w hsz hc hcl ht hA hM
    have := count_set (ht p (Nat.le_refl _) (by omega))
    omega
  | succ fuel ih =>
    intro l γ a w hsz hc hcl ht hA hM
    have hpu := ht p (Nat.le_refl _) (by omega)
    refine ⟨fun hr => ?_, fun i hi => ?_⟩
    · have := ready_all hup hsz hr p (by omega)
      rw [(getD_same hpu).1] at this
      cases this
    · obtain ⟨hun, o, ho, hedge⟩ := mem_ready.1 hi
      have hilt : i < full.size := (Array.getElem?_eq_some_iff.1 ho).1
      have hc' := count_set hun
      have hip1 : i < p + 1 := by
        rcases Nat.lt_or_ge i (p + 1) with h' | h'
        · exact h'
        · have := waitsT_spec hcl 4 o (hwt ho h' p (by omega)) hedge
          rw [(getD_same hpu).1] at this
          cases this
      by_cases hip : i = p
      · subst hip
        have ho2 := ho
        rw [hop] at ho
        injection ho with ho
        subst ho
        have hbefore : ∀ j, j < i → j ∉ late → l.getD j false = true := fun j hj hnl => by
          rcases hwp j hj with h | h
          · exact waitsT_spec hcl 4 _ h hedge
          · exact absurd h hnl
        obtain ⟨l', hM', hs', hl1, hl2⟩ := mem_late hlate hM
        have hfin : ∀ j, j < i → l'.getD j false = true := fun j hj => by
          by_cases h : j ∈ late
          · exact hl2 j h (by omega)
          · exact hl1 j (hbefore j hj h)
        obtain ⟨w', hx, hQ⟩ := hend γ w l' hM' hfin
        have he := see_all (full := full) hA hsel (fun d hd j oj hj hdj => waitsT_spec hcl 4 _ (hlook d hd j oj hj hdj) hedge)
        refine wpOp_step hop (fun K' hK => ?_)
        have hwn : Region.wanted op (yielded full a.tmps) = true := by unfold Region.wanted; rw [hgu]
        rw [if_pos hwn]
        unfold Oper.wp
        rw [he, hx]
        have hA' : Agree ops ks a₀ (l.setIfInBounds i true) γ (a.put op.dst undef) := by
          rw [hdst]
          refine ⟨hA.defers, hA.size, fun d hd => hA.slots d (fun j oj hj hdj => ?_)⟩
          have h1 := hd j oj hj hdj
          have hj' : j < i := by rw [← hp]; exact (Array.getElem?_eq_some_iff.1 hj).1
          rwa [getD_set_ne false (by omega)] at h1
        refine hK _ _ (after_put hO hn hp hpf hfull hgd hup hwt hlate hQ fuel _ _ (by simp [hsz]) (by omega) (hcl.step ho2 hedge) (fun j hj hj2 => ?_) (fun j hj hj2 => ?_) hA')
        · by_cases e : i = j
          · subst e
            have hi' : i < l.size := by omega
            simp [hi'] at hj2
          · rw [getD_set_ne true e] at hj2
            apply Classical.byContradiction
            intro hnl
            have := hbefore j (by omega) hnl
            rw [(getD_same hj2).1] at this
            cases this
        · rw [getD_set_ne true (by omega)]
          exact ht j (by omega) hj2
      · have hlt : i < p := by omega
        have ho' : ops[i]? = some o := by rw [← hfull i hlt]; exact ho
        refine kind_step hO hn hL hS hfull hgd hops hA hM hlt ho' hun hedge (fun γ' a' w' hA' hM' => ?_)
        exact ih _ γ' a' w' (by simp [hsz]) (by omega) (hcl.step ho hedge) (fun j hj hj2 => by rw [getD_set_ne true (by omega)]; exact ht j hj hj2) hA' hM'
/-- What is to be looked up of the whole region. -/
def putly (full : Array Oper) (p : Nat) (late : List Nat) : Bool :=
  eachOp full (fun i o => o.after.all fun e => !Region.binds .any e || decide (e.on < i)) && decide (p + 1 ≤ full.size) && Region.noSelect full &&
  (match full[p]? with
   | none => false
   | some op => op.dst.isNone && op.guard.isNone && ((List.range p).all fun j => waitsT full 4 op j || late.contains j) && (op.looksAt full).all fun d => eachOp full fun j oj => oj.dst != some d || waitsT full 4 op j || decide (p ≤ j)) &&
  eachOp full (fun i o => decide (i < p + 1) || (List.range i).all fun j => waitsT full 4 o j)
/-- **The law of such a region.** -/
theorem walk_put {full : Array Oper} {a : Act} {w : World} {id : Nat} (hm : P.follows .mixedOrders = true) (p : Nat) (late : List Nat) (ks : List Kind) (S : World → Prop) (pre : List Oper) (F : (Nat → Nat) → Act) (op : Oper) (hpre : full.toList.take p = pre)
    (hF : ∀ γ, fill γ 0 pre ks a = F γ) (hor : (orderly pre.toArray ks a.tmps.size && guarded pre.toArray p && putly full p late) = true) (hop : full[p]? = some op) (hL : LaidOk ks ks) (hS : ∀ w', Below w.heap.size w w' → S w')
    (hops : AllOk P pre.toArray S F pre ks) (hlate : LateOk P pre.toArray ks F late)
    (hend : ∀ γ w' l, Mem ks w l γ w' → (∀ i, i < p → l.getD i false = true) → ∃ w'', (execOp (F γ).eval op).run P w' = .ok .skip w'' ∧ wpOps P full Q (List.range' (p + 1) (full.size - (p + 1))) (F γ) w'') :
    (Code.region id full true).wp P Q a w := by
  subst hpre
  obtain rfl : (fun γ => fill γ 0 (full.toList.take p) ks a) = F := funext hF
  simp only [Bool.and_eq_true] at hor
  obtain ⟨⟨h1, h2⟩, h3⟩ := hor
  unfold putly at h3
  rw [hop] at h3
  simp only [Bool.and_eq_true, decide_eq_true_eq, Option.isNone_iff_eq_none] at h3
  obtain ⟨⟨⟨⟨h5, h6⟩, h7⟩, ⟨⟨h8, h9⟩, h10⟩, h11⟩, h12⟩ := h3
  have hsz : (full.toList.take p).toArray.size = p := by simp; omega
  have hfu : ∀ i, i < p → full[i]? = (full.toList.take p).toArray[i]? := fun i hi => by rw [← take_arr]; exact first_full hi
  refine wp_region_any hm (first_put (ops := (full.toList.take p).toArray) (Orderly.of h1) rfl hL hS hsz h6 hfu (fun ho hg => guarded_spec h2 ho hg) (fun ho e he hb => ?_) hop h8 h9 (fun cs b => Region.noSelect_spec h7 p op cs b hop) (late := late) (fun j hj => ?_) (fun d hd j oj hj hdj => ?_) (fun ho hi j hj => ?_) hlate hops hend full.size _ (fun _ => 0) a w.drew (by simp) (by simp) (Closed.none _ _) (fun i _ hi => none_listed' hi) (start_agree _ _) (start_mem _ _ (Below.refl _ _).drew))
  · have := Array.all_eq_true_iff_forall_mem.1 (eachOp_spec h5 ho) e he
    simpa [hb] using this
  · have := List.all_eq_true.1 h10 j (List.mem_range.2 hj)
    simpa using this
  · have hj' : j < p := by rw [← hsz]; exact (Array.getElem?_eq_some_iff.1 hj).1
    have := eachOp_spec (List.all_eq_true.1 h11 d hd) (by rw [hfu j hj']; exact hj)
    simp only [hdj, bne_self_eq_false, Bool.false_or, Bool.or_eq_true, decide_eq_true_eq] at this
    rcases this with h | h
    · exact h
    · omega
  · have := eachOp_spec h12 ho
    simp only [Bool.or_eq_true, decide_eq_true_eq] at this
    rcases this with h | h
    · omega
    · exact List.all_eq_true.1 h j (List.mem_range.2 hj)
end
end Rg
end Go.Proofs.YtdbejmgomajjmaaGreatDoor
end
section
namespace Go.Proofs.YtdbejmgomajjmaaGreatDoor
open Go.RowKit
end Go.Proofs.YtdbejmgomajjmaaGreatDoor
end
section
namespace Go.Proofs.YtdbejmgomajjmaaGreatDoor
open Go.RowKit
/-- What stands in memory while Divide runs: a, b, two results. -/
structure DM (w wr : World) (a b : Nat) : Prop where
  ra : Row wr w.heap.size 6 (wd a)
  rb : Row wr (w.heap.size + 1) 6 (wd b)
  r2 : Row wr (w.heap.size + 1 + 1) 6 (fun _ => 0)
  r3 : Row wr (w.heap.size + 1 + 1 + 1) 6 (fun _ => 0)
  bl : Below w.heap.size w wr
  sz : w.heap.size + 1 + 1 + 1 < wr.heap.size
theorem DM.start (w : World) (a b : Nat) : DM w ((((w.alloc (O6 a)).alloc (O6 b)).alloc Z6).alloc Z6) a b :=
  ⟨(((Row.new w _ 24 rfl (six_lt rfl)).alloc (by first | omega | (simp <;> omega)) _).alloc (by first | omega | (simp <;> omega)) _).alloc (by first | omega | (simp <;> omega)) _,
   ((Row.new _ _ 24 (by first | omega | (simp <;> omega)) (six_lt rfl)).alloc (by first | omega | (simp <;> omega)) _).alloc (by first | omega | (simp <;> omega)) _,
   (Row.new _ _ 24 (by first | omega | (simp <;> omega)) (six_lt (f := fun _ => 0) rfl)).alloc (by first | omega | (simp <;> omega)) _,
   Row.new _ _ 24 (by first | omega | (simp <;> omega)) (six_lt (f := fun _ => 0) rfl),
   ((((Below.refl _ _).alloc (Nat.le_refl _) _).alloc (by first | omega | (simp <;> omega)) _).alloc (by first | omega | (simp <;> omega)) _).alloc (by first | omega | (simp <;> omega)) _,
   by simp⟩
theorem DM.below {w wr w1 : World} {a b : Nat} (h : DM w wr a b) (hb : Below wr.heap.size wr w1) : DM w w1 a b :=
  have := h.sz
  ⟨Row.below hb h.ra (by omega), Row.below hb h.rb (by omega), Row.below hb h.r2 (by omega), Row.below hb h.r3 (by omega), h.bl.trans (hb.mono (by omega)), Nat.lt_of_lt_of_le h.sz hb.size⟩
theorem DM.alloc {w wr : World} {a b : Nat} (h : DM w wr a b) (o : Obj) : DM w (wr.alloc o) a b :=
  have := h.sz
  ⟨h.ra.alloc (by omega) o, h.rb.alloc (by omega) o, h.r2.alloc (by omega) o, h.r3.alloc (by omega) o, h.bl.alloc (by omega) o, by simp; omega⟩
theorem DM.drew {w wr : World} {a b : Nat} (h : DM w wr a b) : DM w wr.drew a b := ⟨h.ra.drew, h.rb.drew, h.r2.drew, h.r3.drew, h.bl.drew, h.sz⟩
theorem DM.set {w wr : World} {a b : Nat} (h : DM w wr a b) {p : Addr} (hp : w.heap.size + 1 + 1 + 1 < p.block) (v : Value) : DM w (wr.setCell p v) a b :=
  ⟨h.ra.set_other _ (by omega), h.rb.set_other _ (by omega), h.r2.set_other _ (by omega), h.r3.set_other _ (by omega), h.bl.setCell (by omega) _, by simpa [World.setCell] using h.sz⟩
end Go.Proofs.YtdbejmgomajjmaaGreatDoor
end
section
namespace Go.Proofs.YtdbejmgomajjmaaGreatDoor
open Go.RowKit
theorem small_big (n : Nat) (h : n < 18446744073709551616) : n < big := Nat.lt_of_lt_of_le (show n < 2 ^ 64 from h) (by
  obtain ⟨m, hm, e⟩ := big_pow
  rw [e]; exact pow_le' _ _ (by omega))
end Go.Proofs.YtdbejmgomajjmaaGreatDoor
end
section
namespace Go.Proofs.YtdbejmgomajjmaaGreatDoor
open Go.RowKit Go.Lib
theorem twelve_zero {c : Array Value} (h : c = #[.int .u64 0, .int .u64 0, .int .u64 0, .int .u64 0, .int .u64 0, .int .u64 0, .int .u64 0, .int .u64 0, .int .u64 0, .int .u64 0, .int .u64 0, .int .u64 0]) : ∀ j, j < 12 → c[j]? = some (.int .u64 0) := by
  subst h
  intro j hj
  match j, hj with
  | 0, _ | 1, _ | 2, _ | 3, _ | 4, _ | 5, _ | 6, _ | 7, _ | 8, _ | 9, _ | 10, _ | 11, _ => rfl
/-- What stands in memory while Mul runs: a, b, two results, the product. -/
structure MulMem (w wr : World) (a b : Nat) (p : Nat → Int) : Prop where
  ra : Row wr w.heap.size 6 (wd a)
  rb : Row wr (w.heap.size + 1) 6 (wd b)
  rl : Row wr (w.heap.size + 1 + 1) 6 (fun _ => 0)
  rh : Row wr (w.heap.size + 1 + 1 + 1) 6 (fun _ => 0)
  rp : Row wr (w.heap.size + 1 + 1 + 1 + 1) 12 p
  bl : Below w.heap.size w wr
  sz : wr.heap.size = w.heap.size + 1 + 1 + 1 + 1 + 1
theorem MulMem.store {w wr : World} {a b : Nat} {p : Nat → Int} (h : MulMem w wr a b p) (k : Nat) (v : Int) : MulMem w (wr.setCell ⟨w.heap.size + 1 + 1 + 1 + 1, k, none⟩ (.int .u64 v)) a b (upd p k v) :=
  ⟨h.ra.set_other _ (by first | omega | (simp <;> omega)), h.rb.set_other _ (by first | omega | (simp <;> omega)), h.rl.set_other _ (by first | omega | (simp <;> omega)), h.rh.set_other _ (by first | omega | (simp <;> omega)), h.rp.set _, h.bl.setCell (by first | omega | (simp <;> omega)) _, by simp [World.setCell, h.sz]⟩
theorem MulMem.drew {w wr : World} {a b : Nat} {p : Nat → Int} (h : MulMem w wr a b p) : MulMem w wr.drew a b p :=
  ⟨h.ra.drew, h.rb.drew, h.rl.drew, h.rh.drew, h.rp.drew, h.bl.drew, h.sz⟩
theorem MulMem.congr {w wr : World} {a b : Nat} {p p' : Nat → Int} (h : MulMem w wr a b p) (e : ∀ j, j < 12 → p j = p' j) : MulMem w wr a b p' :=
  ⟨h.ra, h.rb, h.rl, h.rh, h.rp.congr e, h.bl, h.sz⟩
set_option maxHeartbeats 3200000 in
set_option maxRecDepth 100000 in
theorem mul_any (a b : Nat) (ha : a < big) (hb : b < big) (w : World) :
    Calls Tryz.prog 26 #[N a, N b] w fun e w' => e = .returned (.tuple #[N (a * b % big), N (a * b / big)]) ∧ Below w.heap.size w w' := by
  have HA : Hid (a < big) := ha
  have HB : Hid (b < big) := hb
  clear ha hb
  go_enter Tryz.func26, Tryz.ntmps26
  go_wp2
  go_loopw [13] (fun i wr => ∃ k : Nat, k ≤ 6 ∧ i = .int .i64 k ∧ MulMem w wr a b (wd ((a % 2 ^ (64 * k)) * b))) (fun i _ => 6 - (RowKit.intOf i).toNat)
  case atStart =>
    refine ⟨0, by omega, rfl, ?_, ?_, ?_, ?_, ?_, ?_, ?_⟩
    · exact ((((Row.new w _ 24 rfl (six_lt rfl)).alloc (by first | omega | (simp <;> omega)) _).alloc (by first | omega | (simp <;> omega)) _).alloc (by first | omega | (simp <;> omega)) _).alloc (by first | omega | (simp <;> omega)) _
    · exact (((Row.new _ _ 24 (by first | omega | (simp <;> omega)) (six_lt rfl)).alloc (by first | omega | (simp <;> omega)) _).alloc (by first | omega | (simp <;> omega)) _).alloc (by first | omega | (simp <;> omega)) _
    · exact ((Row.new _ _ 24 (by first | omega | (simp <;> omega)) (six_lt (f := fun _ => 0) rfl)).alloc (by first | omega | (simp <;> omega)) _).alloc (by first | omega | (simp <;> omega)) _
    · exact (Row.new _ _ 24 (by first | omega | (simp <;> omega)) (six_lt (f := fun _ => 0) rfl)).alloc (by first | omega | (simp <;> omega)) _
    · exact (Row.new _ _ 105 (by first | omega | (simp <;> omega)) (f := fun _ => 0) (twelve_zero rfl)).congr (fun j _ => by simp [wd, Nat.mod_one])
    · exact (((((Below.refl _ _).alloc (Nat.le_refl _) _).alloc (by first | omega | (simp <;> omega)) _).alloc (by first | omega | (simp <;> omega)) _).alloc (by first | omega | (simp <;> omega)) _).alloc (by first | omega | (simp <;> omega)) _
    · simp
  case round =>
    obtain ⟨i, hi, rfl, hM⟩ := hrel
    by_cases hlt : i < 6
    · have HM : Hid _ := hM
      clear hM
      have hd : decide ((i : Int) < 6) = true := by simp; omega
      go_wp2
      go_loopw [8, 16] (fun c jv wq => ∃ j : Nat, j ≤ 6 ∧ jv = .int .i64 j ∧ c = .int .u64 (mc a b i j) ∧ MulMem w wq a b (pm ((a % 2 ^ (64 * i)) * b) (sm a b i j) (i + j))) (fun _ j _ => 6 - (RowKit.intOf j).toNat)
      case atStart => exact ⟨0, by omega, rfl, by rw [mc_zero], HM.out.congr (fun m _ => (pm_start a b i m).symm)⟩
      case round =>
        obtain ⟨j, hj, rfl, rfl, hQ⟩ := hrel
        by_cases hjl : j < 6
        · have hA1 := (hQ.ra i hlt).1
          have hB1 := (hQ.rb j hjl).1
          obtain ⟨hP1, hP2⟩ := hQ.rp (i + j) (by omega)
          have ep : pm ((a % 2 ^ (64 * i)) * b) (sm a b i j) (i + j) (i + j) = wd ((a % 2 ^ (64 * i)) * b) (i + j) := by unfold pm; rw [if_neg (by omega)]
          rw [ep] at hP1
          clear ep
          have HQ : Hid _ := hQ
          clear hQ HM
          have hc := fun w => mulAdd_any (wd a i) (wd b j) (wd ((a % 2 ^ (64 * i)) * b) (i + j)) (mc a b i j) (wd_bd _ _).1 (wd_bd _ _).2 (wd_bd _ _).1 (wd_bd _ _).2 (wd_bd _ _).1 (wd_bd _ _).2 (mc_bd _ _ _ _).1 (mc_bd _ _ _ _).2 w
          have HC : Hid _ := hc
          clear hc
          have et : ((i : Int) + (j : Int)).toNat = i + j := by omega
          have e0 : (0 : Int) ≤ (i : Int) + (j : Int) := by omega
          have e1 : (i : Int) + (j : Int) < 12 := by omega
          have ew : IntKind.i64.wrap ((i : Int) + (j : Int)) = (i : Int) + (j : Int) := by rw [IntKind.wrap_i64]; omega
          go_wp2
          go_region_with (go_at_call 66; refine (HC.out _).mono ?_; rintro e w' ⟨rfl, rfl⟩)
          all_goals
            go_wp2
            go_roundw
            case rel =>
              rw [mul_hi, mul_lo]
              exact ⟨j + 1, by omega, by go_num, rfl, (HQ.out.store (i + j) _).drew.congr (fun m _ => pm_step a b i j m)⟩
            case measure => simp [RowKit.intOf]; omega
        · have hj6 : j = 6 := by omega
          subst hj6
          obtain ⟨hP1, hP2⟩ := hQ.rp (i + 6) (by omega)
          have HQ : Hid _ := hQ
          clear hQ HM
          rw [show ((6 : Nat) : Int) = 6 from rfl]
          go_wp2
          go_roundw
          case rel => exact ⟨i + 1, by omega, by go_num, (HQ.out.store (i + 6) _).congr (fun m _ => pm_end a b i m HB.out)⟩
          case measure => simp [RowKit.intOf]; omega
    · have hi6 : i = 6 := by omega
      subst hi6
      have hM2 : MulMem w wr a b (wd (a * b)) := by
        rw [← big_eq, Nat.mod_eq_of_lt HA.out] at hM
        exact hM
      clear hM
      have hsz := hM2.sz
      have HM : Hid _ := hM2
      clear hM2
      rw [show ((6 : Nat) : Int) = 6 from rfl]
      go_wp2
      go_loopw [45] (fun i wq => ∃ k : Nat, k ≤ 6 ∧ i = .int .i64 k ∧ Row wq (w.heap.size + 1 + 1) 6 (fun _ => 0) ∧ Row wq (w.heap.size + 1 + 1 + 1) 6 (fun _ => 0) ∧ Row wq (w.heap.size + 1 + 1 + 1 + 1) 12 (wd (a * b)) ∧ Row wq (w.heap.size + 1 + 1 + 1 + 1 + 1) 6 (part (a * b) k) ∧ Row wq (w.heap.size + 1 + 1 + 1 + 1 + 1 + 1) 6 (part (a * b / big) k) ∧ Below w.heap.size w wq) (fun i _ => 6 - (RowKit.intOf i).toNat)
      case atStart =>
        have h := HM.out
        refine ⟨0, by omega, rfl, ?_, ?_, ?_, ?_, ?_, ?_⟩
        · exact (h.rl.alloc (by first | omega | (simp <;> omega)) _).alloc (by first | omega | (simp <;> omega)) _
        · exact (h.rh.alloc (by first | omega | (simp <;> omega)) _).alloc (by first | omega | (simp <;> omega)) _
        · exact (h.rp.alloc (by first | omega | (simp <;> omega)) _).alloc (by first | omega | (simp <;> omega)) _
        · exact (Row.new _ _ 24 (by first | omega | (simp <;> omega)) (six_lt (f := part (a * b) 0) rfl)).alloc (by first | omega | (simp <;> omega)) _
        · exact Row.new _ _ 24 (by first | omega | (simp <;> omega)) (six_lt (f := part (a * b / big) 0) rfl)
        · exact (h.bl.alloc (by first | omega | (simp <;> omega)) _).alloc (by first | omega | (simp <;> omega)) _
      case round =>
        clear HM hsz
        obtain ⟨k, hk, rfl, h1, h2, h3, h4, h5, h6⟩ := hrel
        by_cases hlt2 : k < 6
        · obtain ⟨p1, _⟩ := h3 k (by omega)
          obtain ⟨p2, _⟩ := h3 (k + 6) (by omega)
          obtain ⟨q1, q2⟩ := h4 k hlt2
          obtain ⟨q3, q4⟩ := h5 k hlt2
          have HR : Hid (_ ∧ _ ∧ _ ∧ _ ∧ _ ∧ _) := ⟨h1, h2, h3, h4, h5, h6⟩
          clear h1 h2 h3 h4 h5 h6
          go_wp2
          go_region
          go_wp2
          go_roundw
          case rel =>
            obtain ⟨h1, h2, h3, h4, h5, h6⟩ := HR.out
            refine ⟨k + 1, by omega, by go_num, ?_, ?_, ?_, ?_, ?_, ?_⟩
            · exact ((h1.set_other _ (by first | omega | (simp <;> omega))).set_other _ (by first | omega | (simp <;> omega))).drew
            · exact ((h2.set_other _ (by first | omega | (simp <;> omega))).set_other _ (by first | omega | (simp <;> omega))).drew
            · exact ((h3.set_other _ (by first | omega | (simp <;> omega))).set_other _ (by first | omega | (simp <;> omega))).drew
            · exact (((h4.set _).congr (fun j _ => part_step rfl j)).set_other _ (by first | omega | (simp <;> omega))).drew
            · exact (((h5.set_other _ (by first | omega | (simp <;> omega))).set _).congr (fun j _ => part_step (wd_hi _ _) j)).drew
            · exact ((h6.setCell (by first | omega | (simp <;> omega)) _).setCell (by first | omega | (simp <;> omega)) _).drew
          case measure => simp [RowKit.intOf]; omega
        · have hk6 : k = 6 := by omega
          subst hk6
          obtain ⟨s0, s1, s2, s3, s4, s5⟩ := (h4.congr (f' := wd (a * b % big)) (fun j hj => by rw [part_lt hj, wd_mod _ _ hj])).reads
          obtain ⟨t0, t1, t2, t3, t4, t5⟩ := (h5.congr (f' := wd (a * b / big)) (fun j hj => by rw [part_lt hj])).reads
          obtain ⟨z0, z1, z2, z3, z4, z5⟩ := h1.writes
          obtain ⟨y0, y1, y2, y3, y4, y5⟩ := h1.reads
          obtain ⟨v0, v1, v2, v3, v4, v5⟩ := h2.writes
          obtain ⟨x0, x1, x2, x3, x4, x5⟩ := h2.reads
          clear h1 h2 h3 h4 h5
          rw [show ((6 : Nat) : Int) = 6 from rfl]
          go_wp2
          go_region
          go_wp2
          refine bodyPost_ret (v := .tuple #[N (a * b % big), N (a * b / big)]) ?_ rfl ⟨rfl, ?_⟩
          · simp [results, Tryz.results26, go_sem, *]
          · exact (below6 (below6 h6 (by omega) _ _ _ _ _ _) (by omega) _ _ _ _ _ _).drew
end Go.Proofs.YtdbejmgomajjmaaGreatDoor
end
section
namespace Go.Proofs.YtdbejmgomajjmaaGreatDoor
open Go.RowKit
/-! The plain law. -/
end Go.Proofs.YtdbejmgomajjmaaGreatDoor
end
section
namespace Go.Proofs.YtdbejmgomajjmaaGreatDoor
open Go.RowKit
namespace Rg
/-! The word that makes -1 with an odd word. -/
def newt (x i : Int) : Int := (i * ((2 - x * i % 18446744073709551616) % 18446744073709551616)) % 18446744073709551616
def newts (x : Int) : Nat → Int
  | 0 => x
  | k + 1 => newt x (newts x k)
def wrapZ (x : Int) : Int := (-(newts x 5)) % 18446744073709551616
theorem newt_dvd (x i d e : Int) (h : d ∣ 1 - x * i) (he : e ∣ d * d) (hW : e ∣ 18446744073709551616) : e ∣ 1 - x * newt x i := by
  obtain ⟨q, hq⟩ : ∃ q, newt x i = i * (2 - x * i) + 18446744073709551616 * q := by
    unfold newt
    have h1 := Int.emod_def (x * i) 18446744073709551616
    have h2 := Int.emod_def (2 - x * i % 18446744073709551616) 18446744073709551616
    have h3 := Int.emod_def (i * ((2 - x * i % 18446744073709551616) % 18446744073709551616)) 18446744073709551616
    rw [h3]
    rw [h2, h1]
    generalize x * i / 18446744073709551616 = p
    generalize (2 - (x * i - 18446744073709551616 * p)) / 18446744073709551616 = q
    generalize (i * (2 - (x * i - 18446744073709551616 * p) - 18446744073709551616 * q)) / 18446744073709551616 = r
    refine ⟨i * p - i * q - r, ?_⟩
    generalize hxi : x * i = y
    simp only [Int.mul_sub]
    have e1 : i * (18446744073709551616 * p) = 18446744073709551616 * (i * p) := Int.mul_left_comm ..
    have e2 : i * (18446744073709551616 * q) = 18446744073709551616 * (i * q) := Int.mul_left_comm ..
    rw [e1, e2]
    omega
  have e1 : 1 - x * newt x i = (1 - x * i) * (1 - x * i) - 18446744073709551616 * (x * q) := by
    rw [hq, Int.mul_add, ← Int.mul_assoc]
    have e2 : x * (18446744073709551616 * q) = 18446744073709551616 * (x * q) := Int.mul_left_comm ..
    rw [e2]
    generalize x * i = y
    have e3 : y * (2 - y) = 2 * y - y * y := by rw [Int.mul_sub, Int.mul_comm y 2]
    have e4 : (1 - y) * (1 - y) = 1 - 2 * y + y * y := by rw [Int.mul_sub, Int.sub_mul, Int.sub_mul]; omega
    rw [e3, e4]; omega
  rw [e1]
  refine Int.dvd_sub (Int.dvd_trans he ?_) (Int.dvd_trans hW (Int.dvd_mul_right _ _))
  obtain ⟨m, hm⟩ := h
  rw [hm]
  exact ⟨m * m, by rw [Int.mul_assoc, Int.mul_left_comm m d m, ← Int.mul_assoc]⟩
theorem newts_five (x : Int) (ho : x % 2 = 1) : (18446744073709551616 : Int) ∣ 1 - x * newts x 5 := by
  have h0 : (8 : Int) ∣ 1 - x * newts x 0 := by
    show (8 : Int) ∣ 1 - x * x
    obtain ⟨y, hy⟩ : ∃ y, x = 2 * y + 1 := ⟨x / 2, by omega⟩
    have e2 : 2 * y * (2 * y) = 4 * (y * y) := by rw [Int.mul_assoc, Int.mul_left_comm y 2 y, ← Int.mul_assoc]; rfl
    have e : x * x = 4 * (y * (y + 1)) + 1 := by
      rw [hy, Int.mul_add, Int.mul_add, Int.add_mul, e2]
      omega
    have h2 : y * (y + 1) % 2 = 0 := by
      rcases (by omega : y % 2 = 0 ∨ y % 2 = 1) with h | h
      · rw [Int.mul_emod, h]; simp
      · rw [Int.mul_emod, show (y + 1) % 2 = 0 by omega]; simp
    rw [e]
    omega
  have h1 := newt_dvd x _ 8 64 h0 (by decide) (by decide)
  have h2 := newt_dvd x _ 64 4096 h1 (by decide) (by decide)
  have h3 := newt_dvd x _ 4096 16777216 h2 (by decide) (by decide)
  have h4 := newt_dvd x _ 16777216 281474976710656 h3 (by decide) (by decide)
  exact newt_dvd x _ 281474976710656 18446744073709551616 h4 (by decide) (by decide)
theorem wrapZ_bd (x : Int) : 0 ≤ wrapZ x ∧ wrapZ x < 18446744073709551616 := by unfold wrapZ; omega
theorem wrapZ_spec (x : Int) (ho : x % 2 = 1) : wrapZ x * x % 18446744073709551616 = 18446744073709551615 := by
  obtain ⟨m, hm⟩ := newts_five x ho
  have h := Int.emod_def (-(newts x 5)) 18446744073709551616
  unfold wrapZ
  rw [h]
  generalize -(newts x 5) / 18446744073709551616 = q
  rw [Int.sub_mul, Int.neg_mul, Int.mul_comm (newts x 5) x, Int.mul_assoc]
  generalize x * newts x 5 = y at hm
  generalize q * x = z
  omega
/-- The word of a number's modulus, as a natural number. -/
def wrapN (n : Nat) : Nat := (wrapZ (wd n 0)).toNat
theorem wrapN_cast (n : Nat) : ((wrapN n : Nat) : Int) = wrapZ (wd n 0) := Int.toNat_of_nonneg (wrapZ_bd _).1
theorem wrapN_spec (n : Nat) (ho : n % 2 = 1) : wrapN n * n % 18446744073709551616 = 18446744073709551615 := by
  have h0 : wd n 0 = ((n % 18446744073709551616 : Nat) : Int) := by unfold wd; rw [Nat.mul_zero, Nat.pow_zero, Nat.div_one]
  have h := wrapZ_spec (wd n 0) (by rw [h0]; omega)
  rw [← wrapN_cast, h0, ← Int.natCast_mul] at h
  have h1 : wrapN n * (n % 18446744073709551616) % 18446744073709551616 = 18446744073709551615 := by omega
  rw [Nat.mul_mod, Nat.mod_mod, ← Nat.mul_mod] at h1
  exact h1
/-- What stands in memory of a modulus. -/
abbrev modx (n o s : Nat) : List Value := [.int .u64 (wd n 0), .int .u64 (wd n 1), .int .u64 (wd n 2), .int .u64 (wd n 3), .int .u64 (wd n 4), .int .u64 (wd n 5), .int .u64 (wrapZ (wd n 0)), .int .u64 (wd o 0), .int .u64 (wd o 1), .int .u64 (wd o 2), .int .u64 (wd o 3), .int .u64 (wd o 4), .int .u64 (wd o 5), .int .u64 (wd s 0), .int .u64 (wd s 1), .int .u64 (wd s 2), .int .u64 (wd s 3), .int .u64 (wd s 4), .int .u64 (wd s 5)]
abbrev modc (n : Nat) : List Value := modx n (big % n) (big * big % n)
theorem ex_zero6 {ρ : Operand → Value} {o : Oper} {w : World} (ho : o.op = .build 24 #[]) : (execOp ρ o).run Tryz.prog w = .ok (.value (N 0)) w := by
  simp only [execOp, ho]
  go_simp
  simp [wd_zero]
/-- What a modulus may be. -/
structure Ok (n : Nat) : Prop where
  odd : n % 2 = 1
  three : 3 ≤ n
  top : 4 * n < big
theorem Ok.big {n : Nat} (h : Ok n) : n < big := by have := h.top; omega
theorem Ok.pos {n : Nat} (h : Ok n) : 0 < n := by have := h.three; omega
theorem Ok.word {n : Nat} (h : Ok n) : ¬ wd n 0 = 0 := by
  have h0 : wd n 0 = ((n % 18446744073709551616 : Nat) : Int) := by unfold wd; rw [Nat.mul_zero, Nat.pow_zero, Nat.div_one]
  have := h.odd
  rw [h0]; omega
set_option maxRecDepth 100000 in
theorem made_any (g n o s : Nat) (ok : Ok n) (w : World) (hm : Mm w [(g, modx n o s)]) :
    Calls Tryz.prog 169 #[PT g 0] w fun e w' => e = .returned (.bool true) ∧ Below w.heap.size w w' := by
  have H0 : Hid (_ ∧ _) := ⟨hm, Below.refl w.heap.size w⟩
  clear hm
  have hw0 := ok.word
  go_enter Tryz.func169, Tryz.ntmps169
  refine wp_seq ?_
  refine walk_seqB 1 [.quiet (.bool false)] H0 ?ho1 ?he1
  case ho1 => exact ak (fun _ => ⟨rfl, fun _ _ => rfl⟩) trivial
  intro _ w1 H1
  refine rest0 rfl (then_normal (wp_seq ?_))
  refine walk_seqB 11 [.quiet (PT g 0), .quiet (.bool true), .quiet (.bool true), .quiet (PT g 0), .quiet (PT g 0), .quiet (PT g 0), .quiet (PT g 0), .quiet (.int .u64 (wd n 0)), .quiet (.bool true), .quiet (.bool true), .quiet (.bool true)] H1 ?ho2 ?he2
  case ho2 => exact ak (fun _ => ⟨rfl, fun _ _ => rfl⟩) (ak (by refine fun γ => ⟨rfl, fun w' h => ?_⟩; clear h; go_simp) (ak (fun _ => ⟨rfl, fun _ _ => rfl⟩) (ak (fun _ => ⟨rfl, fun _ _ => rfl⟩) (ak (by refine fun γ => ⟨rfl, fun w' h => ?_⟩; clear h; go_simp) (ak (by refine fun γ => ⟨rfl, fun w' h => ?_⟩; clear h; go_simp) (ak (by refine fun γ => ⟨rfl, fun w' h => ?_⟩; clear h; go_simp) (ak (fun γ => ⟨rfl, fun w' h => ex_load1 h 0 rfl rfl rfl rfl⟩) (ak (by refine fun γ => ⟨rfl, fun w' h => ?_⟩; clear h; go_simp) (ak (by refine fun γ => ⟨rfl, fun w' h => ?_⟩; clear h; go_simp) (ak (fun _ => ⟨rfl, fun _ _ => rfl⟩) trivial))))))))))
  intro _ w2 H2
  clear H1
  refine rest0 rfl (then_normal (wp_ret ?_))
  repeat (first | refine then_ret ?_ | refine block_ret ?_)
  refine bodyPost_ret (v := .bool true) (by simp [results, Tryz.results169, go_sem, *]) rfl ?_
  exact ⟨rfl, H2.out.2⟩
end Rg
end Go.Proofs.YtdbejmgomajjmaaGreatDoor
end
section
namespace Go.Proofs.YtdbejmgomajjmaaGreatDoor
open Go.RowKit
namespace Rg
set_option maxHeartbeats 400000 in
theorem mulAddM_any (a b m c : Int) (ha : 0 ≤ a) (ha' : a < 18446744073709551616) (hb : 0 ≤ b) (hb' : b < 18446744073709551616) (hm : 0 ≤ m) (hm' : m < 18446744073709551616) (hc : 0 ≤ c) (hc' : c < 18446744073709551616) (w : World) :
    Calls Tryz.prog 211 #[.int .u64 a, .int .u64 b, .int .u64 m, .int .u64 c] w fun e w' => e = .returned (.tuple #[.int .u64 (mulLo a b m c), .int .u64 (mulHi a b m c)]) ∧ w' = w := by
  obtain ⟨x, rfl⟩ := Int.eq_ofNat_of_zero_le ha
  obtain ⟨y, rfl⟩ := Int.eq_ofNat_of_zero_le hb
  have hx : x < 18446744073709551616 := by omega
  have hy : y < 18446744073709551616 := by omega
  have e1 : Hid _ := mulAdd_hi x y m c hx hy hm hm' hc hc'
  have e2 : Hid _ := mulAdd_lo x y m c
  have h1 := fun w => add64' (pLo x y) m 0 (by unfold pLo; omega) hm (by omega) (by omega) w
  have h2 := fun w => add64' (addLo (pLo x y) m 0) c 0 (by unfold addLo; omega) hc (by omega) (by omega) w
  have h3 := fun w => mul64' x y hx hy w
  have H3 : Hid _ := h3
  clear ha ha' hb hb' hm hm' hc hc' hx hy h3
  go_enter Tryz.func211, Tryz.ntmps211
  go_wp2_with (go_at_call 135; refine (H3.out _).mono ?_; rintro e w' ⟨rfl, rfl⟩)
  rw [e1.out, e2.out]
  go_ret2
  exact ⟨rfl, rfl⟩
set_option maxHeartbeats 1000000 in
set_option maxRecDepth 100000 in
theorem wrapOf_any (x : Int) (w : World) : Calls Tryz.prog 167 #[.int .u64 x] w fun e w' => e = .returned (.int .u64 (wrapZ x)) ∧ w' = w := by
  have hs : ∀ k, IntKind.u64.wrap (newts x k * IntKind.u64.wrap (2 - IntKind.u64.wrap (x * newts x k))) = newts x (k + 1) := fun k => by
    simp only [IntKind.wrap_u64, newts, newt]
  have HS : Hid _ := hs
  have he : IntKind.u64.wrap (-(newts x 5)) = wrapZ x := by rw [IntKind.wrap_u64]; rfl
  have HE : Hid _ := he
  clear hs he
  go_enter Tryz.func167, Tryz.ntmps167
  go_wp2
  go_loopw [3, 4] (fun c i wr => ∃ k : Nat, k ≤ 5 ∧ c = .int .u64 (newts x k) ∧ i = .int .i64 (3 * 2 ^ k) ∧ wr = w) (fun _ i _ => 96 - (RowKit.intOf i).toNat)
  case atStart => exact ⟨0, by omega, rfl, rfl, rfl⟩
  case round =>
    obtain ⟨k, hk, rfl, rfl, rfl⟩ := hrel
    rcases (by omega : k = 0 ∨ k = 1 ∨ k = 2 ∨ k = 3 ∨ k = 4 ∨ k = 5) with rfl | rfl | rfl | rfl | rfl | rfl
    · go_wp2
      go_roundw
      case rel => exact ⟨1, by omega, congrArg (Value.int .u64) (HS.out 0), by simp⟩
      case measure => simp [RowKit.intOf]
    · go_wp2
      go_roundw
      case rel => exact ⟨2, by omega, congrArg (Value.int .u64) (HS.out 1), by simp⟩
      case measure => simp [RowKit.intOf]
    · go_wp2
      go_roundw
      case rel => exact ⟨3, by omega, congrArg (Value.int .u64) (HS.out 2), by simp⟩
      case measure => simp [RowKit.intOf]
    · go_wp2
      go_roundw
      case rel => exact ⟨4, by omega, congrArg (Value.int .u64) (HS.out 3), by simp⟩
      case measure => simp [RowKit.intOf]
    · go_wp2
      go_roundw
      case rel => exact ⟨5, by omega, congrArg (Value.int .u64) (HS.out 4), by simp⟩
      case measure => simp [RowKit.intOf]
    · go_wp2
      rw [HE.out]
      go_ret
      exact ⟨rfl, rfl⟩
theorem call172 : ∀ args w, (callFunc 172 args).run Tryz.prog w = .ok (.enter 172 args) w := by intro args w; go_simp
set_option maxRecDepth 100000 in
theorem below_t (g n o s a r : Nat) (c40 : ∀ w, Calls Tryz.prog 172 #[N a, N n] w fun e w' => e = .returned (.tuple #[N r, .bool true]) ∧ Below w.heap.size w w') (w : World) (hm : Mm w [(g, modx n o s)]) :
    Calls Tryz.prog 212 #[PT g 0, N a] w fun e w' => e = .returned (N a) ∧ Below w.heap.size w w' := by
  have H0 : Hid (_ ∧ _) := ⟨hm, Below.refl w.heap.size w⟩
  clear hm
  have C40 : Hid _ := c40
  clear c40
  go_enter Tryz.func212, Tryz.ntmps212
  refine wp_seq ?_
  refine walk_seqA 2 [.made (cells6 a) 24, .made zero6 24] (sB H0) ?ho1 ?he1
  case ho1 => exact ak (fun γ => ⟨rfl, fun w' => ex_box6 rfl rfl⟩) (ak (fun γ => ⟨rfl, fun w' => exec_made6 rfl⟩) trivial)
  intro γ w1 l hM hl
  have H1 : Hid (Mm w1 [(γ 0, cells6 a), (γ 1, zero6), (g, modx n o s)] ∧ _) := growB H0 hM (Nat.le_refl _) hl [0, 1] rfl (by decide)
  have o1_0 := ownB H0 hM (Nat.le_refl _) hl (i := 0) rfl
  have o1_1 := ownB H0 hM (Nat.le_refl _) hl (i := 1) rfl
  clear hM hl l
  generalize γ 0 = γ1_0 at H1 o1_0 ⊢
  generalize γ 1 = γ1_1 at H1 o1_1 ⊢
  clear γ
  refine rest0 rfl (then_normal (wp_seq ?_))
  refine walk_anyA 12 [.quiet (N a), .quiet (PT g 0), .quiet (PT g 0), .quiet (PT g 0), .quiet (N n), .call (.tuple #[N r, .bool true]), .quiet (.tuple #[N r, .bool true]), .quiet (N r), .quiet (.bool true), .made zero6 24, .laid 9 zero6 (cells6 r), .quiet (.bool true)] (sB H1) ?ho2 ?he2 (hL := ?hL2)
  case hL2 => exact ⟨⟨_, rfl⟩, trivial⟩
  case ho2 => exact ak (fun γ => ⟨rfl, fun w' h => ex_load6 h 0 rfl rfl rfl rfl⟩) (ak (fun _ => ⟨rfl, fun _ _ => rfl⟩) (ak (by refine fun γ => ⟨rfl, fun w' h => ?_⟩; clear h; go_simp) (ak (by refine fun γ => ⟨rfl, fun w' h => ?_⟩; clear h; go_simp) (ak (fun γ => ⟨rfl, fun w' h => ex_load6 h 2 rfl rfl rfl rfl⟩) (ak (fun γ => ⟨rfl, fun w' h => ⟨172, #[N a, N n], exec_call rfl call172 rfl (mpn rfl), C40.out w'⟩⟩) (ak (fun _ => ⟨rfl, fun _ _ => rfl⟩) (ak (by refine fun γ => ⟨rfl, fun w' h => ?_⟩; clear h; go_simp) (ak (by refine fun γ => ⟨rfl, fun w' h => ?_⟩; clear h; go_simp) (ak (fun γ => ⟨rfl, fun w' => exec_made6 rfl⟩) (ak (fun γ => ⟨rfl, rfl, rfl, fun w' h => exec_laid6 h rfl rfl rfl⟩) (ak (fun _ => ⟨rfl, fun _ _ => rfl⟩) trivial)))))))))))
  intro γ w2 l hM hl
  have H2 : Hid (Mm w2 [(γ 9, cells6 r), (γ1_0, cells6 a), (γ1_1, zero6), (g, modx n o s)] ∧ _) := growB H1 hM (Nat.le_refl _) hl [9] rfl (by decide)
  have o2_9 := ownB H1 hM (Nat.le_refl _) hl (i := 9) rfl
  clear hM hl l H1
  generalize γ 9 = γ2_9 at H2 o2_9 ⊢
  clear γ
  refine rest0 rfl (then_normal (wp_seq (wp_seq ?_)))
  refine walk_seqB 1 [.quiet (.bool true)] H2 ?ho3 ?he3
  case ho3 => exact ak (fun _ => ⟨rfl, fun _ _ => rfl⟩) trivial
  intro _ w3 H3
  clear H2
  refine rest0 rfl (then_normal (wp_cond_true rfl (wp_seq ?_)))
  refine walk_seqB 1 [.quiet (N a)] H3 ?ho4 ?he4
  case ho4 => exact ak (fun γ => ⟨rfl, fun w' h => ex_load6 h 1 rfl rfl rfl rfl⟩) trivial
  intro _ w4 H4
  clear H3
  refine rest_at (l := [1]) rfl ?_
  refine rest_store rfl rfl rfl (ex_store6 H4.out.1 2 rfl rfl rfl rfl (Nat.le_of_ble_eq_true rfl)) ?_
  have H5 : Hid (Mm (w4.setCells γ1_1 0 (cells6 a)) [(γ2_9, cells6 r), (γ1_0, cells6 a), (γ1_1, cells6 a), (g, modx n o s)] ∧ Below w.heap.size w (w4.setCells γ1_1 0 (cells6 a))) := ⟨H4.out.1.put 2 (off := 0) (vs := cells6 a) rfl (Nat.le_of_ble_eq_true rfl), below_setCells _ o1_1.out _ _ _ H4.out.2⟩
  clear H4
  generalize hgw : World.setCells _ _ _ _ = w5 at H5 ⊢
  clear hgw
  refine rest_nil (then_normal (wp_ret ?_))
  repeat (first | refine then_ret ?_ | refine block_ret ?_)
  have c0 := H5.out.1.get 2 rfl 0 rfl
  have c1 := H5.out.1.get 2 rfl 1 rfl
  have c2 := H5.out.1.get 2 rfl 2 rfl
  have c3 := H5.out.1.get 2 rfl 3 rfl
  have c4 := H5.out.1.get 2 rfl 4 rfl
  have c5 := H5.out.1.get 2 rfl 5 rfl
  refine bodyPost_ret (v := N a) (by simp [results, Tryz.results212, go_sem, *]) rfl ?_
  exact ⟨rfl, H5.out.2⟩
set_option maxRecDepth 100000 in
theorem below_f (g n o s a r : Nat) (c40 : ∀ w, Calls Tryz.prog 172 #[N a, N n] w fun e w' => e = .returned (.tuple #[N r, .bool false]) ∧ Below w.heap.size w w') (w : World) (hm : Mm w [(g, modx n o s)]) :
    Calls Tryz.prog 212 #[PT g 0, N a] w fun e w' => e = .returned (N r) ∧ Below w.heap.size w w' := by
  have H0 : Hid (_ ∧ _) := ⟨hm, Below.refl w.heap.size w⟩
  clear hm
  have C40 : Hid _ := c40
  clear c40
  go_enter Tryz.func212, Tryz.ntmps212
  refine wp_seq ?_
  refine walk_seqA 2 [.made (cells6 a) 24, .made zero6 24] (sB H0) ?ho1 ?he1
  case ho1 => exact ak (fun γ => ⟨rfl, fun w' => ex_box6 rfl rfl⟩) (ak (fun γ => ⟨rfl, fun w' => exec_made6 rfl⟩) trivial)
  intro γ w1 l hM hl
  have H1 : Hid (Mm w1 [(γ 0, cells6 a), (γ 1, zero6), (g, modx n o s)] ∧ _) := growB H0 hM (Nat.le_refl _) hl [0, 1] rfl (by decide)
  have o1_0 := ownB H0 hM (Nat.le_refl _) hl (i := 0) rfl
  have o1_1 := ownB H0 hM (Nat.le_refl _) hl (i := 1) rfl
  clear hM hl l
  generalize γ 0 = γ1_0 at H1 o1_0 ⊢
  generalize γ 1 = γ1_1 at H1 o1_1 ⊢
  clear γ
  refine rest0 rfl (then_normal (wp_seq ?_))
  refine walk_anyA 12 [.quiet (N a), .quiet (PT g 0), .quiet (PT g 0), .quiet (PT g 0), .quiet (N n), .call (.tuple #[N r, .bool false]), .quiet (.tuple #[N r, .bool false]), .quiet (N r), .quiet (.bool false), .made zero6 24, .laid 9 zero6 (cells6 r), .quiet (.bool false)] (sB H1) ?ho2 ?he2 (hL := ?hL2)
  case hL2 => exact ⟨⟨_, rfl⟩, trivial⟩
  case ho2 => exact ak (fun γ => ⟨rfl, fun w' h => ex_load6 h 0 rfl rfl rfl rfl⟩) (ak (fun _ => ⟨rfl, fun _ _ => rfl⟩) (ak (by refine fun γ => ⟨rfl, fun w' h => ?_⟩; clear h; go_simp) (ak (by refine fun γ => ⟨rfl, fun w' h => ?_⟩; clear h; go_simp) (ak (fun γ => ⟨rfl, fun w' h => ex_load6 h 2 rfl rfl rfl rfl⟩) (ak (fun γ => ⟨rfl, fun w' h => ⟨172, #[N a, N n], exec_call rfl call172 rfl (mpn rfl), C40.out w'⟩⟩) (ak (fun _ => ⟨rfl, fun _ _ => rfl⟩) (ak (by refine fun γ => ⟨rfl, fun w' h => ?_⟩; clear h; go_simp) (ak (by refine fun γ => ⟨rfl, fun w' h => ?_⟩; clear h; go_simp) (ak (fun γ => ⟨rfl, fun w' => exec_made6 rfl⟩) (ak (fun γ => ⟨rfl, rfl, rfl, fun w' h => exec_laid6 h rfl rfl rfl⟩) (ak (fun _ => ⟨rfl, fun _ _ => rfl⟩) trivial)))))))))))
  intro γ w2 l hM hl
  have H2 : Hid (Mm w2 [(γ 9, cells6 r), (γ1_0, cells6 a), (γ1_1, zero6), (g, modx n o s)] ∧ _) := growB H1 hM (Nat.le_refl _) hl [9] rfl (by decide)
  have o2_9 := ownB H1 hM (Nat.le_refl _) hl (i := 9) rfl
  clear hM hl l H1
  generalize γ 9 = γ2_9 at H2 o2_9 ⊢
  clear γ
  refine rest0 rfl (then_normal (wp_seq (wp_seq ?_)))
  refine walk_seqB 1 [.quiet (.bool false)] H2 ?ho3 ?he3
  case ho3 => exact ak (fun _ => ⟨rfl, fun _ _ => rfl⟩) trivial
  intro _ w3 H3
  clear H2
  refine rest0 rfl (then_normal (wp_cond_false rfl ?_))
  refine wp_skip (then_normal (wp_seq ?_))
  refine walk_seqB 1 [.quiet (N r)] H3 ?ho4 ?he4
  case ho4 => exact ak (fun γ => ⟨rfl, fun w' h => ex_load6 h 0 rfl rfl rfl rfl⟩) trivial
  intro _ w4 H4
  clear H3
  refine rest_at (l := [1]) rfl ?_
  refine rest_store rfl rfl rfl (ex_store6 H4.out.1 2 rfl rfl rfl rfl (Nat.le_of_ble_eq_true rfl)) ?_
  have H5 : Hid (Mm (w4.setCells γ1_1 0 (cells6 r)) [(γ2_9, cells6 r), (γ1_0, cells6 a), (γ1_1, cells6 r), (g, modx n o s)] ∧ Below w.heap.size w (w4.setCells γ1_1 0 (cells6 r))) := ⟨H4.out.1.put 2 (off := 0) (vs := cells6 r) rfl (Nat.le_of_ble_eq_true rfl), below_setCells _ o1_1.out _ _ _ H4.out.2⟩
  clear H4
  generalize hgw : World.setCells _ _ _ _ = w5 at H5 ⊢
  clear hgw
  refine rest_nil (then_normal (wp_ret ?_))
  repeat (first | refine then_ret ?_ | refine block_ret ?_)
  have c0 := H5.out.1.get 2 rfl 0 rfl
  have c1 := H5.out.1.get 2 rfl 1 rfl
  have c2 := H5.out.1.get 2 rfl 2 rfl
  have c3 := H5.out.1.get 2 rfl 3 rfl
  have c4 := H5.out.1.get 2 rfl 4 rfl
  have c5 := H5.out.1.get 2 rfl 5 rfl
  refine bodyPost_ret (v := N r) (by simp [results, Tryz.results212, go_sem, *]) rfl ?_
  exact ⟨rfl, H5.out.2⟩
theorem below_any (g n o s a : Nat) (ha : a < big) (hn : n < big) (w : World) (hm : Mm w [(g, modx n o s)]) :
    Calls Tryz.prog 212 #[PT g 0, N a] w fun e w' => e = .returned (N (if a < n then a else a - n)) ∧ Below w.heap.size w w' := by
  have c := fun w => sub_any a n ha hn w
  by_cases h : a < n
  · rw [if_pos h]
    simp only [decide_eq_true h] at c
    exact below_t g n o s a _ c w hm
  · rw [if_neg h]
    simp only [decide_eq_false h] at c
    have e : (a + big - n) % big = a - n := by
      rw [show a + big - n = a - n + big by omega, Nat.add_mod_right, Nat.mod_eq_of_lt (by omega)]
    rw [e] at c
    exact below_f g n o s a _ c w hm
end Rg
end Go.Proofs.YtdbejmgomajjmaaGreatDoor
end
section
namespace Go.Proofs.YtdbejmgomajjmaaGreatDoor
open Go.RowKit
namespace Rg
/-- Slots of a frame, by a list. -/
def slotfn (l : List Value) (d : Nat) : Value := l.getD d undef
/-! Rows of six words. -/
abbrev rowc (f : Nat → Int) : List Value := [.int .u64 (f 0), .int .u64 (f 1), .int .u64 (f 2), .int .u64 (f 3), .int .u64 (f 4), .int .u64 (f 5)]
theorem row_at {f : Nat → Int} {j : Nat} (hj : j < 6) : (rowc f)[0 + j]? = some (.int .u64 (f j)) := by
  match j, hj with
  | 0, _ => rfl
  | 1, _ => rfl
  | 2, _ => rfl
  | 3, _ => rfl
  | 4, _ => rfl
  | 5, _ => rfl
theorem modn_at {n o s j : Nat} (hj : j < 6) : (modx n o s)[0 + j]? = some (.int .u64 (wd n j)) := by
  match j, hj with
  | 0, _ => rfl
  | 1, _ => rfl
  | 2, _ => rfl
  | 3, _ => rfl
  | 4, _ => rfl
  | 5, _ => rfl
theorem patch_row {f : Nat → Int} {j : Nat} {v : Int} (hj : j < 6) : patch (rowc f) (0 + j) [.int .u64 v] = rowc (upd f j v) := by
  match j, hj with
  | 0, _ => rfl
  | 1, _ => rfl
  | 2, _ => rfl
  | 3, _ => rfl
  | 4, _ => rfl
  | 5, _ => rfl
theorem row_bd {f : Nat → Int} {j : Nat} (hj : j < 6) : 0 + j < (rowc f).length := by
  show 0 + j < 6
  omega
theorem row_congr {f g : Nat → Int} (h : ∀ j, j < 6 → f j = g j) : rowc f = rowc g := by
  unfold rowc
  rw [h 0 (by decide), h 1 (by decide), h 2 (by decide), h 3 (by decide), h 4 (by decide), h 5 (by decide)]
theorem ex_indexAddr6 {ρ : Operand → Value} {o : Oper} {x y : Operand} {g off j : Nat} {w : World} (ho : o.op = .indexAddr 24 x y) (hx : ρ x = PT g off) (hy : ρ y = .int .i64 ((j : Nat) : Int)) (hj : j < 6) :
    (execOp ρ o).run Tryz.prog w = .ok (.value (PT g (off + j))) w := by
  have h1 : (j : Int) < 6 := by omega
  simp only [execOp, ho, hx, hy]
  clear ho hx hy
  go_simp
theorem ex_index6 {ρ : Operand → Value} {o : Oper} {x y : Operand} {a j : Nat} {w : World} (ho : o.op = .index 24 x y) (hx : ρ x = N a) (hy : ρ y = .int .i64 ((j : Nat) : Int)) (hj : j < 6) :
    (execOp ρ o).run Tryz.prog w = .ok (.value (.int .u64 (wd a j))) w := by
  simp only [execOp, ho, hx, hy]
  clear ho hx hy
  rcases (by omega : j = 0 ∨ j = 1 ∨ j = 2 ∨ j = 3 ∨ j = 4 ∨ j = 5) with rfl | rfl | rfl | rfl | rfl | rfl <;> kernel_rfl
theorem cells_zero : cells6 0 = zero6 := by simp [cells6, zero6, wd_zero]
theorem cells_start (n wr a b : Nat) : zero6 = cells6 (mrun n wr a b 0) := by show zero6 = cells6 0; exact cells_zero.symm
theorem Mm.at0 {w : World} {g : Nat} {cs cs' : List Value} {l : List (Nat × List Value)} (h : Mm w ((g, cs) :: l)) (e : cs = cs') : Mm w ((g, cs') :: l) := e ▸ h
/-! One round's row. -/
def inn (S Y j m : Nat) : Int := if m + 1 < j then wd Y (m + 1) else wd S m
theorem inn_at {S Y m : Nat} (hj : m + 1 < 6) : (rowc (inn S Y (m + 1)))[0 + (m + 1)]? = some (.int .u64 (wd S (m + 1))) := by
  rw [row_at hj]
  unfold inn
  rw [if_neg (by omega)]
theorem inn_step {S Y m : Nat} {v : Int} (h : v = wd Y (m + 1)) : rowc (upd (inn S Y (m + 1)) m v) = rowc (inn S Y (m + 1 + 1)) := row_congr fun j _ => by
  unfold upd inn
  by_cases h1 : j = m
  · subst h1; rw [if_pos rfl, if_pos (by omega), h]
  · rw [if_neg h1]
    by_cases h2 : j + 1 < m + 1
    · rw [if_pos h2, if_pos (by omega)]
    · rw [if_neg h2, if_neg (by omega)]
theorem patch_row5 {f : Nat → Int} {v : Int} : patch (rowc f) 5 [.int .u64 v] = rowc (upd f 5 v) := rfl
theorem inn_end {S Y Z : Nat} {v : Int} (hv : v = wd Z 5) (h : ∀ k, k < 5 → wd Z k = wd Y (k + 1)) : rowc (upd (inn S Y 6) 5 v) = cells6 Z := by
  show _ = rowc (wd Z)
  refine row_congr fun j hj => ?_
  unfold upd inn
  by_cases h1 : j = 5
  · subst h1; rw [if_pos rfl, hv]
  · rw [if_neg h1, if_pos (by omega), h j (by omega)]
theorem first_lo (x y : Nat) (m : Int) : addLo (pLo x y) m 0 = mulLo x y m 0 := by
  unfold addLo pLo mulLo
  rw [← Int.natCast_mul]
  generalize x * y = p
  omega
theorem first_hi (x y : Nat) (m : Int) (hx : x < 18446744073709551616) (hy : y < 18446744073709551616) (hm : 0 ≤ m) (hm' : m < 18446744073709551616) :
    IntKind.u64.wrap (pHi x y + addHi (pLo x y) m 0) = mulHi x y m 0 := by
  have h := prod_le x y hx hy
  rw [IntKind.wrap_u64]
  unfold addHi pLo pHi mulHi
  rw [← Int.natCast_mul]
  generalize x * y = p at h ⊢
  omega
theorem call212 : ∀ args w, (callFunc 212 args).run Tryz.prog w = .ok (.enter 212 args) w := by intro args w; go_simp
theorem call135 : ∀ args w, (callFunc 135 args).run Tryz.prog w = .ok (.enter 135 args) w := by intro args w; go_simp
theorem call211 : ∀ args w, (callFunc 211 args).run Tryz.prog w = .ok (.enter 211 args) w := by intro args w; go_simp
end Rg
end Go.Proofs.YtdbejmgomajjmaaGreatDoor
end
section
namespace Go.Proofs.YtdbejmgomajjmaaGreatDoor
open Go.RowKit
namespace Rg
set_option maxHeartbeats 4000000 in
set_option maxRecDepth 100000 in
theorem product_any (g n o s a b : Nat) (ok : Ok n) (ha : a < big) (hbn : b < n) (w : World) (hm : Mm w [(g, modx n o s)]) :
    Calls Tryz.prog 173 #[PT g 0, N a, N b] w fun e w' => e = .returned (N (mont n a b)) ∧ Below w.heap.size w w' := by
  have H0 : Hid (_ ∧ _) := ⟨hm, Below.refl w.heap.size w⟩
  clear hm
  have hb : b < big := Nat.lt_trans hbn ok.big
  have cG : ∀ w, Mm w [(g, modx n o s)] → Calls Tryz.prog 212 #[PT g 0, N (mrun n (wrapN n) a b 6)] w fun e w' => e = .returned (N (mont n a b)) ∧ Below w.heap.size w w' := fun w hm => by
    have h1 := mrun_lt n (wrapN n) a b ok.pos 6
    have h2 := below_any g n o s (mrun n (wrapN n) a b 6) (by have := ok.top; omega) ok.big w hm
    rw [low_cut n _ _ (mrun_end n (wrapN n) a b ok.odd (wrapN_spec n ok.odd) ha) (by omega) (mont_lt n a b ok.pos)] at h2
    exact h2
  have CG : Hid _ := cG
  have HA : Hid _ := ha
  clear cG ha
  go_enter Tryz.func173, Tryz.ntmps173
  refine wp_seq ?_
  refine walk_seqA 3 [.made (cells6 a) 24, .made (cells6 b) 24, .made zero6 24] (sB H0) ?ho1 ?he1
  case ho1 => exact ak (fun γ => ⟨rfl, fun w' => ex_box6 rfl rfl⟩) (ak (fun γ => ⟨rfl, fun w' => ex_box6 rfl rfl⟩) (ak (fun γ => ⟨rfl, fun w' => exec_made6 rfl⟩) trivial))
  intro γ w1 l hM hl
  have M1 : Mm w1 [(γ 0, cells6 a), (γ 1, cells6 b), (γ 2, zero6), (g, modx n o s)] := H0.out.1.grow hM (Nat.le_refl _) hl [0, 1, 2] rfl (by decide)
  have B1 : Below w.heap.size w w1 := H0.out.2.trans ((hM.below).mono H0.out.2.size)
  have o1_0 : Hid (w.heap.size ≤ γ 0) := Nat.le_trans H0.out.2.size (hM.fin (Nat.le_refl _) hl (i := 0) rfl).2.1
  have o1_1 : Hid (w.heap.size ≤ γ 1) := Nat.le_trans H0.out.2.size (hM.fin (Nat.le_refl _) hl (i := 1) rfl).2.1
  have o1_2 : Hid (w.heap.size ≤ γ 2) := Nat.le_trans H0.out.2.size (hM.fin (Nat.le_refl _) hl (i := 2) rfl).2.1
  clear hM hl l
  generalize γ 0 = γ1_0 at M1 o1_0 ⊢
  generalize γ 1 = γ1_1 at M1 o1_1 ⊢
  generalize γ 2 = γ1_2 at M1 o1_2 ⊢
  clear γ
  have H1 : Hid (_ ∧ _) := ⟨M1, B1⟩
  clear M1 B1
  refine rest0 rfl (then_normal (wp_seq ?_))
  refine walk_seqA 1 [.made zero6 24] (sB H1) ?ho2 ?he2
  case ho2 => exact ak (fun γ => ⟨rfl, fun w' => exec_made6 rfl⟩) trivial
  intro γ w2 l hM hl
  have M2 : Mm w2 [(γ 0, zero6), (γ1_0, cells6 a), (γ1_1, cells6 b), (γ1_2, zero6), (g, modx n o s)] := H1.out.1.grow hM (Nat.le_refl _) hl [0] rfl (by decide)
  have B2 : Below w.heap.size w w2 := H1.out.2.trans ((hM.below).mono H1.out.2.size)
  have o2_0 : Hid (w.heap.size ≤ γ 0) := Nat.le_trans H1.out.2.size (hM.fin (Nat.le_refl _) hl (i := 0) rfl).2.1
  clear hM hl l H1
  generalize γ 0 = γ2_0 at M2 o2_0 ⊢
  clear γ
  have H2 : Hid (_ ∧ _) := ⟨M2, B2⟩
  clear M2 B2
  refine rest0 rfl (then_normal (wp_seq (wp_seq ?_)))
  refine walk_seqA 2 [.quiet (N a), .quiet (.int .i64 0)] (sB H2) ?ho3 ?he3
  case ho3 => exact ak (fun γ => ⟨rfl, fun w' h => ex_load6 h 1 rfl rfl rfl rfl⟩) (ak (fun _ => ⟨rfl, fun _ _ => rfl⟩) trivial)
  intro γ w3 l hM hl
  have M3 : Mm w3 [(γ2_0, zero6), (γ1_0, cells6 a), (γ1_1, cells6 b), (γ1_2, zero6), (g, modx n o s)] := H2.out.1.grow hM (Nat.le_refl _) hl [] rfl (by decide)
  have B3 : Below w.heap.size w w3 := H2.out.2.trans ((hM.below).mono H2.out.2.size)
  clear hM hl l H2
  clear γ
  have H3 : Hid (_ ∧ _) := ⟨M3, B3⟩
  clear M3 B3
  refine rest0 rfl (then_normal (wp_block ?_))
  refine loop_ghost (α := Nat) (fun i a' w' => ∃ s0 : Nat → Value, a' = ⟨#[PT g 0, N a, N b, undef, PT γ1_0 0, PT γ1_1 0, PT γ1_2 0, PT γ2_0 0, undef, s0 9, s0 10, s0 11, s0 12, s0 13, s0 14, s0 15, s0 16, s0 17, N a, .int .i64 ((i : Nat) : Int), s0 20, s0 21, s0 22, s0 23, s0 24, s0 25, s0 26, s0 27, s0 28, s0 29, s0 30, s0 31, s0 32, s0 33, s0 34, s0 35, s0 36, s0 37, s0 38, s0 39, s0 40, s0 41, s0 42, s0 43, s0 44, s0 45, s0 46, s0 47, s0 48, s0 49, s0 50, s0 51, s0 52, s0 53, s0 54, s0 55, s0 56, s0 57, s0 58, s0 59, s0 60, s0 61, s0 62, s0 63, s0 64, s0 65, s0 66, s0 67, s0 68, s0 69, s0 70, s0 71, s0 72, s0 73, s0 74, s0 75, s0 76, s0 77, s0 78, s0 79, s0 80, s0 81, s0 82, s0 83, s0 84, s0 85, s0 86, s0 87, s0 88, s0 89, s0 90, s0 91, s0 92, s0 93, s0 94, s0 95, s0 96, s0 97, s0 98, s0 99, s0 100, undef, undef, undef], []⟩ ∧ (Mm w' [(γ2_0, cells6 (mrun n (wrapN n) a b i)), (γ1_0, cells6 a), (γ1_1, cells6 b), (γ1_2, zero6), (g, modx n o s)] ∧ Below w.heap.size w w') ∧ i ≤ 6) (fun i => 6 - i) 0 ?st0 ?rd0
  case st0 => exact ⟨(slotfn [undef, undef, undef, undef, undef, undef, undef, undef, undef, undef, undef, undef, undef, undef, undef, undef, undef, undef, undef, undef, undef, undef, undef, undef, undef, undef, undef, undef, undef, undef, undef, undef, undef, undef, undef, undef, undef, undef, undef, undef, undef, undef, undef, undef, undef, undef, undef, undef, undef, undef, undef, undef, undef, undef, undef, undef, undef, undef, undef, undef, undef, undef, undef, undef, undef, undef, undef, undef, undef, undef, undef, undef, undef, undef, undef, undef, undef, undef, undef, undef, undef, undef, undef, undef, undef, undef, undef, undef, undef, undef, undef, undef, undef, undef, undef, undef, undef, undef, undef, undef, undef]), rfl, ⟨H3.out.1.at0 (cells_start n (wrapN n) a b), H3.out.2⟩, by omega⟩
  intro i a' w4 hI
  obtain ⟨s0, rfl, hMB, hk0⟩ := hI
  have H4 : Hid (_ ∧ _) := hMB
  clear hMB H3
  by_cases hlt : i < 6
  · have hrd : True := trivial
    clear hrd
    have hx := wn_lt a i
    have hS0 := mrun_lt n (wrapN n) a b (by have := ok.three; omega) i
    obtain ⟨S, hS⟩ : ∃ S, S = mrun n (wrapN n) a b i := ⟨_, rfl⟩
    obtain ⟨X, hX⟩ : ∃ X, X = S + wn a i * b := ⟨_, rfl⟩
    obtain ⟨t, ht⟩ : ∃ t, t = mt X (wrapN n) := ⟨_, rfl⟩
    obtain ⟨Y, hY⟩ : ∃ Y, Y = X + t * n := ⟨_, rfl⟩
    obtain ⟨Z, hZ⟩ : ∃ Z, Z = mrun n (wrapN n) a b (i + 1) := ⟨_, rfl⟩
    have hZ1 : Z = mstep n (wrapN n) b S (wn a i) := by rw [hZ, hS]; rfl
    have htl : t < 18446744073709551616 := by rw [ht]; exact mt_lt _ _
    have hZ2 : Z < big := by have h1 := mrun_lt n (wrapN n) a b ok.pos (i + 1); have h2 := ok.top; rw [hZ]; omega
    have hS2 : S < big := by have h2 := ok.top; rw [hS]; omega
    have e1 : addLo (pLo (wn a i) (wn b 0)) (wd S 0) 0 = wd X 0 := by
      have h := cc_lo S (wn a i) b 0
      rw [cc_zero] at h
      rw [first_lo, hX, ← h]; rfl
    have e2 : IntKind.u64.wrap (pHi (wn a i) (wn b 0) + addHi (pLo (wn a i) (wn b 0)) (wd S 0) 0) = (cc S (wn a i) b 1 : Nat) := by
      have h := cc_hi S (wn a i) b 0
      rw [cc_zero] at h
      rw [first_hi _ _ _ hx (wn_lt b 0) (wd_bd S 0).1 (wd_bd S 0).2, ← h]; rfl
    have e3 : IntKind.u64.wrap (wd X 0 * wrapZ (wd n 0)) = (t : Nat) := by
      rw [IntKind.wrap_u64, ← wrapN_cast, ht, wd_wn]
      unfold mt wn
      rw [Nat.mul_zero, Nat.pow_zero, Nat.div_one, ← Int.natCast_mul]; rfl
    have e4 : IntKind.u64.wrap (pHi t (wn n 0) + addHi (pLo t (wn n 0)) (wd X 0) 0) = (cc X t n 1 : Nat) := by
      have h := cc_hi X t n 0
      rw [cc_zero] at h
      rw [first_hi _ _ _ htl (wn_lt n 0) (wd_bd X 0).1 (wd_bd X 0).2, ← h]; rfl
    have e5 : IntKind.u64.wrap (((cc S (wn a i) b 6 : Nat) : Int) + ((cc X t n 6 : Nat) : Int)) = wd Z 5 := by
      have h := step_top n (wrapN n) b S (wn a i) hS2 hb ok.big (by rw [← hZ1]; exact hZ2)
      rw [← hX, ← ht, ← hZ1] at h
      have h2 := wn_lt Z 5
      rw [IntKind.wrap_u64, wd_wn, ← h]
      omega
    have e6 : ∀ k, k < 5 → wd Z k = wd Y (k + 1) := fun k _ => by rw [hZ1, step_word, hY, hX, ht, ← hX]
    have cA : ∀ m, ∀ w, Calls Tryz.prog 211 #[.int .u64 (wd a i), .int .u64 (wd b m), .int .u64 (wd S m), .int .u64 ((cc S (wn a i) b m : Nat) : Int)] w fun e w' => e = .returned (.tuple #[.int .u64 (wd X m), .int .u64 ((cc S (wn a i) b (m + 1) : Nat) : Int)]) ∧ Below w.heap.size w w' := fun m w => by
      have h := mulAddM_any (wd a i) (wd b m) (wd S m) ((cc S (wn a i) b m : Nat) : Int) (wd_bd _ _).1 (wd_bd _ _).2 (wd_bd _ _).1 (wd_bd _ _).2 (wd_bd _ _).1 (wd_bd _ _).2 (Int.natCast_nonneg _) (by have := cc_lt S (wn a i) b m hx; omega) w
      rw [wd_wn a i, cc_lo, cc_hi, ← hX] at h
      exact h.mono fun e w2 ⟨h1, h2⟩ => ⟨h1, h2 ▸ Below.refl _ _⟩
    have cB : ∀ m, ∀ w, Calls Tryz.prog 211 #[.int .u64 ((t : Nat) : Int), .int .u64 (wd n m), .int .u64 (wd X m), .int .u64 ((cc X t n m : Nat) : Int)] w fun e w' => e = .returned (.tuple #[.int .u64 (wd Y m), .int .u64 ((cc X t n (m + 1) : Nat) : Int)]) ∧ Below w.heap.size w w' := fun m w => by
      have h := mulAddM_any ((t : Nat) : Int) (wd n m) (wd X m) ((cc X t n m : Nat) : Int) (Int.natCast_nonneg _) (by omega) (wd_bd _ _).1 (wd_bd _ _).2 (wd_bd _ _).1 (wd_bd _ _).2 (Int.natCast_nonneg _) (by have := cc_lt X t n m htl; omega) w
      rw [cc_lo, cc_hi, ← hY] at h
      exact h.mono fun e w2 ⟨h1, h2⟩ => ⟨h1, h2 ▸ Below.refl _ _⟩
    have cC : ∀ w, Calls Tryz.prog 135 #[.int .u64 (wd a i), .int .u64 (wd b 0)] w fun e w' => e = .returned (.tuple #[.int .u64 (pHi (wn a i) (wn b 0)), .int .u64 (pLo (wn a i) (wn b 0))]) ∧ Below w.heap.size w w' := fun w =>
      (mul64' (wn a i) (wn b 0) hx (wn_lt b 0) w).mono fun e w2 ⟨h1, h2⟩ => ⟨h1, h2 ▸ Below.refl _ _⟩
    have cD : ∀ w, Calls Tryz.prog 135 #[.int .u64 ((t : Nat) : Int), .int .u64 (wd n 0)] w fun e w' => e = .returned (.tuple #[.int .u64 (pHi t (wn n 0)), .int .u64 (pLo t (wn n 0))]) ∧ Below w.heap.size w w' := fun w =>
      (mul64' t (wn n 0) htl (wn_lt n 0) w).mono fun e w2 ⟨h1, h2⟩ => ⟨h1, h2 ▸ Below.refl _ _⟩
    have cE := fun w => add64' (pLo (wn a i) (wn b 0)) (wd S 0) 0 (by unfold pLo; omega) (wd_bd S 0).1 (by omega) (by omega) w
    rw [e1] at cE
    have cF := fun w => add64' (pLo t (wn n 0)) (wd X 0) 0 (by unfold pLo; omega) (wd_bd X 0).1 (by omega) (by omega) w
    have CA : Hid _ := cA
    have CB : Hid _ := cB
    have CC : Hid _ := cC
    have CD : Hid _ := cD
    have CE : Hid _ := cE
    have CF : Hid _ := cF
    have E6 : Hid _ := e6
    have HZ : Hid _ := hZ
    rw [← hS] at H4
    clear cA cB cC cD cE cF e6 hZ hZ1 hZ2 hS hS2 hS0 hX ht hY htl hx e1
    generalize addHi (pLo (wn a i) (wn b 0)) (wd S 0) 0 = k1 at e2 CE
    generalize addHi (pLo t (wn n 0)) (wd X 0) 0 = k2 at e4 CF
    generalize addLo (pLo t (wn n 0)) (wd X 0) 0 = z2 at CF
    generalize pHi (wn a i) (wn b 0) = h1 at e2 CC
    generalize pLo (wn a i) (wn b 0) = l1 at CC CE
    generalize pHi t (wn n 0) = h2 at e4 CD
    generalize pLo t (wn n 0) = l2 at CD CF
    refine wp_seq ?_
    refine walk_seqA 1 [.quiet (.bool true)] (sB H4) ?ho4 ?he4
    case ho4 => exact ak (by refine fun γ => ⟨rfl, fun w' h => ?_⟩; clear h; go_simp <;> omega) trivial
    intro γ w5 l hM hl
    have M5 : Mm w5 [(γ2_0, cells6 S), (γ1_0, cells6 a), (γ1_1, cells6 b), (γ1_2, zero6), (g, modx n o s)] := H4.out.1.grow hM (Nat.le_refl _) hl [] rfl (by decide)
    have B5 : Below w.heap.size w w5 := H4.out.2.trans ((hM.below).mono H4.out.2.size)
    clear hM hl l H4
    clear γ
    have H5 : Hid (_ ∧ _) := ⟨M5, B5⟩
    clear M5 B5
    refine rest0 rfl (then_normal (wp_seq ?_))
    refine wp_cond_true rfl (wp_skip ?_)
    refine then_normal (wp_seq ?_)
    refine wp_block (wp_seq ?_)
    refine walk_seqA 2 [.quiet (.int .u64 (wd a i)), .quiet (.int .u64 (wd a i))] (sB H5) ?ho5 ?he5
    case ho5 => exact ak (fun γ => ⟨rfl, fun w' _ => ex_index6 rfl rfl rfl hlt⟩) (ak (fun _ => ⟨rfl, fun _ _ => rfl⟩) trivial)
    intro γ w6 l hM hl
    have M6 : Mm w6 [(γ2_0, cells6 S), (γ1_0, cells6 a), (γ1_1, cells6 b), (γ1_2, zero6), (g, modx n o s)] := H5.out.1.grow hM (Nat.le_refl _) hl [] rfl (by decide)
    have B6 : Below w.heap.size w w6 := H5.out.2.trans ((hM.below).mono H5.out.2.size)
    clear hM hl l H5
    clear γ
    have H6 : Hid (_ ∧ _) := ⟨M6, B6⟩
    clear M6 B6
    refine rest0 rfl (then_normal (wp_seq ?_))
    refine walk_seqA 9 [.quiet (.int .u64 (wd a i)), .quiet (PT γ1_1 0), .quiet (.int .u64 (wd b 0)), .call (.tuple #[.int .u64 h1, .int .u64 l1]), .quiet (.tuple #[.int .u64 h1, .int .u64 l1]), .quiet (.int .u64 h1), .quiet (.int .u64 l1), .quiet (.int .u64 h1), .quiet (.int .u64 l1)] (sB H6) ?ho6 ?he6
    case ho6 => exact ak (fun _ => ⟨rfl, fun _ _ => rfl⟩) (ak (by refine fun γ => ⟨rfl, fun w' h => ?_⟩; clear h; go_simp) (ak (fun γ => ⟨rfl, fun w' h => ex_load1 h 2 rfl rfl rfl rfl⟩) (ak (fun γ => ⟨rfl, fun w' h => ⟨135, #[.int .u64 (wd a i), .int .u64 (wd b 0)], exec_call rfl call135 rfl (mpn rfl), CC.out w'⟩⟩) (ak (fun _ => ⟨rfl, fun _ _ => rfl⟩) (ak (by refine fun γ => ⟨rfl, fun w' h => ?_⟩; clear h; go_simp) (ak (by refine fun γ => ⟨rfl, fun w' h => ?_⟩; clear h; go_simp) (ak (fun _ => ⟨rfl, fun _ _ => rfl⟩) (ak (fun _ => ⟨rfl, fun _ _ => rfl⟩) trivial))))))))
    intro γ w7 l hM hl
    have M7 : Mm w7 [(γ2_0, cells6 S), (γ1_0, cells6 a), (γ1_1, cells6 b), (γ1_2, zero6), (g, modx n o s)] := H6.out.1.grow hM (Nat.le_refl _) hl [] rfl (by decide)
    have B7 : Below w.heap.size w w7 := H6.out.2.trans ((hM.below).mono H6.out.2.size)
    clear hM hl l H6
    clear γ
    have H7 : Hid (_ ∧ _) := ⟨M7, B7⟩
    clear M7 B7
    refine rest0 rfl (then_normal (wp_seq ?_))
    refine walk_seqA 7 [.quiet (.int .u64 l1), .quiet (PT γ2_0 0), .quiet (.int .u64 (wd S 0)), .quiet (.tuple #[.int .u64 (wd X 0), .int .u64 k1]), .quiet (.tuple #[.int .u64 (wd X 0), .int .u64 k1]), .quiet (.int .u64 (wd X 0)), .quiet (.int .u64 k1)] (sB H7) ?ho7 ?he7
    case ho7 => exact ak (fun _ => ⟨rfl, fun _ _ => rfl⟩) (ak (by refine fun γ => ⟨rfl, fun w' h => ?_⟩; clear h; go_simp) (ak (fun γ => ⟨rfl, fun w' h => ex_load1 h 0 rfl rfl rfl rfl⟩) (ak (fun γ => ⟨rfl, fun w' h => ex_extern rfl (CE.out w') rfl (mpn rfl)⟩) (ak (fun _ => ⟨rfl, fun _ _ => rfl⟩) (ak (by refine fun γ => ⟨rfl, fun w' h => ?_⟩; clear h; go_simp) (ak (by refine fun γ => ⟨rfl, fun w' h => ?_⟩; clear h; go_simp) trivial))))))
    intro γ w8 l hM hl
    have M8 : Mm w8 [(γ2_0, cells6 S), (γ1_0, cells6 a), (γ1_1, cells6 b), (γ1_2, zero6), (g, modx n o s)] := H7.out.1.grow hM (Nat.le_refl _) hl [] rfl (by decide)
    have B8 : Below w.heap.size w w8 := H7.out.2.trans ((hM.below).mono H7.out.2.size)
    clear hM hl l H7
    clear γ
    have H8 : Hid (_ ∧ _) := ⟨M8, B8⟩
    clear M8 B8
    refine rest_at (l := [7, 8]) rfl ?_
    refine rest_set (d := 11) rfl rfl rfl rfl ?_
    simp only [Act.put, sa, sz, ss]
    refine rest_set (d := 12) rfl rfl rfl rfl ?_
    simp only [Act.put, sa, sz, ss]
    refine rest_nil (then_normal (wp_seq ?_))
    refine walk_seqA 4 [.quiet (.int .u64 h1), .quiet (.int .u64 k1), .quiet (.int .u64 ((cc S (wn a i) b 1 : Nat) : Int)), .quiet (.int .u64 ((cc S (wn a i) b 1 : Nat) : Int))] (sB H8) ?ho8 ?he8
    case ho8 => exact ak (fun _ => ⟨rfl, fun _ _ => rfl⟩) (ak (fun _ => ⟨rfl, fun _ _ => rfl⟩) (ak (by refine fun γ => ⟨rfl, fun w' h => ?_⟩; clear h; go_simp) (ak (fun _ => ⟨rfl, fun _ _ => rfl⟩) trivial)))
    intro γ w9 l hM hl
    have M9 : Mm w9 [(γ2_0, cells6 S), (γ1_0, cells6 a), (γ1_1, cells6 b), (γ1_2, zero6), (g, modx n o s)] := H8.out.1.grow hM (Nat.le_refl _) hl [] rfl (by decide)
    have B9 : Below w.heap.size w w9 := H8.out.2.trans ((hM.below).mono H8.out.2.size)
    clear hM hl l H8
    clear γ
    have H9 : Hid (_ ∧ _) := ⟨M9, B9⟩
    clear M9 B9
    refine rest0 rfl (then_normal (wp_seq ?_))
    refine walk_seqA 7 [.quiet (.int .u64 (wd X 0)), .quiet (PT g 0), .quiet (PT g 0), .quiet (PT g 6), .quiet (.int .u64 (wrapZ (wd n 0))), .quiet (.int .u64 ((t : Nat) : Int)), .quiet (.int .u64 ((t : Nat) : Int))] (sB H9) ?ho9 ?he9
    case ho9 => exact ak (fun _ => ⟨rfl, fun _ _ => rfl⟩) (ak (fun _ => ⟨rfl, fun _ _ => rfl⟩) (ak (by refine fun γ => ⟨rfl, fun w' h => ?_⟩; clear h; go_simp) (ak (by refine fun γ => ⟨rfl, fun w' h => ?_⟩; clear h; go_simp) (ak (fun γ => ⟨rfl, fun w' h => ex_load1 h 4 rfl rfl rfl rfl⟩) (ak (by refine fun γ => ⟨rfl, fun w' h => ?_⟩; clear h; go_simp) (ak (fun _ => ⟨rfl, fun _ _ => rfl⟩) trivial))))))
    intro γ w10 l hM hl
    have M10 : Mm w10 [(γ2_0, cells6 S), (γ1_0, cells6 a), (γ1_1, cells6 b), (γ1_2, zero6), (g, modx n o s)] := H9.out.1.grow hM (Nat.le_refl _) hl [] rfl (by decide)
    have B10 : Below w.heap.size w w10 := H9.out.2.trans ((hM.below).mono H9.out.2.size)
    clear hM hl l H9
    clear γ
    have H10 : Hid (_ ∧ _) := ⟨M10, B10⟩
    clear M10 B10
    refine rest0 rfl (then_normal (wp_seq ?_))
    refine walk_seqA 12 [.quiet (.int .u64 ((t : Nat) : Int)), .quiet (PT g 0), .quiet (PT g 0), .quiet (PT g 0), .quiet (PT g 0), .quiet (.int .u64 (wd n 0)), .call (.tuple #[.int .u64 h2, .int .u64 l2]), .quiet (.tuple #[.int .u64 h2, .int .u64 l2]), .quiet (.int .u64 h2), .quiet (.int .u64 l2), .quiet (.int .u64 h2), .quiet (.int .u64 l2)] (sB H10) ?ho10 ?he10
    case ho10 => exact ak (fun _ => ⟨rfl, fun _ _ => rfl⟩) (ak (fun _ => ⟨rfl, fun _ _ => rfl⟩) (ak (by refine fun γ => ⟨rfl, fun w' h => ?_⟩; clear h; go_simp) (ak (by refine fun γ => ⟨rfl, fun w' h => ?_⟩; clear h; go_simp) (ak (by refine fun γ => ⟨rfl, fun w' h => ?_⟩; clear h; go_simp) (ak (fun γ => ⟨rfl, fun w' h => ex_load1 h 4 rfl rfl rfl rfl⟩) (ak (fun γ => ⟨rfl, fun w' h => ⟨135, #[.int .u64 ((t : Nat) : Int), .int .u64 (wd n 0)], exec_call rfl call135 rfl (mpn rfl), CD.out w'⟩⟩) (ak (fun _ => ⟨rfl, fun _ _ => rfl⟩) (ak (by refine fun γ => ⟨rfl, fun w' h => ?_⟩; clear h; go_simp) (ak (by refine fun γ => ⟨rfl, fun w' h => ?_⟩; clear h; go_simp) (ak (fun _ => ⟨rfl, fun _ _ => rfl⟩) (ak (fun _ => ⟨rfl, fun _ _ => rfl⟩) trivial)))))))))))
    intro γ w11 l hM hl
    have M11 : Mm w11 [(γ2_0, cells6 S), (γ1_0, cells6 a), (γ1_1, cells6 b), (γ1_2, zero6), (g, modx n o s)] := H10.out.1.grow hM (Nat.le_refl _) hl [] rfl (by decide)
    have B11 : Below w.heap.size w w11 := H10.out.2.trans ((hM.below).mono H10.out.2.size)
    clear hM hl l H10
    clear γ
    have H11 : Hid (_ ∧ _) := ⟨M11, B11⟩
    clear M11 B11
    refine rest0 rfl (then_normal (wp_seq ?_))
    refine walk_seqA 7 [.quiet (.int .u64 l2), .quiet (.int .u64 (wd X 0)), .quiet (.tuple #[.int .u64 z2, .int .u64 k2]), .quiet (.tuple #[.int .u64 z2, .int .u64 k2]), .quiet (.int .u64 z2), .quiet (.int .u64 k2), .quiet (.int .u64 k2)] (sB H11) ?ho11 ?he11
    case ho11 => exact ak (fun _ => ⟨rfl, fun _ _ => rfl⟩) (ak (fun _ => ⟨rfl, fun _ _ => rfl⟩) (ak (fun γ => ⟨rfl, fun w' h => ex_extern rfl (CF.out w') rfl (mpn rfl)⟩) (ak (fun _ => ⟨rfl, fun _ _ => rfl⟩) (ak (by refine fun γ => ⟨rfl, fun w' h => ?_⟩; clear h; go_simp) (ak (by refine fun γ => ⟨rfl, fun w' h => ?_⟩; clear h; go_simp) (ak (fun _ => ⟨rfl, fun _ _ => rfl⟩) trivial))))))
    intro γ w12 l hM hl
    have M12 : Mm w12 [(γ2_0, cells6 S), (γ1_0, cells6 a), (γ1_1, cells6 b), (γ1_2, zero6), (g, modx n o s)] := H11.out.1.grow hM (Nat.le_refl _) hl [] rfl (by decide)
    have B12 : Below w.heap.size w w12 := H11.out.2.trans ((hM.below).mono H11.out.2.size)
    clear hM hl l H11
    clear γ
    have H12 : Hid (_ ∧ _) := ⟨M12, B12⟩
    clear M12 B12
    refine rest0 rfl (then_normal (wp_seq ?_))
    refine walk_seqA 4 [.quiet (.int .u64 h2), .quiet (.int .u64 k2), .quiet (.int .u64 ((cc X t n 1 : Nat) : Int)), .quiet (.int .u64 ((cc X t n 1 : Nat) : Int))] (sB H12) ?ho12 ?he12
    case ho12 => exact ak (fun _ => ⟨rfl, fun _ _ => rfl⟩) (ak (fun _ => ⟨rfl, fun _ _ => rfl⟩) (ak (by refine fun γ => ⟨rfl, fun w' h => ?_⟩; clear h; go_simp) (ak (fun _ => ⟨rfl, fun _ _ => rfl⟩) trivial)))
    intro γ w13 l hM hl
    have M13 : Mm w13 [(γ2_0, cells6 S), (γ1_0, cells6 a), (γ1_1, cells6 b), (γ1_2, zero6), (g, modx n o s)] := H12.out.1.grow hM (Nat.le_refl _) hl [] rfl (by decide)
    have B13 : Below w.heap.size w w13 := H12.out.2.trans ((hM.below).mono H12.out.2.size)
    clear hM hl l H12
    clear γ
    have H13 : Hid (_ ∧ _) := ⟨M13, B13⟩
    clear M13 B13
    refine rest0 rfl (then_normal (wp_seq (wp_seq ?_)))
    refine walk_seqA 1 [.quiet (.int .i64 1)] (sB H13) ?ho13 ?he13
    case ho13 => exact ak (fun _ => ⟨rfl, fun _ _ => rfl⟩) trivial
    intro γ w14 l hM hl
    have M14 : Mm w14 [(γ2_0, cells6 S), (γ1_0, cells6 a), (γ1_1, cells6 b), (γ1_2, zero6), (g, modx n o s)] := H13.out.1.grow hM (Nat.le_refl _) hl [] rfl (by decide)
    have B14 : Below w.heap.size w w14 := H13.out.2.trans ((hM.below).mono H13.out.2.size)
    clear hM hl l H13
    clear γ
    have H14 : Hid (_ ∧ _) := ⟨M14, B14⟩
    clear M14 B14
    refine rest0 rfl (then_normal (wp_block ?_))
    refine loop_ghost (α := Nat) (fun m a' w' => ∃ s2 : Nat → Value, a' = ⟨#[PT g 0, N a, N b, undef, PT γ1_0 0, PT γ1_1 0, PT γ1_2 0, PT γ2_0 0, undef, .int .u64 (wd a i), .int .u64 h2, s2 11, .int .u64 k2, .int .u64 ((cc S (wn a i) b (m + 1) : Nat) : Int), .int .u64 ((t : Nat) : Int), .int .u64 l2, .int .u64 ((cc X t n (m + 1) : Nat) : Int), .int .i64 ((m + 1 : Nat) : Int), N a, .int .i64 ((i : Nat) : Int), .bool true, .int .u64 (wd a i), .tuple #[.int .u64 h1, .int .u64 l1], .int .u64 (wd a i), PT γ1_1 0, .int .u64 (wd b 0), .tuple #[.int .u64 h1, .int .u64 l1], .int .u64 h1, .int .u64 l1, .tuple #[.int .u64 (wd X 0), .int .u64 k1], .int .u64 l1, PT γ2_0 0, .int .u64 (wd S 0), .tuple #[.int .u64 (wd X 0), .int .u64 k1], .int .u64 (wd X 0), .int .u64 k1, .int .u64 h1, .int .u64 k1, .int .u64 ((cc S (wn a i) b 1 : Nat) : Int), .int .u64 (wd X 0), PT g 0, PT g 0, PT g 6, .int .u64 (wrapZ (wd n 0)), .int .u64 ((t : Nat) : Int), .tuple #[.int .u64 h2, .int .u64 l2], .int .u64 ((t : Nat) : Int), PT g 0, PT g 0, PT g 0, PT g 0, .int .u64 (wd n 0), .tuple #[.int .u64 h2, .int .u64 l2], .int .u64 h2, .int .u64 l2, .tuple #[.int .u64 z2, .int .u64 k2], .int .u64 l2, .int .u64 (wd X 0), .tuple #[.int .u64 z2, .int .u64 k2], .int .u64 z2, .int .u64 k2, .int .u64 h2, .int .u64 k2, .int .u64 ((cc X t n 1 : Nat) : Int), s2 64, s2 65, s2 66, s2 67, s2 68, s2 69, s2 70, s2 71, s2 72, s2 73, s2 74, s2 75, s2 76, s2 77, s2 78, s2 79, s2 80, s2 81, s2 82, s2 83, s2 84, s2 85, s2 86, s2 87, s2 88, s2 89, s2 90, s2 91, s2 92, s2 93, s2 94, s2 95, s0 96, s0 97, s0 98, s0 99, s0 100, undef, undef, undef], []⟩ ∧ (Mm w' [(γ2_0, rowc (inn S Y (m + 1))), (γ1_0, cells6 a), (γ1_1, cells6 b), (γ1_2, zero6), (g, modx n o s)] ∧ Below w.heap.size w w') ∧ m ≤ 5) (fun m => 5 - m) 0 ?st2 ?rd2
    case st2 => exact ⟨(slotfn [undef, undef, undef, undef, undef, undef, undef, undef, undef, undef, undef, .int .u64 (wd X 0), undef, undef, undef, undef, undef, undef, undef, undef, undef, undef, undef, undef, undef, undef, undef, undef, undef, undef, undef, undef, undef, undef, undef, undef, undef, undef, undef, undef, undef, undef, undef, undef, undef, undef, undef, undef, undef, undef, undef, undef, undef, undef, undef, undef, undef, undef, undef, undef, undef, undef, undef, undef, s0 64, s0 65, s0 66, s0 67, s0 68, s0 69, s0 70, s0 71, s0 72, s0 73, s0 74, s0 75, s0 76, s0 77, s0 78, s0 79, s0 80, s0 81, s0 82, s0 83, s0 84, s0 85, s0 86, s0 87, s0 88, s0 89, s0 90, s0 91, s0 92, s0 93, s0 94, s0 95]), rfl, ⟨H14.out.1, H14.out.2⟩, by omega⟩
    intro m a' w15 hI
    obtain ⟨s2, rfl, hMB, hk2⟩ := hI
    have H15 : Hid (_ ∧ _) := hMB
    clear hMB H14
    by_cases hlt2 : m < 5
    · have hrd : True := trivial
      clear hrd
      have hm6 : m + 1 < 6 := by omega
      refine wp_seq (wp_seq ?_)
      refine walk_seqA 2 [.quiet (.int .i64 ((m + 1 : Nat) : Int)), .quiet (.bool true)] (sB H15) ?ho14 ?he14
      case ho14 => exact ak (fun _ => ⟨rfl, fun _ _ => rfl⟩) (ak (by refine fun γ => ⟨rfl, fun w' h => ?_⟩; clear h; go_simp <;> omega) trivial)
      intro γ w16 l hM hl
      have M16 : Mm w16 [(γ2_0, rowc (inn S Y (m + 1))), (γ1_0, cells6 a), (γ1_1, cells6 b), (γ1_2, zero6), (g, modx n o s)] := H15.out.1.grow hM (Nat.le_refl _) hl [] rfl (by decide)
      have B16 : Below w.heap.size w w16 := H15.out.2.trans ((hM.below).mono H15.out.2.size)
      clear hM hl l H15
      clear γ
      have H16 : Hid (_ ∧ _) := ⟨M16, B16⟩
      clear M16 B16
      refine rest0 rfl (then_normal (wp_cond_true rfl ?_))
      refine wp_skip (then_normal ?_)
      refine wp_seq (wp_block (wp_seq ?_))
      refine walk_anyA 13 [.quiet (.int .u64 (wd a i)), .quiet (.int .i64 ((m + 1 : Nat) : Int)), .quiet (PT γ1_1 (0 + (m + 1))), .quiet (.int .u64 (wd b (m + 1))), .quiet (.int .i64 ((m + 1 : Nat) : Int)), .quiet (PT γ2_0 (0 + (m + 1))), .quiet (.int .u64 (wd S (m + 1))), .quiet (.int .u64 ((cc S (wn a i) b (m + 1) : Nat) : Int)), .call (.tuple #[.int .u64 (wd X (m + 1)), .int .u64 ((cc S (wn a i) b (m + 1 + 1) : Nat) : Int)]), .quiet (.tuple #[.int .u64 (wd X (m + 1)), .int .u64 ((cc S (wn a i) b (m + 1 + 1) : Nat) : Int)]), .quiet (.int .u64 (wd X (m + 1))), .quiet (.int .u64 ((cc S (wn a i) b (m + 1 + 1) : Nat) : Int)), .quiet (.int .u64 (wd X (m + 1)))] (sB H16) ?ho15 ?he15
      case ho15 => exact ak (fun _ => ⟨rfl, fun _ _ => rfl⟩) (ak (fun _ => ⟨rfl, fun _ _ => rfl⟩) (ak (fun γ => ⟨rfl, fun w' _ => ex_indexAddr6 rfl rfl rfl hm6⟩) (ak (fun γ => ⟨rfl, fun w' h => ex_load1 h 2 rfl rfl rfl (row_at (f := wd b) hm6)⟩) (ak (fun _ => ⟨rfl, fun _ _ => rfl⟩) (ak (fun γ => ⟨rfl, fun w' _ => ex_indexAddr6 rfl rfl rfl hm6⟩) (ak (fun γ => ⟨rfl, fun w' h => ex_load1 h 0 rfl rfl rfl (inn_at hm6)⟩) (ak (fun _ => ⟨rfl, fun _ _ => rfl⟩) (ak (fun γ => ⟨rfl, fun w' h => ⟨211, #[.int .u64 (wd a i), .int .u64 (wd b (m + 1)), .int .u64 (wd S (m + 1)), .int .u64 ((cc S (wn a i) b (m + 1) : Nat) : Int)], exec_call rfl call211 rfl (mpn rfl), CA.out (m + 1) w'⟩⟩) (ak (fun _ => ⟨rfl, fun _ _ => rfl⟩) (ak (by refine fun γ => ⟨rfl, fun w' h => ?_⟩; clear h; go_simp) (ak (by refine fun γ => ⟨rfl, fun w' h => ?_⟩; clear h; go_simp) (ak (fun _ => ⟨rfl, fun _ _ => rfl⟩) trivial))))))))))))
      intro γ w17 l hM hl
      have M17 : Mm w17 [(γ2_0, rowc (inn S Y (m + 1))), (γ1_0, cells6 a), (γ1_1, cells6 b), (γ1_2, zero6), (g, modx n o s)] := H16.out.1.grow hM (Nat.le_refl _) hl [] rfl (by decide)
      have B17 : Below w.heap.size w w17 := H16.out.2.trans ((hM.below).mono H16.out.2.size)
      clear hM hl l H16
      clear γ
      have H17 : Hid (_ ∧ _) := ⟨M17, B17⟩
      clear M17 B17
      refine rest_at (l := [13]) rfl ?_
      refine rest_set (d := 13) rfl rfl rfl rfl ?_
      simp only [Act.put, sa, sz, ss]
      refine rest_nil (then_normal ?_)
      refine walk_seqA 16 [.quiet (.int .i64 ((m + 1 : Nat) : Int)), .quiet (.int .i64 ((m : Nat) : Int)), .quiet (.int .u64 ((t : Nat) : Int)), .quiet (PT g 0), .quiet (.int .i64 ((m + 1 : Nat) : Int)), .quiet (PT g 0), .quiet (PT g 0), .quiet (PT g (0 + (m + 1))), .quiet (.int .u64 (wd n (m + 1))), .quiet (.int .u64 (wd X (m + 1))), .quiet (.int .u64 ((cc X t n (m + 1) : Nat) : Int)), .call (.tuple #[.int .u64 (wd Y (m + 1)), .int .u64 ((cc X t n (m + 1 + 1) : Nat) : Int)]), .quiet (.tuple #[.int .u64 (wd Y (m + 1)), .int .u64 ((cc X t n (m + 1 + 1) : Nat) : Int)]), .quiet (.int .u64 (wd Y (m + 1))), .quiet (.int .u64 ((cc X t n (m + 1 + 1) : Nat) : Int)), .quiet (PT γ2_0 (0 + m))] (sB H17) ?ho16 ?he16
      case ho16 => exact ak (fun _ => ⟨rfl, fun _ _ => rfl⟩) (ak (by refine fun γ => ⟨rfl, fun w' h => ?_⟩; clear h; go_simp; rw [IntKind.wrap_i64]; omega) (ak (fun _ => ⟨rfl, fun _ _ => rfl⟩) (ak (fun _ => ⟨rfl, fun _ _ => rfl⟩) (ak (fun _ => ⟨rfl, fun _ _ => rfl⟩) (ak (by refine fun γ => ⟨rfl, fun w' h => ?_⟩; clear h; go_simp) (ak (by refine fun γ => ⟨rfl, fun w' h => ?_⟩; clear h; go_simp) (ak (fun γ => ⟨rfl, fun w' _ => ex_indexAddr6 rfl rfl rfl hm6⟩) (ak (fun γ => ⟨rfl, fun w' h => ex_load1 h 4 rfl rfl rfl (modn_at hm6)⟩) (ak (fun _ => ⟨rfl, fun _ _ => rfl⟩) (ak (fun _ => ⟨rfl, fun _ _ => rfl⟩) (ak (fun γ => ⟨rfl, fun w' h => ⟨211, #[.int .u64 ((t : Nat) : Int), .int .u64 (wd n (m + 1)), .int .u64 (wd X (m + 1)), .int .u64 ((cc X t n (m + 1) : Nat) : Int)], exec_call rfl call211 rfl (mpn rfl), CB.out (m + 1) w'⟩⟩) (ak (fun _ => ⟨rfl, fun _ _ => rfl⟩) (ak (by refine fun γ => ⟨rfl, fun w' h => ?_⟩; clear h; go_simp) (ak (by refine fun γ => ⟨rfl, fun w' h => ?_⟩; clear h; go_simp) (ak (fun γ => ⟨rfl, fun w' _ => ex_indexAddr6 rfl rfl rfl (Nat.lt_of_succ_lt hm6)⟩) trivial)))))))))))))))
      intro γ w18 l hM hl
      have M18 : Mm w18 [(γ2_0, rowc (inn S Y (m + 1))), (γ1_0, cells6 a), (γ1_1, cells6 b), (γ1_2, zero6), (g, modx n o s)] := H17.out.1.grow hM (Nat.le_refl _) hl [] rfl (by decide)
      have B18 : Below w.heap.size w w18 := H17.out.2.trans ((hM.below).mono H17.out.2.size)
      clear hM hl l H17
      clear γ
      have H18 : Hid (_ ∧ _) := ⟨M18, B18⟩
      clear M18 B18
      refine rest_at (l := [16, 17]) rfl ?_
      refine rest_store rfl rfl rfl (ex_storeI H18.out.1 0 rfl rfl Tryz.sizeOf22 rfl rfl (row_bd (Nat.lt_of_succ_lt hm6))) ?_
      have H19 : Hid (Mm (w18.setCells γ2_0 (0 + m) [.int .u64 (wd Y (m + 1))]) [(γ2_0, rowc (inn S Y (m + 1 + 1))), (γ1_0, cells6 a), (γ1_1, cells6 b), (γ1_2, zero6), (g, modx n o s)] ∧ Below w.heap.size w (w18.setCells γ2_0 (0 + m) [.int .u64 (wd Y (m + 1))])) := ⟨by
        have h := H18.out.1.put 0 (off := (0 + m)) (vs := [.int .u64 (wd Y (m + 1))]) rfl (row_bd (Nat.lt_of_succ_lt hm6))
        rw [patch_row (Nat.lt_of_succ_lt hm6), inn_step rfl] at h
        exact h, below_setCells _ o2_0.out _ _ _ H18.out.2⟩
      clear H18
      generalize hgw : World.setCells _ _ _ _ = w19 at H19 ⊢
      clear hgw
      refine rest_set (d := 16) rfl rfl rfl rfl ?_
      simp only [Act.put, sa, sz, ss]
      refine rest_nil (block_normal (then_normal ?_))
      refine walk_seqA 2 [.quiet (.int .i64 ((m + 1 : Nat) : Int)), .quiet (.int .i64 ((m + 1 + 1 : Nat) : Int))] (sB H19) ?ho17 ?he17
      case ho17 => exact ak (fun _ => ⟨rfl, fun _ _ => rfl⟩) (ak (by refine fun γ => ⟨rfl, fun w' h => ?_⟩; clear h; go_simp; rw [IntKind.wrap_i64]; omega) trivial)
      intro γ w20 l hM hl
      have M20 : Mm w20 [(γ2_0, rowc (inn S Y (m + 1 + 1))), (γ1_0, cells6 a), (γ1_1, cells6 b), (γ1_2, zero6), (g, modx n o s)] := H19.out.1.grow hM (Nat.le_refl _) hl [] rfl (by decide)
      have B20 : Below w.heap.size w w20 := H19.out.2.trans ((hM.below).mono H19.out.2.size)
      clear hM hl l H19
      clear γ
      have H20 : Hid (_ ∧ _) := ⟨M20, B20⟩
      clear M20 B20
      refine rest_at (l := [2]) rfl ?_
      refine rest_set (d := 17) rfl rfl rfl rfl ?_
      simp only [Act.put, sa, sz, ss]
      refine rest_nil (then_normal ?_)
      exact ⟨m + 1, ⟨(slotfn [undef, undef, undef, undef, undef, undef, undef, undef, undef, undef, undef, .int .u64 (wd X (m + 1)), undef, undef, undef, undef, undef, undef, undef, undef, undef, undef, undef, undef, undef, undef, undef, undef, undef, undef, undef, undef, undef, undef, undef, undef, undef, undef, undef, undef, undef, undef, undef, undef, undef, undef, undef, undef, undef, undef, undef, undef, undef, undef, undef, undef, undef, undef, undef, undef, undef, undef, undef, undef, .int .i64 ((m + 1 : Nat) : Int), .bool true, .int .i64 ((m + 1 : Nat) : Int), .int .i64 ((m + 1 + 1 : Nat) : Int), .tuple #[.int .u64 (wd X (m + 1)), .int .u64 ((cc S (wn a i) b (m + 1 + 1) : Nat) : Int)], .int .u64 (wd a i), .int .i64 ((m + 1 : Nat) : Int), PT γ1_1 (0 + (m + 1)), .int .u64 (wd b (m + 1)), .int .i64 ((m + 1 : Nat) : Int), PT γ2_0 (0 + (m + 1)), .int .u64 (wd S (m + 1)), .int .u64 ((cc S (wn a i) b (m + 1) : Nat) : Int), .tuple #[.int .u64 (wd X (m + 1)), .int .u64 ((cc S (wn a i) b (m + 1 + 1) : Nat) : Int)], .int .u64 (wd X (m + 1)), .int .u64 ((cc S (wn a i) b (m + 1 + 1) : Nat) : Int), .tuple #[.int .u64 (wd Y (m + 1)), .int .u64 ((cc X t n (m + 1 + 1) : Nat) : Int)], .int .i64 ((m + 1 : Nat) : Int), .int .i64 ((m : Nat) : Int), .int .u64 ((t : Nat) : Int), PT g 0, .int .i64 ((m + 1 : Nat) : Int), PT g 0, PT g 0, PT g (0 + (m + 1)), .int .u64 (wd n (m + 1)), .int .u64 (wd X (m + 1)), .int .u64 ((cc X t n (m + 1) : Nat) : Int), .tuple #[.int .u64 (wd Y (m + 1)), .int .u64 ((cc X t n (m + 1 + 1) : Nat) : Int)], .int .u64 (wd Y (m + 1)), .int .u64 ((cc X t n (m + 1 + 1) : Nat) : Int), PT γ2_0 (0 + m)]), rfl, ⟨H20.out.1, H20.out.2⟩, by omega⟩, by omega⟩
    have hm5 : m = 5 := by omega
    subst hm5
    refine wp_seq (wp_seq ?_)
    refine walk_seqA 2 [.quiet (.int .i64 ((5 + 1 : Nat) : Int)), .quiet (.bool false)] (sB H15) ?ho18 ?he18
    case ho18 => exact ak (fun _ => ⟨rfl, fun _ _ => rfl⟩) (ak (by refine fun γ => ⟨rfl, fun w' h => ?_⟩; clear h; go_simp <;> omega) trivial)
    intro γ w21 l hM hl
    have M21 : Mm w21 [(γ2_0, rowc (inn S Y (5 + 1))), (γ1_0, cells6 a), (γ1_1, cells6 b), (γ1_2, zero6), (g, modx n o s)] := H15.out.1.grow hM (Nat.le_refl _) hl [] rfl (by decide)
    have B21 : Below w.heap.size w w21 := H15.out.2.trans ((hM.below).mono H15.out.2.size)
    clear hM hl l H15
    clear γ
    have H21 : Hid (_ ∧ _) := ⟨M21, B21⟩
    clear M21 B21
    refine rest0 rfl (then_normal (wp_cond_false rfl ?_))
    refine wp_exit ?_
    repeat refine then_exit ?_
    refine block_exit ?_
    refine then_normal ?_
    refine walk_seqA 4 [.quiet (.int .u64 ((cc S (wn a i) b (5 + 1) : Nat) : Int)), .quiet (.int .u64 ((cc X t n (5 + 1) : Nat) : Int)), .quiet (.int .u64 (wd Z 5)), .quiet (PT γ2_0 5)] (sB H21) ?ho19 ?he19
    case ho19 => exact ak (fun _ => ⟨rfl, fun _ _ => rfl⟩) (ak (fun _ => ⟨rfl, fun _ _ => rfl⟩) (ak (by refine fun γ => ⟨rfl, fun w' h => ?_⟩; clear h; go_simp) (ak (by refine fun γ => ⟨rfl, fun w' h => ?_⟩; clear h; go_simp) trivial)))
    intro γ w22 l hM hl
    have M22 : Mm w22 [(γ2_0, rowc (inn S Y (5 + 1))), (γ1_0, cells6 a), (γ1_1, cells6 b), (γ1_2, zero6), (g, modx n o s)] := H21.out.1.grow hM (Nat.le_refl _) hl [] rfl (by decide)
    have B22 : Below w.heap.size w w22 := H21.out.2.trans ((hM.below).mono H21.out.2.size)
    clear hM hl l H21
    clear γ
    have H22 : Hid (_ ∧ _) := ⟨M22, B22⟩
    clear M22 B22
    refine rest_at (l := [4]) rfl ?_
    refine rest_store rfl rfl rfl (ex_storeI H22.out.1 0 rfl rfl Tryz.sizeOf22 rfl rfl (Nat.le_of_ble_eq_true rfl)) ?_
    have H23 : Hid (Mm (w22.setCells γ2_0 5 [.int .u64 (wd Z 5)]) [(γ2_0, cells6 Z), (γ1_0, cells6 a), (γ1_1, cells6 b), (γ1_2, zero6), (g, modx n o s)] ∧ Below w.heap.size w (w22.setCells γ2_0 5 [.int .u64 (wd Z 5)])) := ⟨by
      have h := H22.out.1.put 0 (off := 5) (vs := [.int .u64 (wd Z 5)]) rfl (Nat.le_of_ble_eq_true rfl)
      rw [patch_row5, inn_end rfl E6.out] at h
      exact h, below_setCells _ o2_0.out _ _ _ H22.out.2⟩
    clear H22
    generalize hgw : World.setCells _ _ _ _ = w23 at H23 ⊢
    clear hgw
    refine rest_nil (block_normal (then_normal ?_))
    refine walk_seqA 1 [.quiet (.int .i64 ((i + 1 : Nat) : Int))] (sB H23) ?ho20 ?he20
    case ho20 => exact ak (by refine fun γ => ⟨rfl, fun w' h => ?_⟩; clear h; go_simp; rw [IntKind.wrap_i64]; omega) trivial
    intro γ w24 l hM hl
    have M24 : Mm w24 [(γ2_0, cells6 Z), (γ1_0, cells6 a), (γ1_1, cells6 b), (γ1_2, zero6), (g, modx n o s)] := H23.out.1.grow hM (Nat.le_refl _) hl [] rfl (by decide)
    have B24 : Below w.heap.size w w24 := H23.out.2.trans ((hM.below).mono H23.out.2.size)
    clear hM hl l H23
    clear γ
    have H24 : Hid (_ ∧ _) := ⟨M24, B24⟩
    clear M24 B24
    refine rest_at (l := [1]) rfl ?_
    refine rest_set (d := 19) rfl rfl rfl rfl ?_
    simp only [Act.put, sa, sz, ss]
    refine rest_nil (then_normal ?_)
    exact ⟨i + 1, ⟨(slotfn [undef, undef, undef, undef, undef, undef, undef, undef, undef, .int .u64 (wd a i), .int .u64 h2, s2 11, .int .u64 k2, .int .u64 ((cc S (wn a i) b (5 + 1) : Nat) : Int), .int .u64 ((t : Nat) : Int), .int .u64 l2, .int .u64 ((cc X t n (5 + 1) : Nat) : Int), .int .i64 ((5 + 1 : Nat) : Int), undef, undef, .bool true, .int .u64 (wd a i), .tuple #[.int .u64 h1, .int .u64 l1], .int .u64 (wd a i), PT γ1_1 0, .int .u64 (wd b 0), .tuple #[.int .u64 h1, .int .u64 l1], .int .u64 h1, .int .u64 l1, .tuple #[.int .u64 (wd X 0), .int .u64 k1], .int .u64 l1, PT γ2_0 0, .int .u64 (wd S 0), .tuple #[.int .u64 (wd X 0), .int .u64 k1], .int .u64 (wd X 0), .int .u64 k1, .int .u64 h1, .int .u64 k1, .int .u64 ((cc S (wn a i) b 1 : Nat) : Int), .int .u64 (wd X 0), PT g 0, PT g 0, PT g 6, .int .u64 (wrapZ (wd n 0)), .int .u64 ((t : Nat) : Int), .tuple #[.int .u64 h2, .int .u64 l2], .int .u64 ((t : Nat) : Int), PT g 0, PT g 0, PT g 0, PT g 0, .int .u64 (wd n 0), .tuple #[.int .u64 h2, .int .u64 l2], .int .u64 h2, .int .u64 l2, .tuple #[.int .u64 z2, .int .u64 k2], .int .u64 l2, .int .u64 (wd X 0), .tuple #[.int .u64 z2, .int .u64 k2], .int .u64 z2, .int .u64 k2, .int .u64 h2, .int .u64 k2, .int .u64 ((cc X t n 1 : Nat) : Int), .int .i64 ((5 + 1 : Nat) : Int), .bool false, s2 66, s2 67, s2 68, s2 69, s2 70, s2 71, s2 72, s2 73, s2 74, s2 75, s2 76, s2 77, s2 78, s2 79, s2 80, s2 81, s2 82, s2 83, s2 84, s2 85, s2 86, s2 87, s2 88, s2 89, s2 90, s2 91, s2 92, s2 93, s2 94, s2 95, .int .u64 ((cc S (wn a i) b (5 + 1) : Nat) : Int), .int .u64 ((cc X t n (5 + 1) : Nat) : Int), .int .u64 (wd Z 5), PT γ2_0 5, .int .i64 ((i + 1 : Nat) : Int)]), rfl, by rw [← HZ.out]; exact H24.out, by omega⟩, by omega⟩
  have hi6 : i = 6 := by omega
  subst hi6
  refine wp_seq ?_
  refine walk_seqA 1 [.quiet (.bool false)] (sB H4) ?ho21 ?he21
  case ho21 => exact ak (by refine fun γ => ⟨rfl, fun w' h => ?_⟩; clear h; go_simp <;> omega) trivial
  intro γ w25 l hM hl
  have M25 : Mm w25 [(γ2_0, cells6 (mrun n (wrapN n) a b 6)), (γ1_0, cells6 a), (γ1_1, cells6 b), (γ1_2, zero6), (g, modx n o s)] := H4.out.1.grow hM (Nat.le_refl _) hl [] rfl (by decide)
  have B25 : Below w.heap.size w w25 := H4.out.2.trans ((hM.below).mono H4.out.2.size)
  clear hM hl l H4
  clear γ
  have H25 : Hid (_ ∧ _) := ⟨M25, B25⟩
  clear M25 B25
  refine rest0 rfl (then_normal (wp_seq (wp_cond_false rfl ?_)))
  refine wp_exit ?_
  repeat refine then_exit ?_
  refine block_exit ?_
  refine then_normal (wp_seq ?_)
  refine walk_seqA 3 [.quiet (PT g 0), .quiet (N (mrun n (wrapN n) a b 6)), .call (N (mont n a b))] (sB H25) ?ho22 ?he22
  case ho22 => exact ak (fun _ => ⟨rfl, fun _ _ => rfl⟩) (ak (fun γ => ⟨rfl, fun w' h => ex_load6 h 0 rfl rfl rfl rfl⟩) (ak (fun γ => ⟨rfl, fun w' h => ⟨212, #[PT g 0, N (mrun n (wrapN n) a b 6)], exec_call rfl call212 rfl (mpn rfl), CG.out w' (h.one 4 rfl)⟩⟩) trivial))
  intro γ w26 l hM hl
  have M26 : Mm w26 [(γ2_0, cells6 (mrun n (wrapN n) a b 6)), (γ1_0, cells6 a), (γ1_1, cells6 b), (γ1_2, zero6), (g, modx n o s)] := H25.out.1.grow hM (Nat.le_refl _) hl [] rfl (by decide)
  have B26 : Below w.heap.size w w26 := H25.out.2.trans ((hM.below).mono H25.out.2.size)
  clear hM hl l H25
  clear γ
  have H26 : Hid (_ ∧ _) := ⟨M26, B26⟩
  clear M26 B26
  refine rest_at (l := [3]) rfl ?_
  refine rest_store rfl rfl rfl (ex_store6 H26.out.1 3 rfl rfl rfl rfl (Nat.le_of_ble_eq_true rfl)) ?_
  have H27 : Hid (Mm (w26.setCells γ1_2 0 (cells6 (mont n a b))) [(γ2_0, cells6 (mrun n (wrapN n) a b 6)), (γ1_0, cells6 a), (γ1_1, cells6 b), (γ1_2, cells6 (mont n a b)), (g, modx n o s)] ∧ Below w.heap.size w (w26.setCells γ1_2 0 (cells6 (mont n a b)))) := ⟨H26.out.1.put 3 (off := 0) (vs := cells6 (mont n a b)) rfl (Nat.le_of_ble_eq_true rfl), below_setCells _ o1_2.out _ _ _ H26.out.2⟩
  clear H26
  generalize hgw : World.setCells _ _ _ _ = w27 at H27 ⊢
  clear hgw
  refine rest_nil (then_normal (wp_ret ?_))
  repeat (first | refine then_ret ?_ | refine block_ret ?_)
  have c0 := H27.out.1.get 3 rfl 0 rfl
  have c1 := H27.out.1.get 3 rfl 1 rfl
  have c2 := H27.out.1.get 3 rfl 2 rfl
  have c3 := H27.out.1.get 3 rfl 3 rfl
  have c4 := H27.out.1.get 3 rfl 4 rfl
  have c5 := H27.out.1.get 3 rfl 5 rfl
  refine bodyPost_ret (v := N (mont n a b)) (by simp [results, Tryz.results173, go_sem, *]) rfl ?_
  exact ⟨rfl, H27.out.2⟩
end Rg
end Go.Proofs.YtdbejmgomajjmaaGreatDoor
end
section
namespace Go.Proofs.YtdbejmgomajjmaaGreatDoor
open Go.RowKit
namespace Rg
/-- All that was there is as it was, but block g. -/
structure Kp (g : Nat) (w w' : World) : Prop where
  os : w'.os = w.os
  tape : w'.tape = w.tape
  output : w'.output = w.output
  size : w.heap.size ≤ w'.heap.size
  block : ∀ k, k < w.heap.size → k ≠ g → w'.heap[k]? = w.heap[k]?
theorem Kp.refl (g : Nat) (w : World) : Kp g w w := ⟨rfl, rfl, rfl, Nat.le_refl _, fun _ _ _ => rfl⟩
theorem Kp.trans {g : Nat} {a b c : World} (h : Kp g a b) (k : Below b.heap.size b c) : Kp g a c :=
  ⟨k.os.trans h.os, k.tape.trans h.tape, k.output.trans h.output, Nat.le_trans h.size k.size, fun i hi hg => (k.block i (Nat.lt_of_lt_of_le hi h.size)).trans (h.block i hi hg)⟩
theorem heap_setCells (g : Nat) (k : Nat) (hk : k ≠ g) : ∀ (vs : List Value) (o : Nat) (w : World), (w.setCells g o vs).heap[k]? = w.heap[k]?
  | [], _, _ => rfl
  | v :: r, o, w => by
    rw [World.setCells, heap_setCells g k hk r, Below.heap_setCell _ _ _ _ hk]
theorem Kp.put {g b off : Nat} {vs : List Value} {a w : World} (h : Kp g a w) (hb : b = g ∨ a.heap.size ≤ b) : Kp g a (w.setCells b off vs) := by
  have hB := below_setCells (B := 0) (w0 := w) b (Nat.zero_le _) vs off w (Below.refl _ _)
  refine ⟨hB.os.trans h.os, hB.tape.trans h.tape, hB.output.trans h.output, by rw [size_setCells]; exact h.size, fun k hk hg => ?_⟩
  rw [heap_setCells b k (by rcases hb with e | e <;> omega) vs off w]
  exact h.block k hk hg
theorem Below.kp {B g : Nat} {a w w' : World} (h : Below B a w) (k : Kp g w w') (hg : B ≤ g) (hB : B ≤ w.heap.size) : Below B a w' :=
  ⟨k.os.trans h.os, k.tape.trans h.tape, k.output.trans h.output, Nat.le_trans h.size k.size, fun i hi => (k.block i (Nat.lt_of_lt_of_le hi hB) (by omega)).trans (h.block i hi)⟩
theorem Blk.kp {g b : Nat} {cs : List Value} {w w' : World} (h : Blk w b cs) (k : Kp g w w') (hb : b < w.heap.size) (hg : b ≠ g) : Blk w' b cs := fun j v hv => by
  have e := k.block b hb hg
  exact ⟨by rw [World.cell?_of_block (w := w) (a := ⟨b, j, none⟩) e]; exact (h j v hv).1, by rw [World.frozen?_of_block (w := w) (a := ⟨b, j, none⟩) e]; exact (h j v hv).2⟩
theorem Mm.change {w w' : World} {l : List (Nat × List Value)} (h : Mm w l) (k : Nat) {g : Nat} {cs cs' : List Value} (hk : l[k]? = some (g, cs)) (hp : Kp g w w') (hn : Mm w' [(g, cs')]) : Mm w' (l.set k (g, cs')) := by
  have hkl : k < l.length := (List.getElem?_eq_some_iff.1 hk).1
  have hke : l[k] = (g, cs) := (List.getElem?_eq_some_iff.1 hk).2
  have hpw := List.pairwise_iff_getElem.1 h.nd
  refine ⟨fun p hp2 => ?_, ?_⟩
  · obtain ⟨j, hj, e⟩ := List.getElem_of_mem hp2
    rw [List.getElem_set] at e
    have hj' : j < l.length := by simpa using hj
    split at e
    · subst e
      exact hn.blk _ (List.mem_singleton.2 rfl)
    · rename_i hne
      subst e
      have hb := h.blk _ (List.getElem_mem hj')
      refine ⟨Nat.lt_of_lt_of_le hb.1 hp.size, Blk.kp hb.2 hp hb.1 ?_⟩
      rcases Nat.lt_or_ge j k with h' | h'
      · have := hpw j k hj' hkl h'
        rw [hke] at this
        exact this
      · have := hpw k j hkl hj' (by omega)
        rw [hke] at this
        exact this.symm
  · refine List.pairwise_iff_getElem.2 fun i j hi hj hij => ?_
    have hi' : i < l.length := by simpa using hi
    have hj' : j < l.length := by simpa using hj
    have := hpw i j hi' hj' hij
    rw [List.getElem_set, List.getElem_set]
    split
    · rename_i e1
      subst e1
      rw [if_neg (by omega)]
      rw [hke] at this
      exact this
    · split
      · rename_i e2
        subst e2
        rw [hke] at this
        exact this
      · exact this
theorem Mm.two {w : World} {l : List (Nat × List Value)} (h : Mm w l) (i j : Nat) {p q : Nat × List Value} (hi : l[i]? = some p) (hj : l[j]? = some q) (hij : i ≠ j) : Mm w [p, q] := by
  have hpw := List.pairwise_iff_getElem.1 h.nd
  obtain ⟨hi1, hi2⟩ := List.getElem?_eq_some_iff.1 hi
  obtain ⟨hj1, hj2⟩ := List.getElem?_eq_some_iff.1 hj
  have hne : p.1 ≠ q.1 := by
    rcases Nat.lt_or_ge i j with h' | h'
    · have := hpw i j hi1 hj1 h'
      rw [hi2, hj2] at this
      exact this
    · have := hpw j i hj1 hi1 (by omega)
      rw [hi2, hj2] at this
      exact this.symm
  refine ⟨fun r hr => ?_, ?_⟩
  · simp only [List.mem_cons, List.not_mem_nil, or_false] at hr
    rcases hr with e | e
    · rw [e]; exact h.blk p (List.mem_of_getElem? hi)
    · rw [e]; exact h.blk q (List.mem_of_getElem? hj)
  · exact List.Pairwise.cons (fun r hr => by rw [List.mem_singleton.1 hr]; exact hne) (List.pairwise_singleton _ _)
theorem keepK {q : Nat} {w₀ w w' : World} {L : List (Nat × List Value)} (H : Hid (Mm w L ∧ Kp q w₀ w)) (hb : Below w.heap.size w w') : Hid (Mm w' L ∧ Kp q w₀ w') :=
  ⟨H.out.1.below hb, H.out.2.trans hb⟩
theorem growK {ks : List Kind} {q : Nat} {w₀ w w' : World} {l : Array Bool} {γ : Nat → Nat} {L : List (Nat × List Value)} (H : Hid (Mm w L ∧ Kp q w₀ w)) (h : Mem ks w l γ w') {p : Nat} (hp : ks.length ≤ p) (hl : ∀ i, i < p → l.getD i false = true)
    (is : List Nat) (ha : (is.all fun i => (fresh ks i).isSome) = true) (hn : is.Pairwise (· ≠ ·)) : Hid (Mm w' (is.map (fun i => (γ i, fin ks i)) ++ L) ∧ Kp q w₀ w') :=
  ⟨H.out.1.grow h hp hl is ha hn, H.out.2.trans h.below⟩
theorem ownK {ks : List Kind} {q : Nat} {w₀ w w' : World} {l : Array Bool} {γ : Nat → Nat} {L : List (Nat × List Value)} (H : Hid (Mm w L ∧ Kp q w₀ w)) (h : Mem ks w l γ w') {p : Nat} (hp : ks.length ≤ p) (hl : ∀ i, i < p → l.getD i false = true) {i : Nat} (hi : (fresh ks i).isSome = true) : Hid (w₀.heap.size ≤ γ i) :=
  Nat.le_trans H.out.2.size (h.fin hp hl hi).2.1
end Rg
end Go.Proofs.YtdbejmgomajjmaaGreatDoor
end
