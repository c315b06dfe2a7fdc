/- Texts of the proof, joined. -/
import Derived.Test.YtmcpagjhpfbpgaaGreatDoorP8
import Derived.Shelf.SlIter.Nil
import Derived.Shelf.SortM.Plain
import Derived.Shelf.SortM.SortNone
import Derived.Deep.QuietTactic
import Derived.BigQuiet
section
namespace Go.Proofs.YtmcpagjhpfbpgaaGreatDoor
open Go.RowKit
namespace Rg
namespace Wi
set_option maxRecDepth 100000
theorem info_b : ∃ i, Tryz.prog.info? 5 = some i ∧ i.zero = some (.int .u8 0) ∧ i.size = 1 ∧ i.bytes = 1 := by
  obtain ⟨i, hi⟩ : ∃ i, Tryz.prog.info? 5 = some i := by
    have h : (Tryz.prog.info? 5).isSome = true := by kernel_rfl
    rcases e : Tryz.prog.info? 5 with _ | i
    · rw [e] at h; cases h
    · exact ⟨i, rfl⟩
  have h1 : (Tryz.prog.info? 5).map (·.zero) = some (some (.int .u8 0)) := by kernel_rfl
  have h2 : (Tryz.prog.info? 5).map (·.size) = some 1 := by kernel_rfl
  have h3 : (Tryz.prog.info? 5).map (·.bytes) = some 1 := by kernel_rfl
  rw [hi] at h1 h2 h3
  exact ⟨i, hi, Option.some.inj h1, Option.some.inj h2, Option.some.inj h3⟩
theorem info_bs : (Tryz.prog.info? 5).map (·.size) = some 1 := by kernel_rfl
set_option maxHeartbeats 2000000 in
theorem fresh_q (q : Pt8) (hn : q.n ≤ 1048576) (w : World) (hq : Pok q ∧ q.rs w) :
    Calls Tryz.prog 174 #[.slice q.p q.n q.cp] w fun e w' => ∃ v, e = .returned v ∧ Cw w v q.n q.f w' := by
  have HQ : Hid _ := hq
  have hle := hq.1.le
  go_enter Tryz.func174, Tryz.ntmps174
  by_cases h0 : q.n = 0
  · have h0I : (q.n : Int) = 0 := by omega
    have HC : Hid (Cw w (.slice none 0 0) q.n q.f w) := by rw [h0]; exact ⟨Below.refl _ _, World.ownsRow_nil _ _ _ _⟩
    clear hq hle h0
    go_wp2
    go_ret
    exact ⟨_, rfl, HC.out⟩
  · have h0I : ¬(q.n : Int) = 0 := by omega
    have HA : Hid (q.p = some ⟨q.gb, q.o, none⟩) := hq.1.addr (by omega)
    obtain ⟨i0, hi, hz0, hz1, hz2⟩ := info_b
    have hmk := run_make_row (P := Tryz.prog) 40 5 i0 (.int .u8 0) Tryz.underlying40 hi hz0 hz1 rfl .i64 .i64 q.n (by rw [hz2]; omega) (by omega) w
    have hnew : Hid ((w.alloc (.cells (madeCells #[.int .u8 0] q.n) 5)).heap[w.heap.size]? = some (.cells (madeCells #[.int .u8 0] q.n).toList.toArray 5 (0, 0))) := heap_alloc_new w _
    have hlen : (madeCells #[Value.int .u8 0] q.n).toList.length = q.n := by simp [madeCells]
    have HLEN : Hid _ := hlen
    have HB : Hid (Below w.heap.size w (w.alloc (.cells (madeCells #[.int .u8 0] q.n) 5))) := (Below.refl _ w).alloc (Nat.le_refl _) _
    have HI : Hid ((ints .u8 q.f q.n).length = q.n) := ints_len _ _ _
    clear hq hi hz0 hz1 hz2 hlen h0
    go_wp2_with (first
      | (refine wpList_copy_splice rfl _ _ 40 40 rfl 5 Tryz.underlying40 info_bs (some ⟨w.heap.size, 0, none⟩) q.p q.n q.n q.n q.cp rfl rfl w.heap.size 0 (madeCells #[.int .u8 0] q.n).toList 5 hnew.out (ints .u8 q.f q.n) (by rw [ints_len]; simp) (fun _ => ⟨rfl, _, HA.out, fun j v hj => ?_⟩) (by rw [ints_len, HLEN.out]; omega) ?_ w.heap.size w HB.out (Nat.le_refl _) ?_)
      | fail)
    · have hlt : j < q.n := by have := (List.getElem?_eq_some_iff.1 hj).1; rwa [ints_len] at this
      rw [ints_get _ _ hlt] at hj
      rw [← Option.some.inj hj, show (⟨q.gb, q.o, none⟩ : Addr).add j = ⟨q.gb, q.o + j, none⟩ by unfold Addr.add; split <;> simp_all]
      exact (HB.out.cell (p := ⟨q.gb, q.o + j, none⟩) (HQ.out.2.lt (by omega))).trans (HQ.out.2.at_ j hlt)
    · intro v hv
      unfold ints at hv
      obtain ⟨k, _, rfl⟩ := List.mem_map.1 hv
      rfl
    · intro w' hw hb
      have HW : Hid (Cw w (.slice (some ⟨w.heap.size, 0, none⟩) q.n q.n) q.n q.f w') := by
        refine ⟨hb, by rw [ints_len, Nat.mul_one], .inr ⟨w.heap.size, q.n, _, rfl, Nat.le_refl _, hw.out, Nat.le_refl _, by unfold maxLen; omega, ?_, ?_⟩⟩
        · rw [List.size_toArray, length_splice _ _ _ (by rw [HI.out, HLEN.out]; omega), HLEN.out, Nat.mul_one]
        · unfold splice
          rw [List.take_zero, List.nil_append, HI.out, Nat.zero_add, List.drop_of_length_le (by rw [HLEN.out]; exact Nat.le_refl _), List.append_nil, Nat.mul_one]
          exact List.take_of_length_le (by rw [HI.out]; exact Nat.le_refl _)
      clear hw hb
      go_wp2
      go_ret
      exact ⟨_, rfl, HW.out⟩
theorem bs_split {n : Nat} {F : Nat → Nat} {A R : List Nat} (h : bs n F = A ++ R) : A.length ≤ n ∧ bs A.length F = A ∧ bs (n - A.length) (fun j => F (A.length + j)) = R := by
  have hn : n = A.length + R.length := by have := congrArg List.length h; rwa [bs_len, List.length_append] at this
  have e : bs (A.length + (n - A.length)) F = A ++ R := by rw [show A.length + (n - A.length) = n by omega]; exact h
  rw [bs_add] at e
  obtain ⟨e1, e2⟩ := List.append_inj e (by rw [bs_len])
  exact ⟨by omega, e1, e2⟩
set_option maxHeartbeats 2000000 in
theorem one_q (gr L : Nat) (q : Pt8) (hk : 4 + L ≤ q.n) (hn : q.n ≤ 1048576) (hb : bs 4 q.f = wn 4 L) (w : World) (hg : q.gb ≠ gr) (hq : Pok q ∧ q.rs w) (hm : Rdr gr q w) :
    Calls Tryz.prog 173 #[PT gr 0] w fun e w' => ∃ v, e = .returned v ∧ Rdr gr ((q.dp 4).dp L) w' ∧ Kp gr w w' ∧ w'.ownsRow w.heap.size 5 1 v L (ints .u8 (fun j => q.f (4 + j)) L) := by
  have HT : Hid _ := text_q gr L q hk hn hb w hg hq hm
  have hle : L ≤ (q.dp 4).n := by show L ≤ q.n - 4; omega
  have HF : Hid (∀ u, Kp gr w u → Calls Tryz.prog 174 #[.slice ((q.dp 4).tk L).p L ((q.dp 4).tk L).cp] u fun e u' => ∃ v, e = .returned v ∧ Cw u v L (fun j => q.f (4 + j)) u') := fun u hu => fresh_q ((q.dp 4).tk L) (show L ≤ 1048576 by omega) u ⟨(hq.1.dp (show 4 ≤ q.n by omega)).tk hle, Rs.keep (Pt8.rs_tk (Pt8.rs_dp hq.2 (show 4 ≤ q.n by omega)) hle) hu.size (fun h0 => hu.block _ (hq.2.lt (by omega)) hg)⟩
  clear hm hq
  go_enter Tryz.func173, Tryz.ntmps173
  go_wp2_with (first
    | (go_at_call 175; refine Calls.mono HT.out ?_; rintro e w1 ⟨rfl, h1, k1⟩; have H1 : Hid _ := h1; have K1 : Hid _ := k1; clear h1 k1)
    | (go_at_call 174; refine Calls.mono (HF.out w1 K1.out) ?_; rintro e w2 ⟨v, rfl, hcw⟩)
    | fail)
  go_ret
  exact ⟨v, rfl, Mm.below H1.out hcw.b, K1.out.trans hcw.b, own_base hcw.own K1.out.size⟩
theorem Lr.kp {W u u' : World} {vv : Value} {m gr : Nat} {P : Nat → Pt8} (h : Lr W vv m P u) (hk : Kp gr u u') (h1 : W.heap.size ≤ gr) (h2 : gr ∉ vbl vv) (h3 : ∀ i, i < m → 0 < (P i).n → (P i).gb ≠ gr) : Lr W vv m P u' :=
  ⟨h.b.trans ((Kp.chg hk).toBelow (fun x hx => by rw [List.mem_singleton.1 hx]; exact h1) h.b.size), own_keep h.own (fun x hx => hk.block x (own_lt h.own x hx) (fun e => h2 (by rw [← e]; exact hx))), fun i hi => ⟨(h.ok i hi).1, (h.ok i hi).2.1, Rs.keep (h.ok i hi).2.2.1 hk.size (fun h0 => hk.block _ ((h.ok i hi).2.2.1.lt h0) (h3 i hi h0)), (h.ok i hi).2.2.2⟩⟩
/-- What is left of the fields. -/
structure Rst (W : World) (gr gb : Nat) (l : List (List Nat)) (i : Nat) (r : Pt8) : Prop where
  ok : Pok r ∧ r.rs W
  gb : r.gb = gb
  n : r.n ≤ 1048576
  b : bs r.n r.f = wfs (l.drop i)
theorem Rst.next {W : World} {gr gb : Nat} {l : List (List Nat)} {i : Nat} {r : Pt8} (h : Rst W gr gb l i r) (hi : i < l.length) : ∃ L, L = (l.getD i []).length ∧ 4 + L ≤ r.n ∧ bs 4 r.f = wn 4 L ∧ bs L (fun j => r.f (4 + j)) = l.getD i [] ∧ Rst W gr gb l (i + 1) ((r.dp 4).dp L) := by
  have e : l.drop i = l.getD i [] :: l.drop (i + 1) := by
    rw [List.drop_eq_getElem_cons hi, List.getD_eq_getElem?_getD, List.getElem?_eq_getElem hi]
    rfl
  have hb := h.b
  rw [e] at hb
  have e2 : wfs (l.getD i [] :: l.drop (i + 1)) = wn 4 (l.getD i []).length ++ (l.getD i [] ++ wfs (l.drop (i + 1))) := by simp [wfs, List.append_assoc]
  rw [e2] at hb
  obtain ⟨s1, s2, s3⟩ := bs_split hb
  rw [wn_len] at s1 s2 s3
  obtain ⟨t1, t2, t3⟩ := bs_split s3
  have hn : 4 + (l.getD i []).length ≤ r.n := by omega
  refine ⟨(l.getD i []).length, rfl, hn, s2, t2, ⟨⟨(h.ok.1.dp (by omega)).dp (by show _ ≤ r.n - 4; omega), Pt8.rs_dp (Pt8.rs_dp h.ok.2 (by omega)) (by show _ ≤ r.n - 4; omega)⟩, h.gb, ?_, t3⟩⟩
  show r.n - 4 - _ ≤ _
  have := h.n
  omega
theorem Lr.app2 {w u : World} {vv : Value} {m : Nat} {P : Nat → Pt8} (h : Lr w vv m P u) (hm : m ≤ 1000000) {q : Pt8} (hq : Pok q ∧ (q.p = none → q.cp = 0) ∧ q.rs u ∧ (0 < q.n → w.heap.size ≤ q.gb ∧ q.gb ∉ vbl vv)) {gs : Nat} (hs : u.cell? ⟨gs, 0, none⟩ = some (.slice q.p q.n q.cp)) (ty : TypeId) :
    ∃ v' u2, (Builtin.append_ #[131, 131] ty #[vv, .slice (some ⟨gs, 0, none⟩) 1 1]).run Tryz.prog u = .ok v' u2 ∧ Lr w v' (m + 1) (upP P m q) u2 ∧ Chg (vbl vv) u u2 ∧ ∀ x ∈ vbl v', x ∈ vbl vv ∨ x = u.heap.size := by
  obtain ⟨i0, hi, hz0, hz1, hz2⟩ := info_sl
  obtain ⟨v', w2, r1, r2, r3, _, r5⟩ := run_append_own_at (P := Tryz.prog) u w.heap.size 131 ty 40 i0 (.slice none 0 0) 1 24 Tryz.underlying131 hi hz0 hz1 hz2 rfl (by decide) vv m _ h.own ⟨gs, 0, none⟩ 1 1 [.slice q.p q.n q.cp] rfl
    (fun j v hj => by
      rcases j with _ | j
      · rw [show (⟨gs, 0, none⟩ : Addr).add 0 = ⟨gs, 0, none⟩ by unfold Addr.add; split <;> simp_all, hs]; exact hj
      · cases hj) (fun v hv => by rw [List.mem_singleton.1 hv]; rfl) (by unfold maxLen; omega) (by omega) h.b.size
  rw [pcs_snoc] at r2
  have hc := Chg.grown r3
  have key : ∀ p : Pt8, p.rs u → (0 < p.n → w.heap.size ≤ p.gb ∧ p.gb ∉ vbl vv) → p.rs w2 ∧ (0 < p.n → w.heap.size ≤ p.gb ∧ p.gb ∉ vbl v') := fun p h1 h2 => ⟨h1.keep hc.size (fun h0 => hc.block _ (h1.lt h0) (h2 h0).2), fun h0 => ⟨(h2 h0).1, fun hx => by
    unfold vbl at hx
    rcases r5 with e | e
    · rw [e] at hx; exact (h2 h0).2 hx
    · rw [e] at hx
      have : p.gb = u.heap.size := by simpa using hx
      have := h1.lt h0
      omega⟩⟩
  refine ⟨v', w2, r1, ⟨h.b.trans (hc.toBelow (fun x hx => ?_) h.b.size), r2, fun i hi => ?_⟩, hc, fun x hx => ?_⟩
  · unfold vbl at hx
    cases hv : vv.ownBlock with
    | none => rw [hv] at hx; simp at hx
    | some k => rw [hv] at hx; simp at hx; subst hx; exact (World.ownsRow.lt h.own _ hv).1
  · unfold upP
    by_cases e : i = m
    · rw [if_pos e]
      exact ⟨hq.1, hq.2.1, key q hq.2.2.1 hq.2.2.2⟩
    · rw [if_neg e]
      have h3 := h.ok i (by omega)
      exact ⟨h3.1, h3.2.1, key _ h3.2.2.1 h3.2.2.2⟩
  · unfold vbl at hx ⊢
    rcases r5 with e | e
    · rw [e] at hx; exact .inl hx
    · rw [e] at hx
      exact .inr (by simpa using hx)
/-- The state of the loop: a list, and the reader. -/
structure Mst (W : World) (gr gb : Nat) (l : List (List Nat)) (i : Nat) (vv : Value) (P : Nat → Pt8) (r : Pt8) (u : World) : Prop where
  lr : Lr W vv i P u
  rd : Rdr gr r u
  st : Rst W gr gb l i r
  vg : gr ∉ vbl vv
  pg : ∀ k, k < i → 0 < (P k).n → (P k).gb ≠ gr
  pb : ∀ k, k < i → bs (P k).n (P k).f = l.getD k []
set_option maxHeartbeats 2000000 in
theorem many_q (W : World) (gr gb : Nat) (l : List (List Nat)) (hl : l.length ≤ 4096) (hgr : W.heap.size ≤ gr) (hgb : gb < W.heap.size) (q _r0 : Pt8) (hq : Pok q ∧ q.rs W) (hqg : q.gb = gb) (hqn : 4 ≤ q.n) (hq4 : bs 4 q.f = wn 4 l.length) (hr0 : Rst W gr gb l 0 (q.dp 4)) (w : World) (hb : Below W.heap.size W w) (hm : Rdr gr q w) :
    Calls Tryz.prog 172 #[PT gr 0, .int .i64 4, .int .i64 4096, .func (.func 173) #[] #[PT gr 0]] w fun e w' => ∃ v P r, e = .returned v ∧ Mst W gr gb l l.length v P r w' := by
  have HN : Hid _ := number_q gr 4 4096 l.length q (by decide) (by decide) hqn (by decide) hq4 (nv4 (by omega) hq4) hl w (by omega) ⟨hq.1, hq.2.below hb⟩ hm
  have HS : Hid _ := hr0
  clear hm hq hr0 hq4
  go_enter Tryz.func172, Tryz.ntmps172
  go_wp2_with (first
    | (go_at_call 153; refine Calls.mono HN.out ?_; rintro e w1 ⟨rfl, h1, k1⟩; have H1 : Hid (Mst W gr gb l 0 (.slice none 0 0) (fun _ => Pt8.no) (q.dp 4) w1) := ⟨Lr.start _ (hb.trans ((Kp.chg k1).toBelow (fun x hx => by rw [List.mem_singleton.1 hx]; exact hgr) hb.size)), h1, HS.out, by (intro hx; cases hx), fun k hk => absurd hk (Nat.not_lt_zero _), fun k hk => absurd hk (Nat.not_lt_zero _)⟩; clear h1 k1)
    | fail)
  go_loopw [9, 14] (fun vv v wr => ∃ (i : Nat) (P : Nat → Pt8) (r : Pt8), v = .int .i64 (i : Int) ∧ i ≤ l.length ∧ Hid (Mst W gr gb l i vv P r wr))
    (fun _ v _ => l.length - (RowKit.intOf v).toNat)
  case atStart => exact ⟨0, _, _, rfl, Nat.zero_le _, H1⟩
  case round =>
    obtain ⟨i, P, r, rfl, hi, hM⟩ := hrel
    by_cases hlt : i < l.length
    · have hltI : (i : Int) < l.length := by omega
      have c1 := hM.out.rd.cell (List.mem_cons_self ..) (k := 1) rfl
      obtain ⟨L, hL, n1, n2, n3, n4⟩ := hM.out.st.next hlt
      have HO : Hid _ := one_q gr L r n1 hM.out.st.n n2 wr (by rw [hM.out.st.gb]; omega) ⟨hM.out.st.ok.1, hM.out.st.ok.2.below hM.out.lr.b⟩ hM.out.rd
      have HA : Hid (∀ v u, Rdr gr ((r.dp 4).dp L) u → Kp gr wr u → u.ownsRow wr.heap.size 5 1 v L (ints .u8 (fun j => r.f (4 + j)) L) → ∃ p c, v = .slice p L c ∧ ∃ v' u2, (∀ ty, (Builtin.append_ #[131, 131] ty #[u9, .slice (some ⟨u.heap.size, 0, none⟩) 1 1]).run Tryz.prog (u.alloc (.cells #[v] 40)) = .ok v' u2) ∧ ∃ P', Mst W gr gb l (i + 1) v' P' ((r.dp 4).dp L) u2) := fun v u g1 g2 g3 => by
        obtain ⟨q2, rfl, q3, q4, q5, q6, q7, q8⟩ := own_part g3
        have hgl : gr < wr.heap.size := hM.out.rd.lt (List.mem_cons_self ..)
        refine ⟨q2.p, q2.cp, by rw [q5], ?_⟩
        have l1 := (hM.out.lr.kp g2 hgr hM.out.vg hM.out.pg).step ((Below.refl _ u).alloc (Nat.le_refl _) (.cells #[.slice q2.p q2.n q2.cp] 40))
        have hq8 : 0 < q2.n → wr.heap.size ≤ q2.gb := fun h0 => (World.ownsRow.lt g3 _ (q8 h0)).1
        obtain ⟨v', u2, a1, a2, a3, a4⟩ := l1.app2 (by omega) (q := q2) ⟨q3, q4, q7.below ((Below.refl _ u).alloc (Nat.le_refl _) _), fun h0 => ⟨Nat.le_trans hM.out.lr.b.size (hq8 h0), fun hx => by have := own_lt hM.out.lr.own _ hx; have := hq8 h0; omega⟩⟩ (al_new u #[.slice q2.p q2.n q2.cp] 40 0 _ rfl) 0
        have hus : wr.heap.size ≤ u.heap.size := g2.size
        have hsz : (u.alloc (.cells #[.slice q2.p q2.n q2.cp] 40)).heap.size = u.heap.size + 1 := by simp
        refine ⟨v', u2, fun ty => (app_ty ty 0).trans a1, _, ⟨a2, ?_, n4, fun hx => ?_, fun k hk => ?_, fun k hk => ?_⟩⟩
        · have hB := (Below.refl u.heap.size u).alloc (Nat.le_refl _) (.cells #[.slice q2.p q2.n q2.cp] 40)
          exact Mm.keep1 (Mm.below g1 hB) a3.size (a3.block gr (by omega) hM.out.vg)
        · rcases a4 gr hx with e | e
          · exact hM.out.vg e
          · omega
        · unfold upP
          by_cases e : k = i
          · rw [if_pos e]
            intro h0 e2
            have := hq8 h0
            omega
          · rw [if_neg e]
            exact hM.out.pg k (by omega)
        · unfold upP
          by_cases e : k = i
          · rw [if_pos e, e, q5, q6]
            exact n3
          · rw [if_neg e]
            exact hM.out.pb k (by omega)
      clear hL n2 n3 n4
      go_wp2_with (first
        | (go_at_call 173; refine Calls.mono HO.out ?_; rintro e w2 ⟨v, rfl, g1, g2, g3⟩; obtain ⟨pp, pc, rfl, v', u2, ha, P', hP'⟩ := HA.out v w2 g1 g2 g3; have HAp : Hid _ := ha; have HP : Hid _ := hP'; clear ha hP' g1 g2 g3)
        | (at_builtin; refine wpl_app rfl _ _ 131 rfl u9 (.slice (some ⟨w2.heap.size, 0, none⟩) 1 1) v' rfl rfl (HAp.out _) ?_)
        | fail)
      go_roundw
      case rel => exact ⟨i + 1, P', _, by simp, by omega, HP⟩
      case measure => simp [RowKit.intOf]; omega
    · obtain rfl : i = l.length := by omega
      go_wp2
      go_ret
      exact ⟨_, _, _, rfl, hM.out⟩
end Wi
end Rg
end Go.Proofs.YtmcpagjhpfbpgaaGreatDoor
end
section
namespace Go.Proofs.YtmcpagjhpfbpgaaGreatDoor
open Go.RowKit
namespace Rg
namespace Wi
set_option maxRecDepth 100000
set_option maxHeartbeats 2000000 in
theorem ReadFields_q (q : Pt8) (l : List (List Nat)) (hl : l.length ≤ 4096) (hn : q.n ≤ 1048576) (hb : bs q.n q.f = wf l) (w : World) (hq : Pok q ∧ q.rs w) :
    Calls Tryz.prog 155 #[.slice q.p q.n q.cp] w fun e w' => ∃ v P, e = .returned (.tuple #[v, .int .i64 0]) ∧ Lr w v l.length P w' ∧ ∀ k, k < l.length → bs (P k).n (P k).f = l.getD k [] := by
  have hnI : ¬(1048576 : Int) < q.n := by omega
  obtain ⟨s1, s2, s3⟩ := bs_split (A := wn 4 l.length) (R := wfs l) hb
  rw [wn_len] at s1 s2 s3
  have hqlt := hq.2.lt (by omega)
  have hb0 : Below w.heap.size w (w.alloc (.cells #[.slice q.p q.n q.cp, .bool false] 216)) := (Below.refl _ w).alloc (Nat.le_refl _) _
  have hm0 : Rdr w.heap.size q (w.alloc (.cells #[.slice q.p q.n q.cp, .bool false] 216)) := (Mm.nil w).alloc [.slice q.p q.n q.cp, .bool false] 216 rfl
  have HM : Hid _ := many_q w w.heap.size q.gb l hl (Nat.le_refl _) hqlt q (q.dp 4) hq rfl s1 s2 ⟨⟨hq.1.dp s1, Pt8.rs_dp hq.2 s1⟩, rfl, (by show q.n - 4 ≤ _; omega), s3⟩ _ hb0 hm0
  clear s1 s2 s3 hb hb0 hm0 hq
  go_enter Tryz.func155, Tryz.ntmps155
  go_wp2_with (first
    | (go_at_call 172; refine Calls.mono HM.out ?_; rintro e w1 ⟨v, P, r, rfl, hM⟩; have H1 : Hid _ := hM; have hr0 : r.n = 0 := (by have h := hM.st.b; rw [List.drop_of_length_le (Nat.le_refl _)] at h; have := congrArg List.length h; rwa [bs_len] at this); have hrd := hM.rd; unfold Rdr at hrd; rw [hr0] at hrd; clear hM)
    | (go_at_call 154; refine (whole_yes w.heap.size r.p r.cp w1 hrd).mono ?_; rintro e w2 ⟨rfl, hb2⟩)
    | fail)
  go_ret2
  exact ⟨v, P, rfl, H1.out.lr.step hb2, H1.out.pb⟩
end Wi
end Rg
end Go.Proofs.YtmcpagjhpfbpgaaGreatDoor
end
section
namespace Go.Proofs.YtmcpagjhpfbpgaaGreatDoor
open Go.RowKit
namespace Rg
namespace Wi
set_option maxRecDepth 100000
def noDefer (full : Array Oper) : Bool := full.all fun o => match o.op with | .defer _ => false | _ => true
theorem up_in {P : Program} {o : Oper} {a : Act} {next next' : Act → World → Prop} {Q : Exit → Act → World → Prop} (ro n : Nat) (hn : ∀ a w, next a w → next' a w) (r : Result Next) (h : o.upon P a next Q r) : o.uponIn (Fence.wide.inRound ro) n P a next' Q r := by
  cases r with
  | ok x w =>
    cases x with
    | value v => exact hn _ _ h
    | skip => exact hn _ _ h
    | defer d => exact hn _ _ h
    | enter f args =>
      refine ⟨fun hd => (by cases hd), CallsIn.inRound ro (callsIn_wide.2 (Calls.mono h fun e w' hh => ?_))⟩
      cases e with
      | returned v => exact hn _ _ hh
      | panicked c => exact hh
      | outgrown => exact hh
    | row s args =>
      refine ⟨fun hd => (by cases hd), fun c cs _ => ?_⟩
      obtain ⟨v, w', h1, h2⟩ := h c cs
      exact ⟨v, w', hn _ _ h1, stepsIn_wide.2 h2⟩
    | _ => exact False.elim h
  | halt x w => cases x <;> first | exact h | exact False.elim h
theorem op_in {P : Program} {full : Array Oper} {Q : Exit → Act → World → Prop} (ro n : Nat) (hnd : noDefer full = true) (hlo : ¬LetsOut Q) {i : Nat} {K K' : Act → World → Prop} (hK : ∀ a w, K a w → K' a w) {a : Act} {w : World} (h : wpOp P full Q i K a w) : wpOpIn (Fence.wide.inRound ro) n P full Q i K' a w := by
  unfold wpOp at h
  unfold wpOpIn
  cases ho : full[i]? with
  | none => rw [ho] at h; exact hK _ _ h
  | some o =>
    rw [ho] at h
    dsimp only at h ⊢
    split
    · rename_i hw
      rw [if_pos hw] at h
      rcases h with h | h
      · refine ⟨fun _ _ => trivial, ?_⟩
        have hd : ∀ c, o.op ≠ .defer c := fun c e => by
          have := Array.all_eq_true_iff_forall_mem.1 hnd o (Array.mem_of_getElem? ho)
          rw [e] at this
          cases this
        rw [Oper.semAt_eq _ _ _ hd]
        exact up_in ro n hK _ h
      · exact absurd h.2 hlo
    · rename_i hw
      rw [if_neg hw] at h
      exact ⟨fun _ _ => trivial, hK _ _ h⟩
theorem any_in {P : Program} {full : Array Oper} {md : Region.Mode} {Q : Exit → Act → World → Prop} (ro n : Nat) (hnd : noDefer full = true) (hlo : ¬LetsOut Q) : ∀ (fuel : Nat) (l : Array Bool) (a : Act) (w : World), wpAny P md full Q fuel l a w → wpAnyIn (Fence.wide.inRound ro) n P md full Q fuel l a w
  | 0, _, _, _, h => h
  | fuel + 1, _, _, _, h => ⟨h.1, fun i hi => op_in ro n hnd hlo (fun a w hh => any_in ro n hnd hlo fuel _ a w hh) (h.2 i hi)⟩
/-- What follows, where nothing but the next statement may. -/
def Qn (K : Act → World → Prop) : Exit → Act → World → Prop := fun e a w => e = .normal ∧ K a w
theorem Qn.lo (K : Act → World → Prop) : ¬LetsOut (Qn K) := by
  rintro ⟨a, w, h, _⟩
  cases h
theorem wpIn_qn {F : Fence} {n : Nat} {P : Program} {c : Code} {Q : Exit → Act → World → Prop} {a : Act} {w : World} (h : c.wpIn F n P (Qn (Q .normal)) a w) : c.wpIn F n P Q a w :=
  wpIn_mono h fun e a w hh => by rw [hh.1]; exact hh.2
theorem walk_value_in {P : Program} {Q : Exit → Act → World → Prop} {full : Array Oper} (ro n : Nat) (hnd : noDefer full = true) (hlo : ¬LetsOut Q) {a : Act} {w : World} {id : Nat} (hm : P.follows .mixedOrders = true) (p : Nat) (late : List Nat) (ks : List Kind) (S : World → Prop) (pre : List Oper) (F : (Nat → Nat) → Act) (F' : Value → (Nat → Nat) → Act) (op : Oper) (d : Nat) (hpre : full.toList.take p = pre)
    (hF : ∀ γ, fill γ 0 pre ks a = F γ) (hF' : ∀ v γ, fill γ 0 pre ks (a.put (some d) v) = F' v γ) (hor : (orderly pre.toArray ks a.tmps.size && guarded pre.toArray p && enterly full p d a.tmps.size late) = true) (hop : full[p]? = some op) (hL : LaidOk ks ks) (hS : ∀ w', Below w.heap.size w w' → S w')
    (hops : AllOk P pre.toArray S F pre ks) (hlate : ∀ v, LateOk P pre.toArray ks (F' v) late)
    (hend : ∀ γ w' l, Mem ks w l γ w' → (∀ i, i < p → l.getD i false = true) → ∃ (v : Value) (w'' : World), (execOp (F γ).eval op).run P w' = .ok (.value v) w'' ∧ wpOps P full Q (List.range' (p + 1) (full.size - (p + 1))) (F' v γ) w'') :
    (Code.region id full true).wpIn (Fence.wide.inRound ro) n P Q a w := by
  subst hpre
  obtain rfl : (fun γ => fill γ 0 (full.toList.take p) ks a) = F := funext hF
  obtain rfl : (fun v γ => fill γ 0 (full.toList.take p) ks (a.put (some d) v)) = F' := funext fun v => funext (hF' v)
  simp only [Bool.and_eq_true] at hor
  obtain ⟨⟨h1, h2⟩, h3⟩ := hor
  unfold enterly at h3
  rw [hop] at h3
  simp only [Bool.and_eq_true, decide_eq_true_eq, Option.isNone_iff_eq_none, beq_iff_eq] at h3
  obtain ⟨⟨⟨⟨⟨⟨h5, h6⟩, h7⟩, ⟨⟨h8, h9⟩, h10⟩, h11⟩, h12⟩, h13⟩, h14⟩ := h3
  have hsz : (full.toList.take p).toArray.size = p := by simp; omega
  have hfu : ∀ i, i < p → full[i]? = (full.toList.take p).toArray[i]? := fun i hi => by rw [← take_arr]; exact first_full hi
  refine wpIn_region_any hm (any_in ro n hnd hlo _ _ _ _ (first_value (ops := (full.toList.take p).toArray) (Orderly.of h1) rfl hL hS hsz h6 hfu (fun ho hg => guarded_spec h2 ho hg) (fun ho e he hb => ?_) hop h8 h13 (fun j oj hj => ?_) h9 (fun cs b => Region.noSelect_spec h7 p op cs b hop) (late := late) (fun j hj => ?_) (fun d hd j oj hj hdj => ?_) (fun ho hi j hj => ?_) hlate hops hend full.size _ (fun _ => 0) a w.drew (by simp) (by simp) (Closed.none _ _) (fun i _ hi => none_listed' hi) (start_agree _ _) (start_mem _ _ (Below.refl _ _).drew)))
  · have := Array.all_eq_true_iff_forall_mem.1 (eachOp_spec h5 ho) e he
    simpa [hb] using this
  · have hj' : j < p := by rw [← hsz]; exact (Array.getElem?_eq_some_iff.1 hj).1
    have := eachOp_spec h14 (by rw [hfu j hj']; exact hj)
    simp only [Bool.or_eq_true, decide_eq_true_eq, bne_iff_ne, ne_eq] at this
    rcases this with h | h
    · omega
    · exact h
  · have := List.all_eq_true.1 h10 j (List.mem_range.2 hj)
    simpa using this
  · have hj' : j < p := by rw [← hsz]; exact (Array.getElem?_eq_some_iff.1 hj).1
    have := eachOp_spec (List.all_eq_true.1 h11 d hd) (by rw [hfu j hj']; exact hj)
    simp only [hdj, bne_self_eq_false, Bool.false_or, Bool.or_eq_true, decide_eq_true_eq] at this
    rcases this with h | h
    · exact h
    · omega
  · have := eachOp_spec h12 ho
    simp only [Bool.or_eq_true, decide_eq_true_eq] at this
    rcases this with h | h
    · omega
    · exact List.all_eq_true.1 h j (List.mem_range.2 hj)
end Wi
end Rg
end Go.Proofs.YtmcpagjhpfbpgaaGreatDoor
end
section
namespace Go.Proofs.YtmcpagjhpfbpgaaGreatDoor
open Go.RowKit
namespace Rg
namespace Wi
set_option maxRecDepth 100000
open Go.Shelf
attribute [local go_sem] Oper.semAt_some
/-- The j-th part of three. -/
def three (b : Nat) (j : Nat) : Value := .slice (some ⟨b, 3 * j, none⟩) 3 3
/-- The first k numbers below m. -/
def fk (m k : Nat) : List (Fin m) := (List.finRange m).take k
theorem fk_succ {m k : Nat} (h : k < m) : fk m (k + 1) = fk m k ++ [⟨k, h⟩] := by
  unfold fk
  rw [List.take_add_one, List.getElem?_eq_getElem (by rw [List.length_finRange]; exact h), List.getElem_finRange]
  rfl
theorem fk_len {m k : Nat} (h : k ≤ m) : (fk m k).length = k := by
  unfold fk
  rw [List.length_take, List.length_finRange, Nat.min_eq_left h]
/-- What a round keeps: what lay below n₀, and the blocks of the list and of the number. -/
def Kc (n₀ Bs Bn : Nat) (W W' : World) : Prop := Below n₀ W W' ∧ W'.heap[Bs]? = W.heap[Bs]? ∧ W'.heap[Bn]? = W.heap[Bn]?
theorem Kc.refl (n₀ Bs Bn : Nat) (W : World) : Kc n₀ Bs Bn W W := ⟨Below.refl _ _, rfl, rfl⟩
theorem Kc.trans {n₀ Bs Bn : Nat} {A B C : World} (h : Kc n₀ Bs Bn A B) (k : Kc n₀ Bs Bn B C) : Kc n₀ Bs Bn A C := ⟨h.1.trans k.1, k.2.1.trans h.2.1, k.2.2.trans h.2.2⟩
theorem Kc.drew {n₀ Bs Bn : Nat} {A B : World} (h : Kc n₀ Bs Bn A B) : Kc n₀ Bs Bn A B.drew := ⟨h.1.drew, h.2.1, h.2.2⟩
theorem Kc.put {n₀ Bs Bn : Nat} {w : World} (h1 : n₀ ≤ w.heap.size) (h2 : Bs < w.heap.size) (h3 : Bn < w.heap.size) (W : World) (l : Nat) (o o' : Obj) (hl : w.heap.size ≤ l) (ho : W.heap[l]? = some o) (hc : o.isCells = false) (hw : o.isWalk = false) : Kc n₀ Bs Bn W (W.putObj l o') :=
  ⟨belowK_b h1 W l o o' hl ho hc hw, by simp [World.putObj]; rw [Array.getElem?_setIfInBounds_ne (by omega)], by simp [World.putObj]; rw [Array.getElem?_setIfInBounds_ne (by omega)]⟩
theorem grown_drew (W : World) : W.grownBy W.drew none := ⟨rfl, rfl, rfl, Nat.le_refl _, fun _ _ _ => rfl⟩
set_option maxHeartbeats 2000000 in
theorem chunk1_in (F : Fence) (n : Nat) (h8 : F.fn 176) (hro : F.round = none) (hn : 1 ≤ n) (l Bs Bn n₀ b m M cap : Nat) (hm : m ≤ 1000000) (hM0 : M = 3 * m) (hcap : M ≤ cap) (J Jx : List (Fin m) → World → Prop) (hdr : ∀ pre W, J pre W → J pre W.drew)
    (hY : ∀ pre x W, J pre W → pre.length < m → YieldAt F (n - 1) Tryz.prog l #[three b x.1] W fun e W' =>
      (e = .returned (.bool true) ∧ J (pre ++ [x]) W' ∧ Kc n₀ Bs Bn W W') ∨ (e = .returned (.bool false) ∧ Jx (pre ++ [x]) W'))
    (W : World) (hBs : W.cell? ⟨Bs, 0, none⟩ = some (.slice (some ⟨b, 0, none⟩) M cap)) (hBn : W.cell? ⟨Bn, 0, none⟩ = some (.int .i64 3)) (h0 : J [] W) :
    CallsIn F n Tryz.prog 176 #[.func (.yield l) #[] #[], .pointer (some ⟨Bs, 0, none⟩), .pointer (some ⟨Bn, 0, none⟩)] W fun e W' => (∃ v, e = .returned v) ∧
      ((∃ ys, ys = fk m m ∧ J ys W') ∨ (∃ pre, (∃ k, k ≤ m ∧ pre = fk m k) ∧ Jx pre W')) := by
  refine callsIn_of_wp Tryz.func176 rfl h8 ?_ hro
  simp only [Tryz.ntmps176, List.size_toArray, List.length_cons, List.length_nil, Nat.reduceAdd, Nat.reduceSub, Array.replicate_succ, Array.replicate_zero, List.push_toArray, List.append_toArray, List.nil_append, List.cons_append]
  have HM : Hid _ := hM0
  clear hM0
  gi_wp2
  gi_loopw [4] (fun i wr => ∃ k : Nat, k ≤ m ∧ i = .int .i64 ((3 * k : Nat) : Int) ∧ J (fk m k) wr ∧ Kc n₀ Bs Bn W wr)
    (fun i _ => ((M : Int) - RowKit.intOf i).toNat)
  case atStart => exact ⟨0, Nat.zero_le _, by simp, h0, Kc.refl _ _ _ _⟩
  case round =>
    obtain ⟨k, hk, rfl, hJs, hnx⟩ := hrel
    have hBs' := (World.cell?_of_block (a := ⟨Bs, 0, none⟩) hnx.2.1).trans hBs
    have hBn' := (World.cell?_of_block (a := ⟨Bn, 0, none⟩) hnx.2.2).trans hBn
    have hM1 := HM.out
    by_cases hlt : k < m
    · obtain ⟨fn, tmps, assign, body, hy, hR⟩ := hY _ ⟨k, hlt⟩ wr.drew (hdr _ _ hJs) (by rw [fk_len hk]; exact hlt)
      obtain ⟨t, ht⟩ : ∃ t, t = 3 * k := ⟨_, rfl⟩
      unfold three at hy
      dsimp only at hy
      rw [← ht] at hy ⊢
      have hltI : (t : Int) < (M : Int) := by omega
      have ht3 : t + 3 ≤ M := by rw [ht, HM.out]; omega
      have htc : t + 3 ≤ cap := by omega
      have hMb : M ≤ 3000000 := by rw [HM.out]; omega
      have hmin : min (3 : Int) ((M - t : Nat) : Int) = 3 := by omega
      have HK : Hid (t = 3 * k ∧ k < m) := ⟨ht, hlt⟩
      clear ht hk hM1
      gi_wp2
      gi_region
      all_goals (try (exfalso; omega))
      all_goals (
        gi_wp2
        refine hR.mono ?_
        rintro e W3 (⟨rfl, hJ3, hk3⟩ | ⟨rfl, hJx3⟩)
        · have hBn3 : W3.cell? ⟨Bn, 0, none⟩ = some (.int .i64 3) := (World.cell?_of_block (a := ⟨Bn, 0, none⟩) hk3.2.2).trans hBn'
          gi_wp2
          go_roundw
          case rel => exact ⟨k + 1, by omega, by rw [HK.out.1]; simp; omega, by rw [fk_succ hlt]; exact hJ3, hnx.drew.trans hk3⟩
          case measure => simp [RowKit.intOf]; omega
        · gi_wp2
          refine bodyPost_ret (results_none rfl _ _ _) rfl ?_
          exact ⟨⟨_, rfl⟩, .inr ⟨_, ⟨k + 1, by omega, (fk_succ hlt).symm⟩, hJx3⟩⟩)
    · obtain rfl : k = m := by omega
      rw [← hM1]
      clear hM1
      gi_wp2
      go_end0
      exact ⟨⟨_, rfl⟩, .inl ⟨_, rfl, hJs⟩⟩
end Wi
end Rg
end Go.Proofs.YtmcpagjhpfbpgaaGreatDoor
end
section
namespace Go.Proofs.YtmcpagjhpfbpgaaGreatDoor
open Go.RowKit
namespace Rg
namespace Wi
set_option maxRecDepth 100000
open Go.Shelf
attribute [local go_sem] Oper.semAt_some
set_option maxHeartbeats 1000000 in
theorem chunk_in (F : Fence) (n : Nat) (h6 : F.fn 156) (hro : F.round = none) (a : Option Addr) (len cap : Nat) (w : World) :
    CallsIn F n Tryz.prog 156 #[.slice a len cap, .int .i64 3] w fun e w' => e = .returned (.func (.func 176) #[] #[.pointer (some ⟨w.heap.size, 0, none⟩), .pointer (some ⟨w.heap.size + 1, 0, none⟩)]) ∧ w' = (w.alloc (.cells #[.slice a len cap] 131)).alloc (.cells #[.int .i64 3] 3) := by
  refine callsIn_of_wp Tryz.func156 rfl h6 ?_ hro
  simp only [Tryz.ntmps156, List.size_toArray, List.length_cons, List.length_nil, Nat.reduceAdd, Nat.reduceSub, Array.replicate_succ, Array.replicate_zero, List.push_toArray, List.append_toArray, List.nil_append, List.cons_append]
  gi_wp2
  go_ret
  exact ⟨rfl, rfl⟩
set_option maxHeartbeats 1000000 in
theorem chunk1_nil (F : Fence) (n : Nat) (h8 : F.fn 176) (hro : F.round = none) (l Bs Bn : Nat) (J : List (Fin 0) → World → Prop) (W : World) (hBs : W.cell? ⟨Bs, 0, none⟩ = some (.slice none 0 0)) (h0 : J [] W) :
    CallsIn F n Tryz.prog 176 #[.func (.yield l) #[] #[], .pointer (some ⟨Bs, 0, none⟩), .pointer (some ⟨Bn, 0, none⟩)] W fun e W' => (∃ v, e = .returned v) ∧ J [] W' := by
  refine callsIn_of_wp Tryz.func176 rfl h8 ?_ hro
  simp only [Tryz.ntmps176, List.size_toArray, List.length_cons, List.length_nil, Nat.reduceAdd, Nat.reduceSub, Array.replicate_succ, Array.replicate_zero, List.push_toArray, List.append_toArray, List.nil_append, List.cons_append]
  gi_wp2
  gi_loopw [4] (fun i wr => i = .int .i64 0 ∧ wr = W) (fun _ _ => 0)
  case atStart => exact ⟨rfl, rfl⟩
  case round =>
    obtain ⟨rfl, rfl⟩ := hrel
    gi_wp2
    go_end0
    exact ⟨⟨_, rfl⟩, h0⟩
/-- A list of 3 m slices, or nil. -/
def Fls (b m : Nat) (sv : Value) : Prop := (sv = .slice none 0 0 ∧ m = 0) ∨ ∃ cap, sv = .slice (some ⟨b, 0, none⟩) (3 * m) cap ∧ 3 * m ≤ cap
theorem chunk_stops (F : Fence) (n : Nat) (h8 : F.fn 176) (hro : F.round = none) (hn : 1 ≤ n) (Bs Bn n₀ b m : Nat) (hm : m ≤ 1000000) (sv : Value) (hsv : Fls b m sv) (w : World) (h1 : Bs < w.heap.size) (h2 : Bn < w.heap.size)
    (hc : w.cell? ⟨Bs, 0, none⟩ = some sv) (hc2 : w.cell? ⟨Bn, 0, none⟩ = some (.int .i64 3)) :
    SeqStopsK F n Tryz.prog 176 #[.pointer (some ⟨Bs, 0, none⟩), .pointer (some ⟨Bn, 0, none⟩)] (fun x : Fin m => #[three b x.1]) (Kc n₀ Bs Bn) (fun ys => ys = fk m m)
      (fun pre => ∃ k, k ≤ m ∧ pre = fk m k) m w := fun l J Jx W hW hJ _ hY h0 => by
  have hc' := (hW.cell (p := ⟨Bs, 0, none⟩) h1).trans hc
  have hc2' := (hW.cell (p := ⟨Bn, 0, none⟩) h2).trans hc2
  rcases hsv with ⟨rfl, rfl⟩ | ⟨cap, rfl, h3⟩
  · exact (chunk1_nil F n h8 hro l Bs Bn J W hc' h0).mono fun e W' ⟨he, hj⟩ => ⟨he, .inl ⟨_, rfl, hj⟩⟩
  · exact chunk1_in F n h8 hro hn l Bs Bn n₀ b m (3 * m) cap hm rfl h3 J Jx (fun pre W hp => hJ pre W W.drew none hp (grown_drew W) (fun r e => by cases e)) hY W hc' hc2' h0
/-- The key that a part holds. -/
theorem p2s (q : Pt8) (s : ByteArray) (hn : q.n = s.size) (h0 : 0 < s.size) (hb : bs q.n q.f = kb s) (u : World) (hq : Pok q ∧ q.rs u) : (convert 40 9 (.slice q.p q.n q.cp)).run Tryz.prog u = .ok (.string s) u := by
  have hp := hq.1.addr (by omega)
  have hl : s.data.toList.length = q.n := by rw [Array.length_toList]; exact hn.symm
  have h := run_convert_bytes_back (P := Tryz.prog) u 40 9 5 ⟨q.gb, q.o, none⟩ q.cp s.data.toList Tryz.underlying40 (by kernel_rfl) Tryz.underlying9 (fun j hj => by
    have hj' : j < q.n := by omega
    have ea : (⟨q.gb, q.o, none⟩ : Addr).add j = ⟨q.gb, q.o + j, none⟩ := by unfold Addr.add; split <;> simp_all
    rw [ea, hq.2.at_ j hj']
    have e := congrArg (fun l => l[j]?) hb
    rw [bs_get _ hj'] at e
    unfold kb at e
    rw [List.getElem?_map, List.getElem?_eq_getElem hj] at e
    rw [show q.f j = _ from Option.some.inj e])
  rw [hl] at h
  rw [hp]
  rw [h, Array.toArray_toList]
/-- The cells of a change that is read. -/
def cc (P : Nat → Pt8) (K : Nat → ByteArray) (G : Nat → Bool) (k : Nat) : List Value := [.string (K k), .slice (P (3 * k + 2)).p (P (3 * k + 2)).n (P (3 * k + 2)).cp, .bool (G k)]
theorem info_ch : ∃ i, Tryz.prog.info? 65 = some i ∧ i.zero = some (.agg #[.string ByteArray.empty, .slice none 0 0, .bool false]) ∧ i.size = 3 ∧ i.bytes = 48 := by
  obtain ⟨i, hi⟩ : ∃ i, Tryz.prog.info? 65 = some i := by
    have h : (Tryz.prog.info? 65).isSome = true := by kernel_rfl
    rcases e : Tryz.prog.info? 65 with _ | i
    · rw [e] at h; cases h
    · exact ⟨i, rfl⟩
  have h1 : (Tryz.prog.info? 65).map (·.zero) = some (some (.agg #[.string ByteArray.empty, .slice none 0 0, .bool false])) := by kernel_rfl
  have h2 : (Tryz.prog.info? 65).map (·.size) = some 3 := by kernel_rfl
  have h3 : (Tryz.prog.info? 65).map (·.bytes) = some 48 := by kernel_rfl
  rw [hi] at h1 h2 h3
  exact ⟨i, hi, Option.some.inj h1, Option.some.inj h2, Option.some.inj h3⟩
section
variable {ρ : Operand → Value} {o : Oper} {x y z : Operand} {g k j m c : Nat} {v : Value} {w : World}
theorem ex_ld39 (c0 : w.cell? ⟨g, k, none⟩ = some v) (ho : o.op = .load 39 x) (hx : ρ x = PT g k) : (execOp ρ o).run Tryz.prog w = .ok (.value v) w := by
  simp only [execOp, ho, hx]
  clear ho hx
  go_simp
theorem ex_ix131 (ho : o.op = .indexAddr 131 x y) (hx : ρ x = .slice (some ⟨g, k, none⟩) m c) (hy : ρ y = .int .i64 ((j : Nat) : Int)) (h : j < m) : (execOp ρ o).run Tryz.prog w = .ok (.value (PT g (k + j))) w := by
  simp only [execOp, ho, hx, hy]
  clear ho hx hy
  go_simp
theorem ex_cv {r : Value} (ho : o.op = .convert 40 9 x) (hx : ρ x = v) (h : (convert 40 9 v).run Tryz.prog w = .ok r w) : (execOp ρ o).run Tryz.prog w = .ok (.value r) w := by
  simp only [execOp, ho, hx, Sem.run_bind, h, Result.andThen_ok, Sem.run_pure]
theorem ex_st39 {n : Nat} (hb : Boxed w g 39 v) (ho : o.op = .store 39 x y) (hx : ρ x = PT g 0) (hy : ρ y = .slice (some ⟨k, 0, none⟩) n c) : (execOp ρ o).run Tryz.prog w = .ok .skip (w.setCell ⟨g, 0, none⟩ (.slice (some ⟨k, 0, none⟩) n c)) := by
  have c0 := hb.cell
  have f0 := hb.frozen
  simp only [execOp, ho, hx, hy]
  clear ho hx hy hb
  go_simp
theorem ex_bs39 {a b d : Value} (ho : o.op = .buildSlice 39 1 #[(0, x)]) (hx : ρ x = .agg #[a, b, d]) : (execOp ρ o).run Tryz.prog w = .ok (.value (.slice (some ⟨w.heap.size, 0, none⟩) 1 1)) (w.alloc (.cells ([a, b, d] : List Value).toArray 65)) := by
  simp only [execOp, ho, List.map_toArray, List.map_cons, List.map_nil, hx]
  kernel_rfl
theorem ex_app39 {vv sv v' : Value} {w2 : World} (ho : o.op = .call { callee := .builtin .append, args := #[x, y], argTypes := #[39, 39] }) (hx : ρ x = vv) (hy : ρ y = sv) (hr : (Builtin.append_ #[39, 39] o.type #[vv, sv]).run Tryz.prog w = .ok v' w2) : (execOp ρ o).run Tryz.prog w = .ok (.value v') w2 := by
  unfold execOp
  simp only [ho, resolve, invoke, builtin, Sem.run_bind, Sem.run_pure, Result.andThen_ok, List.map_toArray, List.map_cons, List.map_nil, hx, hy, hr]
end
/-- A row that takes one more change: the box and all else. -/
theorem box_app {W w3 : World} {bl Bs Bn gs k : Nat} {sv v : Value} {xs news : List Value} (hv : Boxed W bl 39 v) (hrow : W.ownsRow bl 65 3 v k xs) (hs : Boxed W Bs 131 sv) (hn : Boxed W Bn 3 (.int .i64 3)) (hk : k ≤ 1000) (hb : Below W.heap.size W w3) (hsb : Bs ≠ bl) (hnb : Bn ≠ bl)
    (hl : news.length = 3) (hnew : ∀ j u, news[j]? = some u → w3.cell? ⟨gs, j, none⟩ = some u) (h1 : ∀ u ∈ news, u.oneCell' = true) (ty : TypeId) :
    ∃ g c w2, (Builtin.append_ #[39, 39] ty #[v, .slice (some ⟨gs, 0, none⟩) 1 1]).run Tryz.prog w3 = .ok (.slice (some ⟨g, 0, none⟩) (k + 1) c) w2 ∧ Boxed w2 bl 39 v ∧
      Boxed (w2.setCell ⟨bl, 0, none⟩ (.slice (some ⟨g, 0, none⟩) (k + 1) c)) bl 39 (.slice (some ⟨g, 0, none⟩) (k + 1) c) ∧
      (w2.setCell ⟨bl, 0, none⟩ (.slice (some ⟨g, 0, none⟩) (k + 1) c)).ownsRow bl 65 3 (.slice (some ⟨g, 0, none⟩) (k + 1) c) (k + 1) (xs ++ news) ∧
      KeepsOthers W (w2.setCell ⟨bl, 0, none⟩ (.slice (some ⟨g, 0, none⟩) (k + 1) c)) ∧ Kc bl Bs Bn W (w2.setCell ⟨bl, 0, none⟩ (.slice (some ⟨g, 0, none⟩) (k + 1) c)) := by
  obtain ⟨i0, hi, hz0, hz1, hz2⟩ := info_ch
  have hrow3 : w3.ownsRow bl 65 3 v k xs := own_keep hrow (fun x hx => hb.block x (own_lt hrow x hx))
  have hv3 : Boxed w3 bl 39 v := (hb.block bl hv.lt).trans hv
  have hs3 : Boxed w3 Bs 131 sv := (hb.block Bs hs.lt).trans hs
  have hn3 : Boxed w3 Bn 3 (.int .i64 3) := (hb.block Bn hn.lt).trans hn
  obtain ⟨v', w2, r1, r2, r3, _, r5⟩ := run_append_own_at (P := Tryz.prog) w3 bl 39 ty 65 i0 _ 3 48 Tryz.underlying39 hi hz0 hz1 hz2 rfl (by decide) v k _ hrow3 ⟨gs, 0, none⟩ 1 1 news (by rw [hl])
    (fun j u hj => by rw [add_z]; exact hnew j u hj) h1 (by unfold maxLen; omega) (by omega) (Nat.le_trans (Nat.le_of_lt hv.lt) hb.size)
  obtain ⟨g, c, rfl⟩ := ownsRow_succ r2
  have hv2 : Boxed w2 bl 39 v := hv3.kept r3 (hv3.not_row (by decide) hrow3)
  have hne : some bl ≠ (Value.slice (some ⟨g, 0, none⟩) (k + 1) c).ownBlock := hv2.not_row (by decide) r2
  refine ⟨g, c, w2, r1, hv2, hv2.set _, r2.kept (grownBy_setCell' w2 bl _) (.inr hne.symm), ?_, ?_, ?_, ?_⟩
  · have k1 : KeepsOthers W w3 := ⟨hb.size, fun x o hx _ => (hb.block x (Array.getElem?_eq_some_iff.1 hx).1).trans hx⟩
    refine (k1.trans (KeepsOthers.of_grownBy r3 fun j o ej hj => ?_)).trans (KeepsOthers.setCell _ _ _)
    rcases hrow3.2 with ⟨rfl, _⟩ | ⟨g', cap, cur, rfl, _, hgb, _⟩
    · simp [Value.ownBlock] at ej
    · obtain rfl : g' = j := by simpa [Value.ownBlock] using ej
      rw [hgb] at hj; cases hj; rfl
  · refine ((hb.mono (Nat.le_of_lt hv.lt)).grown r3 (Nat.le_trans (Nat.le_of_lt hv.lt) hb.size) fun j ej => ?_).setCell (p := ⟨bl, 0, none⟩) (Nat.le_refl _) _
    rcases hrow3.2 with ⟨rfl, _⟩ | ⟨g', cap, cur, rfl, hb', _, _⟩
    · simp [Value.ownBlock] at ej
    · obtain rfl : g' = j := by simpa [Value.ownBlock] using ej
      exact hb'
  · exact (((hs3.kept r3 (hs3.not_row (by decide) hrow3)).other hsb _).trans hs.symm)
  · exact (((hn3.kept r3 (hn3.not_row (by decide) hrow3)).other hnb _).trans hn.symm)
end Wi
end Rg
end Go.Proofs.YtmcpagjhpfbpgaaGreatDoor
end
section
namespace Go.Proofs.YtmcpagjhpfbpgaaGreatDoor
open Go.RowKit
namespace Rg
namespace Wi
set_option maxRecDepth 100000
open Go.Shelf
attribute [local go_sem] Oper.semAt_some
/-- What follows, by the way out. -/
def Qm (K : Act → World → Prop) : Exit → Act → World → Prop
  | .normal, a, w => K a w
  | _, _, _ => False
theorem wpIn_qm {F : Fence} {n : Nat} {P : Program} {c : Code} {Q : Exit → Act → World → Prop} {a : Act} {w : World} (h : c.wpIn F n P (Qm (Q .normal)) a w) : c.wpIn F n P Q a w :=
  wpIn_mono h fun e a w hh => by cases e <;> first | exact hh | exact hh.elim
/-- A change that a batch may hold. -/
def Ch.ok (c : Ch) : Prop := 0 < c.k.size ∧ c.k.size ≤ 128 ∧ c.v.length ≤ 8192 ∧ (c.gn = true → c.v = [])
def ch0 : Ch := ⟨ByteArray.empty, [], false⟩
theorem fs_at : ∀ (l : List Ch) (i : Nat), i < l.length → (l.flatMap Ch.fs).getD (3 * i) [] = [if (l.getD i ch0).gn then 1 else 0] ∧ (l.flatMap Ch.fs).getD (3 * i + 1) [] = kb (l.getD i ch0).k ∧ (l.flatMap Ch.fs).getD (3 * i + 2) [] = (l.getD i ch0).v
  | [], i, h => absurd h (Nat.not_lt_zero _)
  | c :: r, 0, _ => ⟨rfl, rfl, rfl⟩
  | c :: r, i + 1, h => by
    have ih := fs_at r i (by simpa using h)
    have e : ∀ j, ((c :: r).flatMap Ch.fs).getD (3 * (i + 1) + j) [] = (r.flatMap Ch.fs).getD (3 * i + j) [] := fun j => by
      rw [show 3 * (i + 1) + j = (3 * i + j) + 1 + 1 + 1 by omega]
      rfl
    exact ⟨(e 0).trans ih.1, (e 1).trans ih.2.1, (e 2).trans ih.2.2⟩
theorem fs_len : ∀ (l : List Ch), (l.flatMap Ch.fs).length = 3 * l.length
  | [] => rfl
  | c :: r => by
    rw [List.flatMap_cons, List.length_append, fs_len r]
    simp [Ch.fs]
    omega
theorem mark_at {q : Pt8} {a : Nat} {u : World} (hb : bs q.n q.f = [a]) (hq : Pok q ∧ q.rs u) : q.p = some ⟨q.gb, q.o, none⟩ ∧ q.n = 1 ∧ u.cell? ⟨q.gb, q.o, none⟩ = some (Z8 a) := by
  have h1 : q.n = 1 := by have := congrArg List.length hb; rwa [bs_len] at this
  have e := congrArg (fun l => l[0]?) hb
  rw [bs_get _ (by omega)] at e
  have e' : q.f 0 = a := Option.some.inj e
  exact ⟨hq.1.addr (by omega), h1, by have := hq.2.at_ 0 (by omega); rwa [e'] at this⟩
theorem Kc.own {β : Type} {n₀ Bs Bn : Nat} {w : World} (h1 : n₀ ≤ w.heap.size) (h2 : Bs < w.heap.size) (h3 : Bn < w.heap.size) : OwnFrom w.heap.size (fun (_ : β) W => Kc n₀ Bs Bn w W) :=
  fun s A B row hs hg hr => ⟨ownFrom_below (β := β) h1 h1 s A B row hs.1 hg hr,
    (hg.block Bs (Nat.lt_of_lt_of_le h2 hs.1.size) (fun e => by have := (hr _ e.symm).1; omega)).trans hs.2.1,
    (hg.block Bn (Nat.lt_of_lt_of_le h3 hs.1.size) (fun e => by have := (hr _ e.symm).1; omega)).trans hs.2.2⟩
/-- The parts of a batch's fields. -/
def Fx (m : Nat) (P : Nat → Pt8) (K : Nat → ByteArray) (G : Nat → Bool) (V : Nat → List Nat) : Prop :=
  ∀ k, k < m → bs (P (3 * k)).n (P (3 * k)).f = [if G k then 1 else 0] ∧ bs (P (3 * k + 1)).n (P (3 * k + 1)).f = kb (K k) ∧ 0 < (K k).size ∧ bs (P (3 * k + 2)).n (P (3 * k + 2)).f = V k
/-- What changes may be. -/
def Vx (m : Nat) (K : Nat → ByteArray) (G : Nat → Bool) (V : Nat → List Nat) : Prop := ∀ k, k < m → 0 < (K k).size ∧ (K k).size ≤ 128 ∧ (V k).length ≤ 8192 ∧ (G k = true → V k = [])
def cqs (P : Nat → Pt8) (K : Nat → ByteArray) (G : Nat → Bool) (i : Nat) : Cq := { k := K i, q := P (3 * i + 2), gn := G i }
theorem ferr_z (C : Nat → Cq) : ∀ m, (∀ i, i < m → (C i).fit = 0) → ferr C m = 0
  | 0, _ => rfl
  | m + 1, h => by
    unfold ferr
    rw [if_pos (ferr_z C m fun i hi => h i (by omega))]
    exact h m (by omega)
theorem Fx.fit {m : Nat} {P : Nat → Pt8} {K : Nat → ByteArray} {G : Nat → Bool} {V : Nat → List Nat} (h : Fx m P K G V) (hv : Vx m K G V) : ferr (cqs P K G) m = 0 :=
  ferr_z _ m fun i hi => by
    obtain ⟨h1, h2, h3, h4⟩ := hv i hi
    have hn : (P (3 * i + 2)).n = (V i).length := by have := congrArg List.length (h i hi).2.2.2; rwa [bs_len] at this
    unfold Cq.fit cqs
    dsimp only
    rw [if_neg, if_neg]
    · omega
    · rintro (h | ⟨h, h'⟩)
      · omega
      · rw [h4 h] at hn
        simp at hn
        omega
theorem fk_flat {m : Nat} (f : Nat → List Value) (hf : ∀ i, (f i).length = 3) : ∀ k, k ≤ m → ((fk m k).flatMap fun x => f x.1).length = 3 * k ∧ ∀ i j, i < k → j < 3 → ((fk m k).flatMap fun x => f x.1)[3 * i + j]? = (f i)[j]?
  | 0, _ => ⟨by simp [fk], fun i j hi => absurd hi (Nat.not_lt_zero _)⟩
  | k + 1, hk => by
    obtain ⟨h1, h2⟩ := fk_flat (m := m) f hf k (by omega)
    rw [fk_succ (show k < m by omega), List.flatMap_append, List.flatMap_singleton]
    refine ⟨by rw [List.length_append, h1, hf]; omega, fun i j hi hj => ?_⟩
    by_cases h : i < k
    · rw [List.getElem?_append_left (by omega)]
      exact h2 i j h hj
    · obtain rfl : i = k := by omega
      rw [List.getElem?_append_right (by omega), h1, show 3 * i + j - 3 * i = j by omega]
theorem row_cl {W : World} {bl m : Nat} {v : Value} {P : Nat → Pt8} {K : Nat → ByteArray} {G : Nat → Bool} (h : W.ownsRow bl 65 3 v (fk m m).length ((fk m m).flatMap fun x => cc P K G x.1)) :
    ∃ p g c, v = .slice p m c ∧ (0 < m → bl ≤ g) ∧ Cl p g 0 m (cqs P K G) W := by
  rw [fk_len (Nat.le_refl m)] at h
  obtain ⟨f1, f2⟩ := fk_flat (m := m) (cc P K G) (fun _ => rfl) m (Nat.le_refl _)
  rcases h.2 with ⟨h1, h2⟩ | ⟨g, cap, cur, h1, h2, h3, _⟩
  · exact ⟨none, 0, 0, by rw [h1, h2], fun h0 => by omega, fun h0 => by omega, fun h0 => by omega, fun i hi => by omega, fun i hi => by omega, fun i hi => by omega⟩
  · subst h1
    have key : ∀ i j, i < m → j < 3 → W.cell? ⟨g, 0 + i * 3 + j, none⟩ = (cc P K G i)[j]? := fun i j hi hj => by
      rw [show 0 + i * 3 + j = 3 * i + j by omega, h.cellAt (3 * i + j) (by omega)]
      exact f2 i j hi hj
    exact ⟨_, g, cap, rfl, fun _ => h2, fun _ => rfl, fun _ => (Array.getElem?_eq_some_iff.1 h3).1, fun i hi => key i 0 hi (by omega), fun i hi => key i 1 hi (by omega), fun i hi => key i 2 hi (by omega)⟩
theorem cell_ne {W : World} {D : Nat} {r : Option (List Deferred)} {p : Addr} {v : Value} (hd : W.heap[D]? = some (.deferred r)) (hc : W.cell? p = some v) : p.block ≠ D := fun e => by
  unfold World.cell? at hc
  rw [e, hd] at hc
  simp at hc
theorem results_c2 {fn : Func} {p u : Tmp} (h : fn.results = #[.cell p 39, .cell u 4]) (tmps : Array Value) (w : World) {g1 g2 : Nat} {pp : Option Addr} {n c : Nat} {bv : Bool} (h1 : tmps.getD p undef = PT g1 0) (h2 : tmps.getD u undef = PT g2 0) (c1 : w.cell? ⟨g1, 0, none⟩ = some (.slice pp n c)) (c2 : w.cell? ⟨g2, 0, none⟩ = some (.bool bv)) :
    (results fn tmps).run Tryz.prog w = .ok (.tuple #[.slice pp n c, .bool bv]) w := by
  have e1 : tmps[p]?.getD undef = .pointer (some ⟨g1, 0, none⟩) := by rw [← Array.getD_eq_getD_getElem?]; exact h1
  have e2 : tmps[u]?.getD undef = .pointer (some ⟨g2, 0, none⟩) := by rw [← Array.getD_eq_getD_getElem?]; exact h2
  clear h1 h2
  simp only [results, h]
  simp [Sem.run_bind, Result.andThen, e1, e2]
  go_simp
/-- A batch as it is read: a list of the call's own, its values too. -/
structure Bt (w : World) (m : Nat) (P : Nat → Pt8) (K : Nat → ByteArray) (G : Nat → Bool) (V : Nat → List Nat) (p : Option Addr) (g : Nat) (u : World) : Prop where
  b : Below w.heap.size w u
  cl : Cl p g 0 m (cqs P K G) u
  gl : 0 < m → w.heap.size ≤ g
  vs : ∀ i, i < m → Pq (P (3 * i + 2)) u ∧ (∀ x ∈ gbl (P (3 * i + 2)), w.heap.size ≤ x) ∧ bs (P (3 * i + 2)).n (P (3 * i + 2)).f = V i
set_option maxHeartbeats 8000000 in
theorem rbatch_q (q : Pt8) (m N : Nat) (l : List (List Nat)) (hm : l.length = N) (hN0 : N = 3 * m) (hm64 : m ≤ 64) (hn : q.n ≤ 1048576) (hb : bs q.n q.f = wf l) (K : Nat → ByteArray) (G : Nat → Bool) (V : Nat → List Nat) (hV : Vx m K G V)
    (hK : ∀ k, k < m → l.getD (3 * k) [] = [if G k then 1 else 0] ∧ l.getD (3 * k + 1) [] = kb (K k) ∧ l.getD (3 * k + 2) [] = V k) (w : World) (hq : Pok q ∧ q.rs w) :
    Calls Tryz.prog 122 #[.slice q.p q.n q.cp] w fun e w' => ∃ (p : Option Addr) (g c : Nat) (P : Nat → Pt8), e = .returned (.tuple #[.slice p m c, .bool true]) ∧ Bt w m P K G V p g w' := by
  have HR : Hid (∀ u, Below w.heap.size w u → Calls Tryz.prog 155 #[.slice q.p q.n q.cp] u fun e w' => ∃ (v : Value) (P : Nat → Pt8), e = .returned (.tuple #[v, .int .i64 0]) ∧ Lr u v N P w' ∧ Fx m P K G V) := fun u hu => by
    have h := ReadFields_q q l (by omega) hn hb u ⟨hq.1, hq.2.below hu⟩
    rw [hm] at h
    exact h.mono fun e w' ⟨v, P, h1, h2, h3⟩ => ⟨v, P, h1, h2, fun k hk => ⟨(h3 _ (by omega)).trans (hK k hk).1, (h3 _ (by omega)).trans (hK k hk).2.1, (hV k hk).1, (h3 _ (by omega)).trans (hK k hk).2.2⟩⟩
  have hmod : ((N : Nat) : Int).tmod 3 = 0 := by
    rw [hN0]
    exact Int.tmod_eq_zero_of_dvd ⟨(m : Int), by push_cast; rfl⟩
  have HN : Hid _ := hN0
  have HV : Hid _ := hV
  clear hN0 hm hb hq hK hV
  refine (callsIn_wide (n := 9)).1 ?_
  have hro : Fence.wide.round = none := rfl
  refine callsIn_of_wp_marks Tryz.func122 rfl trivial ?_ hro
  simp only [Tryz.ntmps122, List.size_toArray, List.length_cons, List.length_nil, Nat.reduceAdd, Nat.reduceSub, Array.replicate_succ, Array.replicate_zero, List.push_toArray, List.append_toArray, List.nil_append, List.cons_append]
  have hB0 : Hid (Below w.heap.size w ((w.alloc (.cells #[.slice none 0 0] 39)).alloc (.cells #[.bool false] 4))) := ((Below.refl _ w).alloc (Nat.le_refl _) _).alloc (by simp) _
  gi_wp2_with (first
    | (gi_at_call 155; refine (callsIn_wide.2 (HR.out _ hB0.out)).mono ?_; rintro e w1 ⟨v, P, rfl, hL, hP⟩; obtain ⟨pv, cv, rfl, hcv⟩ := own_slice hL.own; have HL : Hid _ := hL; have HP : Hid _ := hP; clear hL hP)
    | (refine ⟨trivial, ?_⟩; gi_at_call 155; refine (callsIn_wide.2 (HR.out _ hB0.out)).mono ?_; rintro e w1 ⟨v, P, rfl, hL, hP⟩; obtain ⟨pv, cv, rfl, hcv⟩ := own_slice hL.own; have HL : Hid _ := hL; have HP : Hid _ := hP; clear hL hP)
    | (gi_at_call 156; refine (chunk_in Fence.wide _ trivial hro _ _ _ _).mono ?_; rintro e w' ⟨rfl, rfl⟩)
    | (refine ⟨trivial, ?_⟩; gi_at_call 156; refine (chunk_in Fence.wide _ trivial hro _ _ _ _).mono ?_; rintro e w' ⟨rfl, rfl⟩))
  have hL := HL.out
  have hN0 := HN.out
  have hsw : w.heap.size + 2 ≤ w1.heap.size := by have := hL.b.size; simpa using this
  have bF := ((Boxed.new w1 39 (.slice none 0 0)).alloc (.cells #[.slice pv N cv] 131)).alloc (.cells #[.int .i64 3] 3)
  have bS := (Boxed.new (w1.alloc (.cells #[.slice none 0 0] 39)) 131 (.slice pv N cv)).alloc (.cells #[.int .i64 3] 3)
  have bN := Boxed.new ((w1.alloc (.cells #[.slice none 0 0] 39)).alloc (.cells #[.slice pv N cv] 131)) 3 (.int .i64 3)
  simp only [World.size_alloc] at bF bS bN
  have hB1 : Below w1.heap.size w1 (((w1.alloc (.cells #[.slice none 0 0] 39)).alloc (.cells #[.slice pv N cv] 131)).alloc (.cells #[.int .i64 3] 3)) := (((Below.refl _ w1).alloc (Nat.le_refl _) _).alloc (by simp) _).alloc (by simp; omega) _
  have hsz : (((w1.alloc (.cells #[.slice none 0 0] 39)).alloc (.cells #[.slice pv N cv] 131)).alloc (.cells #[.int .i64 3] 3)).heap.size = w1.heap.size + 3 := by simp
  obtain ⟨W0, hW0⟩ : ∃ W0, ((w1.alloc (.cells #[.slice none 0 0] 39)).alloc (.cells #[.slice pv N cv] 131)).alloc (.cells #[.int .i64 3] 3) = W0 := ⟨_, rfl⟩
  rw [hW0] at bF bS bN hB1 hsz ⊢
  clear hW0
  obtain ⟨b, hbp, hFl⟩ : ∃ b, (0 < m → pv = some ⟨b, 0, none⟩ ∧ b < w1.heap.size ∧ ∀ i, i < N → w1.cell? ⟨b, i, none⟩ = some (.slice (P i).p (P i).n (P i).cp)) ∧ Fls b m (.slice pv N cv) := by
    rcases hL.own.2 with ⟨h1, h2⟩ | ⟨g, cap, cur, h1, h2, h3, h4⟩
    · exact ⟨0, fun h0 => absurd h2 (by omega), .inl ⟨h1, by omega⟩⟩
    · have hO := hL.own
      rw [h1] at hO
      refine ⟨g, fun _ => ⟨by cases h1; rfl, (Array.getElem?_eq_some_iff.1 h3).1, fun i hi => ?_⟩, .inr ⟨cap, by rw [h1, hN0], by omega⟩⟩
      rw [hO.cellAt i (by omega), pcs_get P hi]
  refine wpIn_rangeFunc_ownF hro (by decide) (gf := 176) (lb := #[.pointer (some ⟨w1.heap.size + 1, 0, none⟩), .pointer (some ⟨w1.heap.size + 1 + 1, 0, none⟩)]) rfl trivial (enters_of Tryz.func176 (by kernel_rfl) rfl)
    (chunk_stops Fence.wide _ trivial hro (by decide) (w1.heap.size + 1) (w1.heap.size + 1 + 1) w1.heap.size b m (by omega) (.slice pv N cv) hFl W0 (by omega) (by omega) bS.cell bN.cell)
    Kc.trans (Kc.put (by omega) (by omega) (by omega)) (Below.refl _ _) (fun _ => rfl)
    (fun pre W => (∃ v, Boxed W w1.heap.size 39 v ∧ W.ownsRow w1.heap.size 65 3 v pre.length (pre.flatMap fun x => cc P K G x.1) ∧ True) ∧ Kc w1.heap.size (w1.heap.size + 1) (w1.heap.size + 1 + 1) W0 W)
    (fun _ _ _ => False)
    (OwnFrom.and (Own.from (holdsRow_own _ _ _ _ _ List.length _ (fun _ _ => True)) _) (Kc.own (by omega) (by omega) (by omega)))
    (fun _ _ _ _ _ h _ _ => h)
    ⟨⟨_, bF, World.ownsRow_nil _ _ _ _, trivial⟩, Kc.refl _ _ _ _⟩
    (fun x => { tmps := #[.slice q.p q.n q.cp, undef, PT w.heap.size 0, PT (w.heap.size + 1) 0, .slice pv N cv, .int .i64 0, PT w1.heap.size 0, three b x.1, undef, .tuple #[.slice pv N cv, .int .i64 0], .slice q.p q.n q.cp, .tuple #[.slice pv N cv, .int .i64 0], .slice pv N cv, .int .i64 0, .int .i64 0, .bool false, .bool false, .slice pv N cv, .int .i64 (N : Int), .int .i64 0, .bool false, .bool false, .slice pv N cv, .func (.func 176) #[] #[.pointer (some ⟨w1.heap.size + 1, 0, none⟩), .pointer (some ⟨w1.heap.size + 1 + 1, 0, none⟩)], three b x.1, undef, undef, undef, undef, undef, undef, undef, undef, undef, undef, undef, undef, undef, undef, undef, undef, undef, undef, undef, undef, undef, undef, undef, undef, undef, undef, undef, undef, undef, undef, undef, undef, undef, undef, undef, undef, undef], defers := [] }) ?assign ?body ?done ?stop
  all_goals clear hN0
  case assign =>
    intro l x W K' hK'
    gi_wp2
    exact hK'
  case body =>
    rintro l pre ⟨k, hk⟩ W ⟨⟨v, hv, hrow, -⟩, hG⟩ hlt
    have hN0 := HN.out
    obtain ⟨hpv, hblt, hcel⟩ := hbp (by omega)
    have hBW : Below w1.heap.size w1 W := hB1.trans hG.1
    have hc0 := (hBW.cell (p := ⟨b, 3 * k, none⟩) hblt).trans (hcel (3 * k) (by omega))
    have hc1 := (hBW.cell (p := ⟨b, 3 * k + 1, none⟩) hblt).trans (hcel (3 * k + 1) (by omega))
    have hc2 := (hBW.cell (p := ⟨b, 3 * k + 2, none⟩) hblt).trans (hcel (3 * k + 2) (by omega))
    obtain ⟨f0, f1, f2, -⟩ := HP.out k hk
    have o0 := hL.ok (3 * k) (by omega)
    have o1 := hL.ok (3 * k + 1) (by omega)
    obtain ⟨gk, hgk⟩ : ∃ gk, gk = G k := ⟨_, rfl⟩
    rw [← hgk] at f0
    obtain ⟨p0, n0, m0⟩ := mark_at f0 ⟨o0.1, o0.2.2.1.below hBW⟩
    have hn1 : (P (3 * k + 1)).n = (K k).size := by have := congrArg List.length f1; rwa [bs_len, kb_len] at this
    have hcvt : Hid (∀ u, Below W.heap.size W u → (convert 40 9 (.slice (P (3 * k + 1)).p (P (3 * k + 1)).n (P (3 * k + 1)).cp)).run Tryz.prog u = .ok (.string (K k)) u) := fun u hu => p2s _ _ hn1 f2 f1 u ⟨o1.1, (o1.2.2.1.below hBW).below hu⟩
    rw [p0, n0] at hc0
    have hgm : (P (3 * k)).gb < W.heap.size := by have := (o0.2.2.1.below hBW).lt (by omega); exact this
    clear p0 n0 o0 o1 f0 f1 f2 hn1 hcel hBW hpv
    have hcc : Hid (cc P K G k = [.string (K k), .slice (P (3 * k + 2)).p (P (3 * k + 2)).n (P (3 * k + 2)).cp, .bool gk]) := by rw [hgk]; rfl
    clear hgk
    generalize (P (3 * k)).gb = gm at hc0 m0 hgm
    generalize (P (3 * k)).o = om at hc0 m0
    generalize (P (3 * k)).cp = cm at hc0
    obtain ⟨q1, hq1⟩ : ∃ x, x = P (3 * k + 1) := ⟨_, rfl⟩
    obtain ⟨q2, hq2⟩ : ∃ x, x = P (3 * k + 2) := ⟨_, rfl⟩
    rw [← hq1] at hc1 hcvt
    rw [← hq2] at hc2 hcc
    obtain ⟨t, ht⟩ : ∃ t, t = 3 * k := ⟨_, rfl⟩
    unfold three
    dsimp only
    rw [← ht] at hc0 hc1 hc2 ⊢
    have hv0 := hv.cell
    have hbW : b < W.heap.size := by have := hG.1.size; omega
    have bS' : Boxed W (w1.heap.size + 1) 131 (.slice pv N cv) := hG.2.1.trans bS
    have bN' : Boxed W (w1.heap.size + 1 + 1) 3 (.int .i64 3) := hG.2.2.trans bN
    clear hN0 ht hq1 hq2
    cases gk
    · have m1 : W.cell? ⟨gm, om, none⟩ = some (.int .u8 0) := m0
      clear m0
      gi_wp2
      refine wpIn_qn ?_
      refine walk_value_in l _ (by kernel_rfl) (Qn.lo _) (by kernel_rfl) 14 [] [.quiet v, .quiet (.slice (some ⟨b, t, none⟩) 3 3), .quiet (PT b (t + 1)), .quiet (.slice q1.p q1.n q1.cp), .quiet (.string (K k)), .quiet (.slice (some ⟨b, t, none⟩) 3 3), .quiet (PT b (t + 2)), .quiet (Value.slice q2.p q2.n q2.cp), .quiet (.slice (some ⟨gm, om, none⟩) 1 cm), .quiet (PT gm om), .quiet (Z8 0), .quiet (.bool false), .quiet (.agg #[.string (K k), Value.slice q2.p q2.n q2.cp, .bool false]), .row (fun g => .slice (some ⟨g, 0, none⟩) 1 1) [.string (K k), Value.slice q2.p q2.n q2.cp, .bool false] 65]
        (fun u => Below W.heap.size W u ∧ u.cell? ⟨w1.heap.size, 0, none⟩ = some v ∧ u.cell? ⟨b, t + 1, none⟩ = some (.slice q1.p q1.n q1.cp) ∧ u.cell? ⟨b, t + 2, none⟩ = some (Value.slice q2.p q2.n q2.cp) ∧ u.cell? ⟨gm, om, none⟩ = some (Z8 0))
        ?prez0 ?Fz0 ?Gz0 _ 57 ?hprez0 (fun γ => ?hFz0) (fun v γ => ?hGz0) (by kernel_rfl) rfl ?hLz0 ?hSz0 ?hoz0 (fun v => ?hlaz0) ?hez0
      case hprez0 => simp only [tk, tz]; rfl
      case hFz0 => simp only [fill, Kind.val, Act.put, sa, sz, ss]; rfl
      case hGz0 => simp only [fill, Kind.val, Act.put, sa, sz, ss]; rfl
      case hLz0 => exact trivial
      case hSz0 => exact fun u hu => ⟨hu, (hu.cell (p := ⟨_, 0, none⟩) hv.lt).trans hv0, (hu.cell (p := ⟨b, t + 1, none⟩) hbW).trans hc1, (hu.cell (p := ⟨b, t + 2, none⟩) hbW).trans hc2, (hu.cell (p := ⟨gm, om, none⟩) hgm).trans m1⟩
      case hoz0 =>
        refine ak (fun γ => ⟨rfl, fun u h => ex_ld39 h.2.1 rfl rfl⟩) ?_
        refine ak (fun _ => ⟨rfl, fun _ _ => rfl⟩) ?_
        refine ak (fun γ => ⟨rfl, fun u _ => ex_ix131 (j := 1) rfl rfl rfl (by decide)⟩) ?_
        refine ak (fun γ => ⟨rfl, fun u h => ex_ldS h.2.2.1 rfl rfl⟩) ?_
        refine ak (fun γ => ⟨rfl, fun u h => ex_cv rfl rfl (hcvt.out u h.1)⟩) ?_
        refine ak (fun _ => ⟨rfl, fun _ _ => rfl⟩) ?_
        refine ak (fun γ => ⟨rfl, fun u _ => ex_ix131 (j := 2) rfl rfl rfl (by decide)⟩) ?_
        refine ak (fun γ => ⟨rfl, fun u h => ex_ldS h.2.2.2.1 rfl rfl⟩) ?_
        refine ak (fun _ => ⟨rfl, fun _ _ => rfl⟩) ?_
        refine ak (fun γ => ⟨rfl, fun u _ => ex_ixS22 (j := 0) rfl rfl rfl (by decide)⟩) ?_
        refine ak (fun γ => ⟨rfl, fun u h => ex_ld5 h.2.2.2.2 rfl rfl⟩) ?_
        refine ak (fun γ => ⟨rfl, fun u h => by clear h; go_simp⟩) ?_
        refine ak (fun γ => ⟨rfl, fun u h => by clear h; go_simp⟩) ?_
        refine ak (fun γ => ⟨rfl, fun u => ex_bs39 rfl rfl⟩) ?_
        exact trivial
      case hlaz0 => exact trivial
      intro γ w3 l3 hM hl
      have hM3 := (Mm.nil W).grow hM (Nat.le_refl _) hl [13] rfl (by decide)
      have hb3 := hM.below
      clear hM hl
      have hpk : pre.length ≤ 1000 := by omega
      obtain ⟨gv, cv', w4, h1, h2, h3, h4, h5, h6⟩ := box_app (ty := 39) (news := [.string (K k), Value.slice q2.p q2.n q2.cp, .bool false]) hv hrow bS' bN' hpk hb3 (by omega) (by omega) rfl (gs := γ 13)
        (fun j u hj => hM3.get 0 rfl j hj) (by simp [Value.oneCell'])
      refine ⟨_, w4, ex_app39 rfl rfl rfl h1, ?_⟩
      refine rest_at (l := [15]) rfl ?_
      refine rest_store rfl rfl rfl (ex_st39 h2 rfl rfl rfl) ?_
      refine rest_nil ⟨rfl, ?_⟩
      exact ⟨h5, h6, ⟨_, h3, by rw [List.flatMap_append, List.flatMap_singleton, List.length_append, hcc.out]; exact h4, trivial⟩, hG.trans h6⟩
    · have m1 : W.cell? ⟨gm, om, none⟩ = some (.int .u8 1) := m0
      clear m0
      gi_wp2
      refine wpIn_qn ?_
      refine walk_value_in l _ (by kernel_rfl) (Qn.lo _) (by kernel_rfl) 14 [] [.quiet v, .quiet (.slice (some ⟨b, t, none⟩) 3 3), .quiet (PT b (t + 1)), .quiet (.slice q1.p q1.n q1.cp), .quiet (.string (K k)), .quiet (.slice (some ⟨b, t, none⟩) 3 3), .quiet (PT b (t + 2)), .quiet (Value.slice q2.p q2.n q2.cp), .quiet (.slice (some ⟨gm, om, none⟩) 1 cm), .quiet (PT gm om), .quiet (Z8 1), .quiet (.bool true), .quiet (.agg #[.string (K k), Value.slice q2.p q2.n q2.cp, .bool true]), .row (fun g => .slice (some ⟨g, 0, none⟩) 1 1) [.string (K k), Value.slice q2.p q2.n q2.cp, .bool true] 65]
        (fun u => Below W.heap.size W u ∧ u.cell? ⟨w1.heap.size, 0, none⟩ = some v ∧ u.cell? ⟨b, t + 1, none⟩ = some (.slice q1.p q1.n q1.cp) ∧ u.cell? ⟨b, t + 2, none⟩ = some (Value.slice q2.p q2.n q2.cp) ∧ u.cell? ⟨gm, om, none⟩ = some (Z8 1))
        ?prez1 ?Fz1 ?Gz1 _ 57 ?hprez1 (fun γ => ?hFz1) (fun v γ => ?hGz1) (by kernel_rfl) rfl ?hLz1 ?hSz1 ?hoz1 (fun v => ?hlaz1) ?hez1
      case hprez1 => simp only [tk, tz]; rfl
      case hFz1 => simp only [fill, Kind.val, Act.put, sa, sz, ss]; rfl
      case hGz1 => simp only [fill, Kind.val, Act.put, sa, sz, ss]; rfl
      case hLz1 => exact trivial
      case hSz1 => exact fun u hu => ⟨hu, (hu.cell (p := ⟨_, 0, none⟩) hv.lt).trans hv0, (hu.cell (p := ⟨b, t + 1, none⟩) hbW).trans hc1, (hu.cell (p := ⟨b, t + 2, none⟩) hbW).trans hc2, (hu.cell (p := ⟨gm, om, none⟩) hgm).trans m1⟩
      case hoz1 =>
        refine ak (fun γ => ⟨rfl, fun u h => ex_ld39 h.2.1 rfl rfl⟩) ?_
        refine ak (fun _ => ⟨rfl, fun _ _ => rfl⟩) ?_
        refine ak (fun γ => ⟨rfl, fun u _ => ex_ix131 (j := 1) rfl rfl rfl (by decide)⟩) ?_
        refine ak (fun γ => ⟨rfl, fun u h => ex_ldS h.2.2.1 rfl rfl⟩) ?_
        refine ak (fun γ => ⟨rfl, fun u h => ex_cv rfl rfl (hcvt.out u h.1)⟩) ?_
        refine ak (fun _ => ⟨rfl, fun _ _ => rfl⟩) ?_
        refine ak (fun γ => ⟨rfl, fun u _ => ex_ix131 (j := 2) rfl rfl rfl (by decide)⟩) ?_
        refine ak (fun γ => ⟨rfl, fun u h => ex_ldS h.2.2.2.1 rfl rfl⟩) ?_
        refine ak (fun _ => ⟨rfl, fun _ _ => rfl⟩) ?_
        refine ak (fun γ => ⟨rfl, fun u _ => ex_ixS22 (j := 0) rfl rfl rfl (by decide)⟩) ?_
        refine ak (fun γ => ⟨rfl, fun u h => ex_ld5 h.2.2.2.2 rfl rfl⟩) ?_
        refine ak (fun γ => ⟨rfl, fun u h => by clear h; go_simp⟩) ?_
        refine ak (fun γ => ⟨rfl, fun u h => by clear h; go_simp⟩) ?_
        refine ak (fun γ => ⟨rfl, fun u => ex_bs39 rfl rfl⟩) ?_
        exact trivial
      case hlaz1 => exact trivial
      intro γ w3 l3 hM hl
      have hM3 := (Mm.nil W).grow hM (Nat.le_refl _) hl [13] rfl (by decide)
      have hb3 := hM.below
      clear hM hl
      have hpk : pre.length ≤ 1000 := by omega
      obtain ⟨gv, cv', w4, h1, h2, h3, h4, h5, h6⟩ := box_app (ty := 39) (news := [.string (K k), Value.slice q2.p q2.n q2.cp, .bool true]) hv hrow bS' bN' hpk hb3 (by omega) (by omega) rfl (gs := γ 13)
        (fun j u hj => hM3.get 0 rfl j hj) (by simp [Value.oneCell'])
      refine ⟨_, w4, ex_app39 rfl rfl rfl h1, ?_⟩
      refine rest_at (l := [15]) rfl ?_
      refine rest_store rfl rfl rfl (ex_st39 h2 rfl rfl rfl) ?_
      refine rest_nil ⟨rfl, ?_⟩
      exact ⟨h5, h6, ⟨_, h3, by rw [List.flatMap_append, List.flatMap_singleton, List.length_append, hcc.out]; exact h4, trivial⟩, hG.trans h6⟩
  case done =>
    rintro D ys W hD rfl ⟨⟨v, hv, hrow, -⟩, hG⟩ hKd
    obtain ⟨p, g, c, rfl, hgl, hcl⟩ := row_cl hrow
    have hbd : Hid (∀ u, Below W.heap.size W u → Calls Tryz.prog 44 #[.slice p m c] u fun e w' => e = .returned (.int .i64 0) ∧ Below u.heap.size u w') := fun u hu => by
      have := bounded_any p m c g 0 _ hm64 u (hcl.below hu)
      rwa [Fx.fit HP.out HV.out] at this
    have hBW : Below w1.heap.size w1 W := hB1.trans hG.1
    have q0 : Boxed W w.heap.size 39 (.slice none 0 0) := (hBW.block _ (by omega)).trans ((hL.b.block _ (by simp; omega)).trans ((Boxed.new w 39 (.slice none 0 0)).alloc _))
    have q1 : Boxed W (w.heap.size + 1) 4 (.bool false) := (hBW.block _ (by omega)).trans ((hL.b.block _ (by simp)).trans (by have := Boxed.new (w.alloc (.cells #[.slice none 0 0] 39)) 4 (.bool false); rw [World.size_alloc] at this; exact this))
    have hDlt := (Array.getElem?_eq_some_iff.1 hKd).1
    have hwW : Below w.heap.size w W := (hB0.out.trans (hL.b.mono hB0.out.size)).trans (hBW.mono (by omega))
    have hsW := hwW.size
    have hs1W := hBW.size
    have fin : Hid (∀ w2, Below W.drew.heap.size W.drew w2 → (((w2.setCell ⟨w.heap.size, 0, none⟩ (.slice p m c)).setCell ⟨w.heap.size + 1, 0, none⟩ (.bool true)).heap[D]? = some (.deferred (some []))) ∧
        (∀ tmps, tmps.getD 2 undef = PT w.heap.size 0 → tmps.getD 3 undef = PT (w.heap.size + 1) 0 → (results Tryz.f122 tmps).run Tryz.prog (((w2.setCell ⟨w.heap.size, 0, none⟩ (.slice p m c)).setCell ⟨w.heap.size + 1, 0, none⟩ (.bool true)).putObj D (.deferred none)) = .ok (.tuple #[.slice p m c, .bool true]) (((w2.setCell ⟨w.heap.size, 0, none⟩ (.slice p m c)).setCell ⟨w.heap.size + 1, 0, none⟩ (.bool true)).putObj D (.deferred none))) ∧
        Bt w m P K G V p g (((w2.setCell ⟨w.heap.size, 0, none⟩ (.slice p m c)).setCell ⟨w.heap.size + 1, 0, none⟩ (.bool true)).putObj D (.deferred none))) := fun w2 hb2 => by
      have hz2 : W.heap.size ≤ w2.heap.size := hb2.size
      have g1 := grownBy_setCell' w2 w.heap.size (.slice p m c)
      have g2 := grownBy_setCell' (w2.setCell ⟨w.heap.size, 0, none⟩ (.slice p m c)) (w.heap.size + 1) (.bool true)
      have x0 : Boxed w2 w.heap.size 39 (.slice none 0 0) := (hb2.block _ q0.lt).trans q0
      have x1 : Boxed w2 (w.heap.size + 1) 4 (.bool false) := (hb2.block _ q1.lt).trans q1
      have y0 := (x0.set (.slice p m c)).other (B' := w.heap.size + 1) (by omega) (.bool true)
      have y1 := (x1.other (B' := w.heap.size) (by omega) (.slice p m c)).set (.bool true)
      obtain ⟨w5, h5⟩ : ∃ w5, (w2.setCell ⟨w.heap.size, 0, none⟩ (.slice p m c)).setCell ⟨w.heap.size + 1, 0, none⟩ (.bool true) = w5 := ⟨_, rfl⟩
      have hz5 : w2.heap.size ≤ w5.heap.size := by rw [← h5]; exact Nat.le_trans g1.size g2.size
      have k5 : ∀ x, x < W.heap.size → x ≠ w.heap.size → x ≠ w.heap.size + 1 → w5.heap[x]? = W.heap[x]? := fun x hx n1 n2 => by
        rw [← h5]
        exact (g2.block x (Nat.lt_of_lt_of_le (Nat.lt_of_lt_of_le hx hz2) g1.size) (by simpa using n2)).trans ((g1.block x (Nat.lt_of_lt_of_le hx hz2) (by simpa using n1)).trans (hb2.block x hx))
      rw [h5] at y0 y1 ⊢
      have b5 : Below w.heap.size w w5 := by
        rw [← h5]
        exact ((hwW.trans ((Below.refl _ W).drew.trans (hb2.mono hsW))).setCell (p := ⟨w.heap.size, 0, none⟩) (Nat.le_refl _) _).setCell (p := ⟨w.heap.size + 1, 0, none⟩) (Nat.le_succ _) _
      clear g1 g2 h5
      have hD5 := (k5 D hDlt (by omega) (by omega)).trans hKd
      have gD := grownBy_putObj' w5 D (.deferred none)
      have z0 := y0.kept gD (by simp; omega)
      have z1 := y1.kept gD (by simp; omega)
      have k6 : ∀ x, x < W.heap.size → x ≠ w.heap.size → x ≠ w.heap.size + 1 → x ≠ D → (w5.putObj D (.deferred none)).heap[x]? = W.heap[x]? := fun x hx n1 n2 n3 => (World.putObj_heap_other n3).trans (k5 x hx n1 n2)
      have hz6 : W.heap.size ≤ (w5.putObj D (.deferred none)).heap.size := by rw [World.putObj_size]; omega
      have b6 : Below w.heap.size w (w5.putObj D (.deferred none)) := b5.trans (belowK_b (w := w) (Nat.le_refl _) w5 D _ _ (by omega) hD5 rfl rfl)
      have kc : ∀ (a : Addr) (v : Value), W.cell? a = some v → a.block < W.heap.size → w.heap.size + 1 < a.block → (w5.putObj D (.deferred none)).cell? a = some v := fun a v ha hl hg => (World.cell?_of_block (k6 a.block hl (by omega) (by omega) (cell_ne hKd ha))).trans ha
      refine ⟨hD5, fun tmps t1 t2 => results_c2 rfl tmps _ t1 t2 z0.cell z1.cell, b6, ⟨hcl.p, fun h0 => Nat.lt_of_lt_of_le (hcl.lt h0) hz6, fun i hi => ?_, fun i hi => ?_, fun i hi => ?_⟩, fun h0 => by have := hgl h0; omega, fun i hi => ?_⟩
      · have e1 := hgl (by omega)
        exact kc _ _ (hcl.a0 i hi) (hcl.lt (by omega)) (by show _ < g; omega)
      · have e1 := hgl (by omega)
        exact kc _ _ (hcl.a1 i hi) (hcl.lt (by omega)) (by show _ < g; omega)
      · have e1 := hgl (by omega)
        exact kc _ _ (hcl.a2 i hi) (hcl.lt (by omega)) (by show _ < g; omega)
      · have hN1 := HN.out
        obtain ⟨o1, o2, o3, o4⟩ := hL.ok (3 * i + 2) (by omega)
        have r3 : Rs (P (3 * i + 2)).gb (P (3 * i + 2)).o (P (3 * i + 2)).n (P (3 * i + 2)).f W := o3.below hBW
        have o5 : 0 < (P (3 * i + 2)).n → w.heap.size + 2 ≤ (P (3 * i + 2)).gb := fun h0 => by have := (o4 h0).1; simpa using this
        refine ⟨⟨o1, o2, fun h0 => Nat.lt_of_lt_of_le (r3.lt h0) hz6, fun j hj => ?_⟩, fun x hx => ?_, ((HP.out : Fx m P K G V) i hi).2.2.2⟩
        · have e1 := o5 (by omega)
          exact kc _ _ (r3.at_ j hj) (r3.lt (by omega)) (by show _ < (P (3 * i + 2)).gb; omega)
        · unfold gbl at hx
          by_cases h0 : (P (3 * i + 2)).n = 0
          · rw [if_pos h0] at hx
            cases hx
          · rw [if_neg h0] at hx
            have e1 := o5 (by omega)
            rw [List.mem_singleton.1 hx]
            omega
    clear hwW hsW hs1W hDlt hgl
    have hvc := hv.cell
    have q0c := q0.cell
    have q0f := q0.frozen
    have q1c := q1.cell
    have q1f := q1.frozen
    clear hrow hcl hG
    gi_wp2
    refine wpIn_qm (wpIn_wide.2 ?_)
    go_region_with (first | (go_at_call 44; refine (hbd.out _ (by first | exact Below.refl _ _ | exact (Below.refl _ _).drew)).mono ?_; rintro e w2 ⟨rfl, hb2⟩; have hvc2 := (hb2.cell (p := ⟨w1.heap.size, 0, none⟩) hv.lt).trans hvc; have q0c2 := (hb2.cell (p := ⟨w.heap.size, 0, none⟩) q0.lt).trans q0c; have q0f2 := (hb2.frozen (p := ⟨w.heap.size, 0, none⟩) q0.lt).trans q0f; have q1c2 := (hb2.cell (p := ⟨w.heap.size + 1, 0, none⟩) q1.lt).trans q1c; have q1f2 := (hb2.frozen (p := ⟨w.heap.size + 1, 0, none⟩) q1.lt).trans q1f) | fail)
    all_goals (
      simp only [Qm]
      have hf := fin.out w2 hb2
      gi_wp2
      exact ⟨by simp, .inl ⟨_, _, rfl, run_takeDeferred hf.1, _, hf.2.1 _ rfl rfl, p, g, c, P, rfl, hf.2.2⟩⟩)
  case stop =>
    rintro D c pre W _ _ h _
    exact h.elim
end Wi
end Rg
end Go.Proofs.YtmcpagjhpfbpgaaGreatDoor
end
section
namespace Go.Proofs.YtmcpagjhpfbpgaaGreatDoor
open Go.RowKit
namespace Rg
namespace Wi
set_option maxRecDepth 100000
set_option maxHeartbeats 1000000 in
theorem clos_any (bx : Nat) (Q : Nat → Prop) (g mv N : Nat) (B : ByteArray → Option (List Nat)) (p : Option Addr) (m c gl o : Nat) (C : Nat → Cq) (hm : m ≤ 64) (hN : N + m ≤ 4096) (w : World) (cb : w.cell? ⟨bx, 0, none⟩ = some (PT g 0)) (hbx : bx < w.heap.size ∧ bx ≠ mv) (c4 : w.cell? ⟨g, 4, none⟩ = some (.map (some mv))) (hg : g < w.heap.size ∧ g ≠ mv) (hl : Cl p gl o m C w) (hgl : gl ≠ mv) (hC : ∀ i, i < m → Pq (C i).q w ∧ mv ∉ gbl (C i).q ∧ (C i).q.n ≤ 8192 ∧ (C i).k.size ≤ 128) (hV : Vb Q w mv B N) (hmv : mv < w.heap.size) (hQ : ∀ b, w.heap.size ≤ b → Q b) :
    Calls Tryz.prog 58 #[.slice p m c, PT bx 0] w fun e w' => e = .returned (.bool true) ∧ Chg [mv] w w' ∧ Vb Q w' mv (bdo B C m) (N + m) := by
  have HD : Hid _ := do_any Q g mv N B p m c gl o C hm (by omega) w c4 hg hl hgl hC hV hmv hQ
  have HBX : Hid _ := hbx
  have HG : Hid _ := hg
  have HN : Hid _ := hN
  clear hC hV hQ hl hbx hg hN
  go_enter Tryz.func58, Tryz.ntmps58
  go_wp2_with (first
    | (go_at_call 48; refine Calls.mono HD.out ?_; rintro e w1 ⟨rfl, hc, hv⟩; have cb1 := (hc.cell (p := ⟨bx, 0, none⟩) HBX.out.1 (fun h => HBX.out.2 (List.mem_singleton.1 h))).trans cb; have c41 := (hc.cell (p := ⟨g, 4, none⟩) HG.out.1 (fun h => HG.out.2 (List.mem_singleton.1 h))).trans c4; have HC : Hid _ := hc; have HV : Hid _ := hv; clear hc hv)
    | fail)
  obtain ⟨V, M, v1, v2, v3, v4⟩ := HV.out
  have hM : ((M : Nat) : Int) ≤ 4096 := by have := HN.out; omega
  have H1 : Hid _ := v1
  clear v1 v2 v3 v4
  rw [Vm.len H1.out, Result.andThen_ok]
  go_wp2
  go_ret
  exact ⟨rfl, HC.out, HV.out⟩
/-- What changes make of the values. -/
def cput (B : ByteArray → Option (List Nat)) (c : Ch) : ByteArray → Option (List Nat) := fun s => if s = c.k then (if c.gn then none else some c.v) else B s
def cdo (B : ByteArray → Option (List Nat)) (l : List Ch) : ByteArray → Option (List Nat) := l.foldl cput B
theorem bdo_cdo (B : ByteArray → Option (List Nat)) (C : Nat → Cq) : ∀ m, bdo B C m = cdo B (chl C m)
  | 0 => rfl
  | m + 1 => by
    rw [chl_snoc]
    unfold cdo
    rw [List.foldl_append]
    show bdo B C (m + 1) = cput (cdo B (chl C m)) (C m).ch
    rw [← bdo_cdo B C m]
    rfl
theorem rbatch_ch (q : Pt8) (l : List Ch) (hl : l.length ≤ 64) (hok : ∀ c ∈ l, c.ok) (hn : q.n ≤ 1048576) (hb : bs q.n q.f = rc l) (w : World) (hq : Pok q ∧ q.rs w) :
    Calls Tryz.prog 122 #[.slice q.p q.n q.cp] w fun e w' => ∃ (p : Option Addr) (g c : Nat) (C : Nat → Cq), e = .returned (.tuple #[.slice p l.length c, .bool true]) ∧ Below w.heap.size w w' ∧ Cl p g 0 l.length C w' ∧ (0 < l.length → w.heap.size ≤ g) ∧ chl C l.length = l ∧ ∀ i, i < l.length → Pq (C i).q w' ∧ (∀ x ∈ gbl (C i).q, w.heap.size ≤ x) ∧ (C i).q.n ≤ 8192 ∧ (C i).k.size ≤ 128 := by
  have hk : ∀ k, k < l.length → (l.getD k ch0).ok := fun k hk => by
    rw [List.getD_eq_getElem?_getD, List.getElem?_eq_getElem hk]
    exact hok _ (List.getElem_mem hk)
  refine (rbatch_q q l.length _ (l.flatMap Ch.fs) rfl (fs_len l) hl hn hb (fun k => (l.getD k ch0).k) (fun k => (l.getD k ch0).gn) (fun k => (l.getD k ch0).v) (fun k h => ⟨(hk k h).1, (hk k h).2.1, (hk k h).2.2.1, (hk k h).2.2.2⟩) (fun k h => fs_at l k h) w hq).mono ?_
  rintro e w' ⟨p, g, c, P, rfl, h1, h2, h3, h4⟩
  refine ⟨p, g, c, _, rfl, h1, h2, h3, ?_, fun i hi => ⟨(h4 i hi).1, (h4 i hi).2.1, ?_, (hk i hi).2.1⟩⟩
  · refine List.ext_getElem? fun i => ?_
    by_cases h : i < l.length
    · unfold chl
      rw [List.getElem?_map, List.getElem?_range h]
      have e1 : l[i]? = some (l.getD i ch0) := by rw [List.getD_eq_getElem?_getD, List.getElem?_eq_getElem h]; rfl
      rw [e1]
      show some (Cq.ch _) = _
      unfold Cq.ch cqs
      dsimp only
      rw [(h4 i h).2.2]
    · rw [List.getElem?_eq_none (by rw [chl_len]; omega), List.getElem?_eq_none (by omega)]
  · have e1 : (P (3 * i + 2)).n = (l.getD i ch0).v.length := by have := congrArg List.length (h4 i hi).2.2; rwa [bs_len] at this
    show (P (3 * i + 2)).n ≤ 8192
    rw [e1]
    exact (hk i hi).2.2.1
theorem own_set2 {u : World} {g d n : Nat} {x : Value} {P : Nat → Nat} (h : u.ownsRow 0 5 1 x n (ints .u8 P n)) (c0 : u.cell? ⟨g, 0, none⟩ = some (PT d 0)) (v : Value) : (u.setCell ⟨g, 2, none⟩ v).ownsRow 0 5 1 x n (ints .u8 P n) := by
  rcases h.2 with ⟨h1, h2⟩ | ⟨b, cap, cur, h1, h2, h3, h4, h5, h6, h7⟩
  · exact ⟨h.1, .inl ⟨h1, h2⟩⟩
  · by_cases e : b = g
    · subst e
      by_cases hn : n = 0
      · subst hn
        refine ⟨h.1, .inr ⟨b, cap, cur.setIfInBounds 2 v, h1, h2, ?_, h4, h5, ?_, ?_⟩⟩
        · simp [World.setCell, Array.getElem?_modify, h3]
        · simp [h6]
        · simp [ints]
      · exfalso
        have h' := h
        rw [h1] at h'
        have e1 := h'.cellAt 0 (by omega)
        rw [c0] at e1
        have e2 : (ints .u8 P n)[0]? = some (.int .u8 (P 0)) := by
          unfold ints
          rw [List.getElem?_map, List.getElem?_range (by omega)]
          rfl
        rw [e2] at e1
        cases e1
    · refine own_keep h fun y hy => Below.heap_setCell _ _ _ _ fun hg => e ?_
      rw [h1] at hy
      have : y = b := by simpa [vbl, Value.ownBlock] using hy
      rw [← this, hg]
section
variable {w0 u u' : World} {d g mv N : Nat} {A A' : Ad} {base : ByteArray} {G : Int} {B : ByteArray → Option (List Nat)} {O L : List Nat}
/-- The log's place is written. -/
theorem Sy.put2 (h : Sy w0 d A g mv base G B N O L u) (v : Value) : Sy w0 d A g mv base G B N O L (u.setCell ⟨g, 2, none⟩ v) ∧ Kx L u (u.setCell ⟨g, 2, none⟩ v) := by
  have hc : Chg [g] u (u.setCell ⟨g, 2, none⟩ v) := put_chg g 2 [v]
  have hmg : mv ∉ [g] := fun e => h.gm (List.mem_singleton.1 e).symm
  have hk : ∀ k, k ≠ 2 → (u.setCell ⟨g, 2, none⟩ v).cell? ⟨g, k, none⟩ = u.cell? ⟨g, k, none⟩ := fun k hk => World.cell?_setCell_other _ _ _ _ (by intro e; cases e; omega)
  have hm : (u.setCell ⟨g, 2, none⟩ v).heap[mv]? = u.heap[mv]? := hc.block mv h.vb.lt hmg
  obtain ⟨V, M, v1, v2, v3, v4⟩ := h.vb
  refine ⟨⟨h.da.chg hc (fun x hx => by rw [List.mem_singleton.1 hx]; exact List.mem_append_left _ h.og) (fun x hx => by rw [List.mem_singleton.1 hx]; exact h.lo _ h.og), (hk 0 (by omega)).trans h.c0, (hk 1 (by omega)).trans h.c1, (hk 3 (by omega)).trans h.c3, (hk 4 (by omega)).trans h.c4, fun k => ?_, ?_, h.lo, h.og, h.om, h.gm, h.ap⟩, hc.kx (fun x hx => h.da.lt (List.mem_append_right _ hx)) (fun x hx hm => h.ap g h.og (by rw [← List.mem_singleton.1 hm]; exact hx))⟩
  · rw [World.frozen?_setCell]
    exact h.fz k
  · obtain ⟨X, x1, x2⟩ := v1.mp
    exact ⟨V, M, ⟨⟨X, ownMap_keep x1 hm, x2⟩, fun t y hy => own_set2 (v1.ow t y hy) h.c0 v, v1.nb⟩, v2, v3, v4⟩
end
end Wi
end Rg
end Go.Proofs.YtmcpagjhpfbpgaaGreatDoor
end
section
namespace Go.Proofs.YtmcpagjhpfbpgaaGreatDoor
open Go.RowKit
namespace Rg
namespace Wi
set_option maxRecDepth 100000
/-- Where the reading of a log is: i batches are done. -/
def Il (w0 : World) (d : Nat) (A : Ad) (g mv : Nat) (base : ByteArray) (G : Int) (B : ByteArray → Option (List Nat)) (N : Nat) (rs : List (List Ch)) (LL : List Nat) (u1 : World) (i : Nat) (wr : World) : Prop :=
  ∃ O, Sy w0 d A g mv base G ((rs.take i).foldl cdo B) (N + 64 * i) O LL wr ∧ Kx LL u1 wr ∧ wr.cell? ⟨g, 2, none⟩ = some (.pointer none)
section
variable {w0 u u1 wr : World} {d g mv N : Nat} {A A' : Ad} {base : ByteArray} {G : Int} {B : ByteArray → Option (List Nat)} {O L LL : List Nat} {rs : List (List Ch)}
theorem Kx.pt {q : Pt8} (hk : Kx LL u1 wr) (hq : q.rs u1) (hg : 0 < q.n → q.gb ∈ LL) : q.rs wr :=
  ⟨fun h0 => Nat.lt_of_lt_of_le (hq.lt h0) hk.1, fun i hi => (World.cell?_of_block (a := ⟨q.gb, q.o + i, none⟩) (hk.2 _ (hg (by omega)))).trans (hq.at_ i hi)⟩
theorem Il.batch {i : Nat} (h : Il w0 d A g mv base G B N rs LL u1 i wr) (hi : i < rs.length) (bx : Nat) (hbx : bx ∈ LL) (cb : u1.cell? ⟨bx, 0, none⟩ = some (PT g 0)) (hok : ∀ l ∈ rs, l.length ≤ 64 ∧ ∀ c ∈ l, c.ok) (hN : N + 64 * rs.length ≤ 4096)
    (q : Pt8) (hq : Pok q ∧ q.rs u1) (hg : 0 < q.n → q.gb ∈ LL) (hn : q.n ≤ 1048576) (hb : bs q.n q.f = rc (rs.getD i [])) :
    Calls Tryz.prog 122 #[.slice q.p q.n q.cp] wr fun e w2 => ∃ (p : Option Addr) (m c : Nat), e = .returned (.tuple #[.slice p m c, .bool true]) ∧
      Calls Tryz.prog 58 #[.slice p m c, PT bx 0] w2 fun e w3 => e = .returned (.bool true) ∧ Il w0 d A g mv base G B N rs LL u1 (i + 1) w3 := by
  obtain ⟨O, h1, h2, h3⟩ := h
  have hmem : rs.getD i [] ∈ rs := by
    rw [List.getD_eq_getElem?_getD, List.getElem?_eq_getElem hi]
    exact List.getElem_mem hi
  obtain ⟨l1, l2⟩ := hok _ hmem
  refine (rbatch_ch q (rs.getD i []) l1 l2 hn hb wr ⟨hq.1, Kx.pt h2 hq.2 hg⟩).mono ?_
  rintro e w2 ⟨p, g', c, C, rfl, b1, b2, b3, b4, b5⟩
  obtain ⟨s1, s2⟩ := h1.below b1
  have hmw : mv < wr.heap.size := h1.vb.lt
  have hbl : bx < wr.heap.size := h1.da.lt (List.mem_append_right _ hbx)
  have cb2 : w2.cell? ⟨bx, 0, none⟩ = some (PT g 0) := (b1.cell (p := ⟨bx, 0, none⟩) hbl).trans ((World.cell?_of_block (a := ⟨bx, 0, none⟩) (h2.2 _ hbx)).trans cb)
  have c22 : w2.cell? ⟨g, 2, none⟩ = some (.pointer none) := (b1.cell (p := ⟨g, 2, none⟩) h1.gl).trans h3
  obtain ⟨gl, hcl, hgl⟩ : ∃ gl, Cl p gl 0 (rs.getD i []).length C w2 ∧ gl ≠ mv := by
    by_cases h0 : (rs.getD i []).length = 0
    · rw [h0]
      exact ⟨mv + 1, ⟨fun h => absurd h (Nat.lt_irrefl _), fun h => absurd h (Nat.lt_irrefl _), fun i hi => absurd hi (Nat.not_lt_zero _), fun i hi => absurd hi (Nat.not_lt_zero _), fun i hi => absurd hi (Nat.not_lt_zero _)⟩, by omega⟩
    · have := b3 (by omega)
      exact ⟨g', b2, by omega⟩
  refine ⟨p, _, c, rfl, (clos_any bx (fun b => b ∈ O ∨ w2.heap.size ≤ b) g mv (N + 64 * i) _ p _ c gl 0 C l1 (by omega) w2 cb2 ⟨Nat.lt_of_lt_of_le hbl b1.size, fun e => s1.ap mv s1.om (by rw [← e]; exact hbx)⟩ s1.c4 ⟨s1.gl, s1.gm⟩ hcl hgl
    (fun k hk => ⟨(b5 k hk).1, fun hx => by have := (b5 k hk).2.1 mv hx; omega, (b5 k hk).2.2.1, (b5 k hk).2.2.2⟩) (s1.vb.wide fun b hb => .inl hb) s1.vb.lt (fun b hb => .inr hb)).mono ?_⟩
  rintro e w3 ⟨rfl, e2, e3⟩
  obtain ⟨⟨O', f1⟩, f2⟩ := s1.did e2 e3
  refine ⟨rfl, O', ?_, Kx.trans (Kx.trans h2 s2) f2, (e2.cell (p := ⟨g, 2, none⟩) s1.gl (fun e => s1.gm (List.mem_singleton.1 e))).trans c22⟩
  have e4 : (rs.take (i + 1)).foldl cdo B = bdo ((rs.take i).foldl cdo B) C (rs.getD i []).length := by
    rw [bdo_cdo, b4, List.take_add_one, List.getElem?_eq_getElem hi, List.foldl_append, List.getD_eq_getElem?_getD, List.getElem?_eq_getElem hi]
    rfl
  rw [e4]
  exact f1.mono (by omega)
def gbs (P : Nat → Pt8) (n : Nat) : List Nat := (List.range n).flatMap fun i => gbl (P i)
/-- A log that is open, none of its batches done yet. -/
structure Lo (w0 : World) (d : Nat) (A : Ad) (g mv : Nat) (base : ByteArray) (G : Int) (B : ByteArray → Option (List Nat)) (N : Nat) (s : ByteArray) (rs : List (List Ch)) (L LL : List Nat) (j b : Nat) (p : Option Addr) (P : Nat → Pt8) (u1 : World) : Prop where
  il : Il w0 d A g mv base G B N rs LL u1 0 u1
  hp : 0 < rs.length → p = some ⟨b, 0, none⟩ ∧ b ∈ LL
  ce : ∀ i, i < rs.length → u1.cell? ⟨b, i, none⟩ = some (.slice (P i).p (P i).n (P i).cp)
  pt : ∀ i, i < rs.length → (Pok (P i) ∧ (P i).rs u1) ∧ (0 < (P i).n → (P i).gb ∈ LL) ∧ (P i).n ≤ 1048576 ∧ bs (P i).n (P i).f = rc (rs.getD i [])
  mj : ∃ z, z ≤ 1048576 ∧ Mm u1 [(j, jc d s rs.length z)]
  jl : j ∈ LL
  sb : ∀ x ∈ L, x ∈ LL
  lo : w0.heap.size ≤ j ∧ j ∉ L
theorem jopen_lo (h : Sy w0 d A g mv base G B N O L u) (c2 : u.cell? ⟨g, 2, none⟩ = some (.pointer none)) (s : ByteArray) (hs : s.size ≤ 281474976710656) (hn : nmd s = true) (hr : ∀ l ∈ rs, (rc l).length ≤ 65536) (hct : A.ct s = fl (rs.map rc)) (hN : (fl (rs.map rc)).length ≤ 1048576) :
    Calls Tryz.prog 111 #[PT d 0, .string s] u fun e u1 => ∃ (j b c : Nat) (p : Option Addr) (P : Nat → Pt8) (LL : List Nat), e = .returned (.tuple #[PT j 0, .slice p rs.length c, .int .i64 0]) ∧ Lo w0 d A g mv base G B N s rs L LL j b p P u1 ∧ Below u.heap.size u u1 := by
  refine (jopen_a h.da s hs hn (rs.map rc) (fun r hr' => by obtain ⟨l, h1, rfl⟩ := List.mem_map.1 hr'; exact hr l h1) hct hN).mono ?_
  rintro e u1 ⟨j, v, P, BB, rfl, h1, h2, h3, h4, h5, h6⟩
  rw [List.length_map] at h1 h3 h6
  obtain ⟨p, c, rfl, hpc⟩ := own_slice h3.own
  have hvl : ∀ x ∈ vbl (.slice p rs.length c), u.heap.size ≤ x ∧ x < u1.heap.size := fun x hx => ⟨by have := h3.lo x hx; omega, own_lt h3.own x hx⟩
  have hgl : ∀ x ∈ gbs P rs.length, u.heap.size ≤ x ∧ x < u1.heap.size := fun x hx => by
    obtain ⟨i, h7, h8⟩ := List.mem_flatMap.1 hx
    have hi := List.mem_range.1 h7
    obtain ⟨o1, o2, o3, o4⟩ := h3.ok i hi
    unfold gbl at h8
    by_cases h0 : (P i).n = 0
    · rw [if_pos h0] at h8; cases h8
    · rw [if_neg h0] at h8
      rw [List.mem_singleton.1 h8]
      exact ⟨by have := o4 (by omega); omega, o3.lt (by omega)⟩
  have hj1 : j < u1.heap.size := (h1.blk _ (List.mem_cons_self ..)).1
  have hs1 := h.add h2 (M := j :: (vbl (.slice p rs.length c) ++ gbs P rs.length)) (fun x hx => by
    rcases List.mem_cons.1 hx with e | hx
    · rw [e]; exact ⟨h4, hj1⟩
    · rcases List.mem_append.1 hx with e | e
      · exact hvl x e
      · exact hgl x e)
  have hL : ∀ x ∈ L, x < u.heap.size := fun x hx => h.da.lt (List.mem_append_right _ hx)
  obtain ⟨b, hb1, hb2⟩ : ∃ b, (0 < rs.length → p = some ⟨b, 0, none⟩ ∧ b ∈ vbl (.slice p rs.length c)) ∧ ∀ i, i < rs.length → u1.cell? ⟨b, i, none⟩ = some (.slice (P i).p (P i).n (P i).cp) := by
    rcases h3.own.2 with ⟨k1, k2⟩ | ⟨b, cap, cur, k1, _⟩
    · exact ⟨0, fun h0 => by omega, fun i hi => by omega⟩
    · cases k1
      exact ⟨b, fun _ => ⟨rfl, by simp [vbl, Value.ownBlock]⟩, fun i hi => by rw [h3.own.cellAt i (by omega), pcs_get P hi]⟩
  refine ⟨j, b, c, p, P, _, rfl, ⟨⟨O, by simpa using hs1, Kx.refl _ _, (h2.cell (p := ⟨g, 2, none⟩) h.gl).trans c2⟩, fun h0 => ⟨(hb1 h0).1, List.mem_append_left _ (List.mem_cons_of_mem _ (List.mem_append_left _ (hb1 h0).2))⟩, hb2, fun i hi => ?_, ⟨_, hN, h1⟩, List.mem_append_left _ (List.mem_cons_self ..), fun x hx => List.mem_append_right _ hx, Nat.le_trans h.da.b.size h4, fun hj => by have := hL j hj; omega⟩, h2⟩
  obtain ⟨o1, o2, o3, o4⟩ := h3.ok i hi
  have e1 : bs (P i).n (P i).f = rc (rs.getD i []) := by
    rw [h6 i hi, List.getD_eq_getElem?_getD, List.getD_eq_getElem?_getD, List.getElem?_map, List.getElem?_eq_getElem hi]
    rfl
  refine ⟨⟨o1, o3⟩, fun h0 => List.mem_append_left _ (List.mem_cons_of_mem _ (List.mem_append_right _ (List.mem_flatMap.2 ⟨i, List.mem_range.2 hi, by unfold gbl; rw [if_neg (by omega)]; exact List.mem_singleton.2 rfl⟩))), ?_, e1⟩
  have e2 : (P i).n = (rc (rs.getD i [])).length := by have := congrArg List.length e1; rwa [bs_len] at this
  have e3 := hr (rs.getD i []) (by rw [List.getD_eq_getElem?_getD, List.getElem?_eq_getElem hi]; exact List.getElem_mem hi)
  omega
set_option maxHeartbeats 4000000 in
theorem rlog_any (h : Sy w0 d A g mv base G B N O L u) (c2 : u.cell? ⟨g, 2, none⟩ = some (.pointer none)) (bx : Nat) (hbx : bx ∈ L) (cb : u.cell? ⟨bx, 0, none⟩ = some (PT g 0)) (s : ByteArray) (hs : s.size ≤ 281474976710656) (hn : nmd s = true)
    (hlog : ∀ v, v.cell? ⟨g, 1, none⟩ = some (.string base) → Calls Tryz.prog 53 #[PT g 0, .int .i64 G] v fun e v' => e = .returned (.string s) ∧ Below v.heap.size v v')
    (hr : ∀ l ∈ rs, l.length ≤ 64 ∧ (∀ c ∈ l, c.ok) ∧ (rc l).length ≤ 65536) (hct : A.ct s = fl (rs.map rc)) (hN : (fl (rs.map rc)).length ≤ 1048576) (hNN : N + 64 * rs.length ≤ 4096) :
    Calls Tryz.prog 60 #[PT g 0, .func (.func 58) #[] #[.pointer (some ⟨bx, 0, none⟩)]] u fun e u' => e = .returned (.int .i64 0) ∧ u'.cell? ⟨bx, 0, none⟩ = some (PT g 0) ∧ ∃ j, So w0 d A g j mv base s G 1048576 (rs.foldl cdo B) (N + 64 * rs.length) L u' := by
  have HJ : Hid (∀ v, Below u.heap.size u v → Calls Tryz.prog 111 #[PT d 0, .string s] v fun e u1 => ∃ (j b c : Nat) (p : Option Addr) (P : Nat → Pt8) (LL : List Nat), e = .returned (.tuple #[PT j 0, .slice p rs.length c, .int .i64 0]) ∧ Lo w0 d A g mv base G B N s rs L LL j b p P u1 ∧ u1.cell? ⟨bx, 0, none⟩ = some (PT g 0)) := fun v hv => by
    obtain ⟨s1, s2⟩ := h.below hv
    refine (jopen_lo s1 ((hv.cell (p := ⟨g, 2, none⟩) h.gl).trans c2) s hs hn (fun l hl => (hr l hl).2.2) hct hN).mono ?_
    rintro e u1 ⟨j, b, c, p, P, LL, rfl, h1, h2⟩
    have hb := h.da.lt (List.mem_append_right O hbx)
    exact ⟨j, b, c, p, P, LL, rfl, h1, (h2.cell (p := ⟨bx, 0, none⟩) (Nat.lt_of_lt_of_le hb hv.size)).trans ((hv.cell (p := ⟨bx, 0, none⟩) hb).trans cb)⟩
  have HLG : Hid _ := hlog
  have c0 := h.c0
  have c1 := h.c1
  have c3 := h.c3
  have c0d : u.drew.cell? ⟨g, 0, none⟩ = some (PT d 0) := c0
  have c1d : u.drew.cell? ⟨g, 1, none⟩ = some (.string base) := c1
  have HB : Hid (Below u.heap.size u u.drew) := (Below.refl _ u).drew
  have HG : Hid (g < u.heap.size) := h.gl
  have hrl : rs.length ≤ 64 := by omega
  have HR : Hid _ := hr
  have HN : Hid _ := hNN
  have HX : Hid _ := hbx
  clear h hlog hr hct hN hNN hn hs hbx c2 cb
  go_enter Tryz.func60, Tryz.ntmps60
  go_wp2
  go_region_with (first
    | (go_at_call 53; refine Calls.mono (HLG.out u.drew c1d) ?_; rintro e w1 ⟨rfl, hb1⟩; have c01 := (hb1.cell (p := ⟨g, 0, none⟩) HG.out).trans c0d; have HB1 : Hid (Below u.heap.size u w1) := HB.out.trans hb1)
    | (go_at_call 111; refine Calls.mono (HJ.out w1 HB1.out) ?_; rintro e u1 ⟨j, b, c, p, P, LL, rfl, hl, hcb⟩; have HLo : Hid _ := hl; have HCB : Hid _ := hcb; clear hl hcb)
    | fail)
  all_goals go_wp2
  all_goals (
    go_loopw [32] (fun v wr => ∃ i : Nat, v = .int .i64 (i : Int) ∧ i ≤ rs.length ∧ Hid (Il w0 d A g mv base G B N rs LL u1 i wr))
      (fun v _ => rs.length - (RowKit.intOf v).toNat)
    case atStart => exact ⟨0, rfl, Nat.zero_le _, HLo.out.il⟩
    case round =>
      obtain ⟨i, rfl, hi, hI⟩ := hrel
      by_cases hlt : i < rs.length
      · obtain ⟨hp, hbl⟩ := HLo.out.hp (by omega)
        have hci : wr.cell? ⟨b, i, none⟩ = some (.slice (P i).p (P i).n (P i).cp) := by
          obtain ⟨O2, s1, s2, s3⟩ := hI.out
          exact (World.cell?_of_block (a := ⟨b, i, none⟩) (s2.2 b hbl)).trans (HLo.out.ce i hlt)
        have HB2 : Hid _ := Il.batch hI.out hlt bx (HLo.out.sb bx HX.out) HCB.out (fun l hl => ⟨(HR.out l hl).1, (HR.out l hl).2.1⟩) HN.out (P i) (HLo.out.pt i hlt).1 (HLo.out.pt i hlt).2.1 (HLo.out.pt i hlt).2.2.1 (HLo.out.pt i hlt).2.2.2
        clear hbl
        rw [hp]
        clear hp
        go_wp2_with (first
          | (go_at_call 122; refine Calls.mono HB2.out ?_; rintro e w2 ⟨p2, m2, c2, rfl, h58⟩; have H58 : Hid _ := h58; clear h58)
          | (go_at_call 58; refine Calls.mono H58.out ?_; rintro e w3 ⟨rfl, hI3⟩; have HI3 : Hid _ := hI3; clear hI3)
          | fail)
        go_roundw
        case rel => exact ⟨i + 1, by simp, by omega, HI3.out⟩
        case measure => simp [RowKit.intOf]; omega
      · obtain ⟨O2, s1, s2, s3⟩ := hI.out
        have hf := s1.fz 2
        have hz : ¬((i : Int) < (rs.length : Int)) := by omega
        have S1 : Hid _ := s1
        have S2 : Hid (Kx LL u1 wr) := s2
        have HI : Hid (i = rs.length) := (by omega : i = rs.length)
        clear s1 s2 hI hi hlt
        go_wp2
        go_ret
        have hl := HLo.out
        have s1' := S1.out
        rw [HI.out, List.take_length] at s1'
        obtain ⟨t1, t2⟩ := s1'.put2 (PT j 0)
        have k2 := Kx.trans S2.out t2
        obtain ⟨z, z1, z2⟩ := hl.mj
        exact ⟨rfl, (World.cell?_of_block (a := ⟨bx, 0, none⟩) (k2.2 _ (hl.sb bx HX.out))).trans HCB.out, j, ⟨O2, t1.sub fun x hx => by
          rcases List.mem_cons.1 hx with e | e
          · rw [e]; exact hl.jl
          · exact hl.sb x e⟩, World.cell?_setCell_same _ _ _ s3, ⟨_, z, by have := HN.out; omega, z1, Mm.keep1 z2 k2.1 (k2.2 j hl.jl)⟩, hl.lo.1, hl.lo.2⟩)
end
end Wi
end Rg
end Go.Proofs.YtmcpagjhpfbpgaaGreatDoor
end
section
namespace Go.Proofs.YtmcpagjhpfbpgaaGreatDoor
open Go.RowKit
namespace Rg
namespace Wi
set_option maxRecDepth 100000
abbrev nlog (base : ByteArray) (n : Nat) : ByteArray := base ++ ⟨#[46, 108, 111, 103, 46]⟩ ++ ⟨(dig n).toArray⟩
section
variable {w0 u u1 wr : World} {d g mv N : Nat} {A A' : Ad} {base : ByteArray} {G : Int} {B : ByteArray → Option (List Nat)} {O L LL : List Nat} {rs : List (List Ch)}
/-- A store as Open lays it. -/
theorem sy_opw (h : Da w0 d A L u) (hL : ∀ x ∈ L, x < u.heap.size) (base : ByteArray) :
    Sy w0 d A (u.heap.size + 1) u.heap.size base 0 (fun _ => none) 0 [u.heap.size, u.heap.size + 1] ((u.heap.size + 1 + 1) :: L) (opw u d base) ∧ (opw u d base).cell? ⟨u.heap.size + 1, 2, none⟩ = some (.pointer none) ∧ (opw u d base).cell? ⟨u.heap.size + 1 + 1, 0, none⟩ = some (PT (u.heap.size + 1) 0) := by
  obtain ⟨u1, hu1⟩ : ∃ u1, u.alloc (.map #[] 0) = u1 := ⟨_, rfl⟩
  have z1 : u1.heap.size = u.heap.size + 1 := by rw [← hu1]; simp
  have b1 : Below u.heap.size u u1 := by rw [← hu1]; exact (Below.refl _ u).alloc (Nat.le_refl _) _
  have v1 : Vm u1 u.heap.size (fun _ => none) 0 := by rw [← hu1]; exact Vm.start u
  obtain ⟨u2, hu2⟩ : ∃ u2, u1.alloc (.cells #[PT d 0, .string base, .pointer none, .int .i64 0, .map (some u.heap.size)] 48) = u2 := ⟨_, rfl⟩
  have z2 : u2.heap.size = u.heap.size + 1 + 1 := by rw [← hu2]; simp [z1]
  have b2 : Below u1.heap.size u1 u2 := by rw [← hu2]; exact (Below.refl _ u1).alloc (Nat.le_refl _) _
  have c2 : ∀ i v, (#[PT d 0, .string base, .pointer none, .int .i64 0, .map (some u.heap.size)] : Array Value)[i]? = some v → u2.cell? ⟨u.heap.size + 1, i, none⟩ = some v := fun i v hi => by
    rw [← hu2, ← z1]
    exact al_new u1 _ 48 i v hi
  have f2 : ∀ i, u2.frozen? ⟨u.heap.size + 1, i, none⟩ = false := fun i => by
    rw [← hu2, ← z1]
    exact World.frozen?_alloc_new ..
  obtain ⟨u3, hu3⟩ : ∃ u3, u2.alloc (.cells #[PT (u.heap.size + 1) 0] 33) = u3 := ⟨_, rfl⟩
  have z3 : u3.heap.size = u.heap.size + 3 := by rw [← hu3]; simp [z2]
  have b3 : Below u2.heap.size u2 u3 := by rw [← hu3]; exact (Below.refl _ u2).alloc (Nat.le_refl _) _
  have c3 : u3.cell? ⟨u.heap.size + 1 + 1, 0, none⟩ = some (PT (u.heap.size + 1) 0) := by
    rw [← hu3, ← z2]
    exact al_new u2 #[PT (u.heap.size + 1) 0] 33 0 _ rfl
  have e3 : opw u d base = u3 := by
    unfold opw
    rw [hu1, hu2, hu3]
  rw [e3]
  have b03 : Below u.heap.size u u3 := (b1.trans (b2.mono (by omega))).trans (b3.mono (by omega))
  have k3 : ∀ i v, (#[PT d 0, .string base, .pointer none, .int .i64 0, .map (some u.heap.size)] : Array Value)[i]? = some v → u3.cell? ⟨u.heap.size + 1, i, none⟩ = some v := fun i v hi =>
    (b3.cell (p := ⟨u.heap.size + 1, i, none⟩) (by show u.heap.size + 1 < _; omega)).trans (c2 i v hi)
  refine ⟨⟨(h.add b03 (M := [u.heap.size, u.heap.size + 1, u.heap.size + 1 + 1]) (fun x hx => ?_)).sub fun x hx => ?_, k3 0 _ rfl, k3 1 _ rfl, k3 3 _ rfl, k3 4 _ rfl, fun i => (b3.frozen (p := ⟨u.heap.size + 1, i, none⟩) (by show u.heap.size + 1 < _; omega)).trans (f2 i), ⟨_, 0, (v1.below b2).below b3, Nat.le_refl _, fun _ => rfl, fun s x hx => by cases hx⟩, fun x hx => ?_, by simp, by simp, by omega, fun x hx hm => ?_⟩, k3 2 _ rfl, c3⟩
  · simp only [List.mem_cons, List.not_mem_nil, or_false] at hx
    omega
  · simp only [List.mem_append, List.mem_cons, List.not_mem_nil, or_false] at hx ⊢
    rcases hx with e | e | e
    · rcases e with e | e
      · exact .inl (.inl e)
      · exact .inl (.inr (.inl e))
    · exact .inl (.inr (.inr e))
    · exact .inr e
  · simp only [List.mem_cons, List.not_mem_nil, or_false] at hx
    have := h.b.size
    omega
  · simp only [List.mem_cons, List.not_mem_nil, or_false] at hx hm
    rcases hm with e | e
    · omega
    · have := hL x e
      omega
/-- Open, no checkpoint there. -/
theorem sopen_new (h : Da w0 d A L u) (base : ByteArray) (hs : base.size ≤ 40) (hb : nmd base = true) (hn : nmd (nlog base 0) = true) (hsn : A.lk (nsnap base) = none)
    (hr : ∀ l ∈ rs, l.length ≤ 64 ∧ (∀ c ∈ l, c.ok) ∧ (rc l).length ≤ 65536) (hct : A.ct (nlog base 0) = fl (rs.map rc)) (hN : (fl (rs.map rc)).length ≤ 1048576) (hNN : 64 * rs.length ≤ 4096) :
    Calls Tryz.prog 19 #[PT d 0, .string base] u fun e u' => ∃ g j mv, e = .returned (.tuple #[PT g 0, .int .i64 0]) ∧ So w0 d A g j mv base (nlog base 0) 0 1048576 (rs.foldl cdo fun _ => none) (64 * rs.length) L u' := by
  have hnl : (nlog base 0).size ≤ 281474976710656 := by
    have e : (nlog base 0).size = base.size + 5 + 1 := by
      show (base ++ _ ++ _).size = _
      rw [ByteArray.size_append, ByteArray.size_append]
      rfl
    omega
  refine (sopen_ok d base hs (fun n u' => ∃ O, Sy w0 d A (n + 1) n base 0 (fun _ => none) 0 O ((n + 1 + 1) :: L) u' ∧ u'.cell? ⟨n + 1, 2, none⟩ = some (.pointer none) ∧ u'.cell? ⟨n + 1 + 1, 0, none⟩ = some (PT (n + 1) 0))
    (fun n u' => ∃ j, So w0 d A (n + 1) j n base (nlog base 0) 0 1048576 (rs.foldl cdo fun _ => none) (64 * rs.length) L u') u (working_any h) (fun v _ => by have := snamed_ok base hs v; rwa [hb] at this) (fun v hv => ?_) (fun n v hi => ?_)).mono ?_
  · have hd := h.step hv
    obtain ⟨s1, s2, s3⟩ := sy_opw hd (fun x hx => hd.lt hx) base
    refine (rchk_none base hs _ s1.da s1.c0 s1.c1 hsn).mono ?_
    rintro e v' ⟨rfl, hb'⟩
    have hx3 : v.heap.size + 1 + 1 < (opw v d base).heap.size := s1.da.lt (List.mem_append_right _ (List.mem_cons_self ..))
    have c3 := (hb'.cell (p := ⟨v.heap.size + 1 + 1, 0, none⟩) hx3).trans s3
    exact ⟨rfl, c3, _, (s1.below hb').1, (hb'.cell (p := ⟨v.heap.size + 1, 2, none⟩) s1.gl).trans s2, c3⟩
  · obtain ⟨O, s1, s2, s3⟩ := hi
    refine (rlog_any s1 s2 (n + 1 + 1) (List.mem_cons_self ..) s3 (nlog base 0) hnl hn (fun v hv => log_any (n + 1) 0 (by omega) base hs v hv) hr hct hN (by omega)).mono ?_
    rintro e v' ⟨rfl, e2, j, t1, t2, t3, t4, t5⟩
    refine ⟨rfl, e2, j, ?_, t2, t3, t4, fun hm => t5 (List.mem_cons_of_mem _ hm)⟩
    obtain ⟨O', t1⟩ := t1
    refine ⟨O', (t1.sub fun x hx => ?_).mono (by omega)⟩
    rcases List.mem_cons.1 hx with e | e
    · exact List.mem_cons.2 (.inl e)
    · exact List.mem_cons_of_mem _ (List.mem_cons_of_mem _ e)
  · rintro e v' ⟨n, rfl, j, hh⟩
    exact ⟨n + 1, j, n, rfl, hh⟩
end
end Wi
end Rg
end Go.Proofs.YtmcpagjhpfbpgaaGreatDoor
end
section
namespace Go.Proofs.YtmcpagjhpfbpgaaGreatDoor
open Go.RowKit
namespace Rg
namespace Wi
set_option maxRecDepth 100000
open Go.Shelf Go.Maps Go.Sort
attribute [local go_sem] Oper.semAt_some
theorem maps_Keys_117 (mb : Option Nat) (W : World) : CallsIn Fence.wide 5 Tryz.prog 117 #[.map mb] W fun e w' => e = .returned (.func (.func 152) #[] #[.pointer (some ⟨W.heap.size, 0, none⟩)]) ∧ w' = W.alloc (.cells #[.map mb] 46) :=
  AnyZ.keys_in Tryz.keys117 Fence.wide 5 trivial rfl mb W
set_option maxHeartbeats 1000000 in
theorem sorted_keys_117 {H : Type} (b nn : Nat) (D0 : DataW H) (R : Value → Option (DataW H × List MemPlace)) (w : World) (hown : w.ownsMap Tryz.prog 9 R b nn D0) (hmax : Maps.size D0 ≤ maxLen) (hbytes : Maps.size D0 * 16 ≤ 140737488355328) :
    CallsIn Fence.wide 5 Tryz.prog 66 #[.func (.func 152) #[] #[.pointer (some ⟨w.heap.size, 0, none⟩)]] (w.alloc (.cells #[.map (some b)] 46)) fun e w' => ∃ (v : Value) (ss : List (List UInt8)), e = .returned v ∧ ss.Perm (strKeys D0) ∧
      w'.ownsRow (w.alloc (.cells #[.map (some b)] 46)).heap.size 9 1 v ss.length ((ss.mergeSort (fun x y => decide (x ≤ y))).map encStr) ∧ (v = .slice none 0 0 ↔ ss = []) ∧ Below (w.alloc (.cells #[.map (some b)] 46)).heap.size (w.alloc (.cells #[.map (some b)] 46)) w' := by
  have hbl := hown.lt
  have hseq : SeqGives Fence.wide 2 Tryz.prog 152 #[.pointer (some ⟨w.heap.size, 0, none⟩)] encStr (fun ss => ss.Perm (strKeys D0)) (Maps.size D0) (w.alloc (.cells #[.map (some b)] 46)) :=
    AnyZ.keys_gives (ρ := Tryz.keys117_ren) { Tryz.keys117 with } Fence.wide _ trivial rfl (by omega) w.heap.size b nn D0 _ (by simp) (by simp) (by
      obtain ⟨es, clock, hb, Ft, hs, hD⟩ := hown
      exact ⟨es, clock, (Below.heap_alloc _ _ b hbl).trans hb, Ft, hs, hD⟩)
  exact AnyZ.sorted_in Tryz.sorted66 Fence.wide 5 trivial trivial trivial trivial rfl (by omega) (sorts79 _) (enters_of Tryz.func127 (by kernel_rfl) rfl) 152 #[.pointer (some ⟨w.heap.size, 0, none⟩)] trivial (enters_of Tryz.func152 (by kernel_rfl) rfl) _ _ hmax hbytes _ hseq
theorem keys_spec {w : World} {b n : Nat} {X : DataW Nat} {V : ByteArray → Option Vq} (h : w.ownsMap Tryz.prog 9 RB b n X) (hh : ∀ s, Maps.has X (ky s) = (V s).isSome) : (strKeys X).Nodup ∧ (strKeys X).length = Maps.size X ∧ ∀ l, l ∈ strKeys X ↔ ∃ s : ByteArray, l = s.data.toList ∧ (V s).isSome = true := by
  obtain ⟨es, rfl, hap, hks⟩ := h.entries (Maps.string_keyed Tryz.underlying9)
  have hst : ∀ p ∈ es, ∃ s, p.1 = ky s := fun p hp => by
    obtain ⟨es0, clock, _, F, _, e⟩ := h
    injection e with e
    rw [e] at hp
    obtain ⟨x, hx, rfl⟩ := List.mem_map.1 (mem_sorted.1 hp)
    obtain ⟨y, hy⟩ := F.reads x hx
    rw [WideElems.rg_of hy]
    obtain ⟨s, _, e2, _⟩ := key_string (WideElems.rd_key hy)
    exact ⟨s, e2⟩
  have hE : strKeys (.map es) = es.map fun p => strOf p.1 := rfl
  rw [hE]
  refine ⟨?_, by rw [List.length_map]; rfl, fun l => ⟨fun hl => ?_, fun hl => ?_⟩⟩
  · refine List.pairwise_map.2 (hap.imp_of_mem ?_)
    intro p q hp hq hne e
    apply hne
    obtain ⟨s, e1⟩ := hst p hp
    obtain ⟨t, e2⟩ := hst q hq
    rw [e1, e2] at e ⊢
    have e3 : s.data.toList = t.data.toList := e
    have e4 : s = t := ByteArray.ext (Array.toList_inj.1 e3)
    rw [e4]
  · obtain ⟨p, hp, rfl⟩ := List.mem_map.1 hl
    obtain ⟨s, e⟩ := hst p hp
    refine ⟨s, by rw [e]; rfl, ?_⟩
    rw [← hh s, ← e]
    exact List.any_eq_true.2 ⟨p, hp, WideAt.sameKey_self (hks p hp)⟩
  · obtain ⟨s, rfl, hs⟩ := hl
    rw [← hh s] at hs
    obtain ⟨p, hp, h2⟩ := List.any_eq_true.1 hs
    exact List.mem_map.2 ⟨p, hp, by rw [WideAt.sameKey_eq h2]; rfl⟩
/-- The keys, sorted. -/
def Kys (B : ByteArray → Option (List Nat)) (ks : List (List UInt8)) : Prop := ks.Nodup ∧ ks.Pairwise (fun x y => x ≤ y) ∧ ∀ l, l ∈ ks ↔ ∃ s : ByteArray, l = s.data.toList ∧ (B s).isSome = true
theorem Kys.uniq {B : ByteArray → Option (List Nat)} {k1 k2 : List (List UInt8)} (h1 : Kys B k1) (h2 : Kys B k2) : k1 = k2 := by
  have hp : k1.Perm k2 := (List.perm_ext_iff_of_nodup h1.1 h2.1).2 fun a => (h1.2.2 a).trans (h2.2.2 a).symm
  exact hp.eq_of_pairwise (fun a b _ _ x y => List.le_antisymm x y) h1.2.1 h2.2.1
set_option maxHeartbeats 2000000 in
theorem skeys_any (g mv N : Nat) (Q : Nat → Prop) (B : ByteArray → Option (List Nat)) (w : World) (c4 : w.cell? ⟨g, 4, none⟩ = some (.map (some mv))) (hv : Vb Q w mv B N) (hN : N ≤ 1000000) :
    Calls Tryz.prog 54 #[PT g 0] w fun e w' => ∃ (v : Value) (ks : List (List UInt8)), e = .returned v ∧ Kys B ks ∧ ks.length ≤ N ∧ w'.ownsRow w.heap.size 9 1 v ks.length (ks.map encStr) ∧ (v = .slice none 0 0 ↔ ks = []) ∧ Below w.heap.size w w' := by
  obtain ⟨V, M, h1, h2, h3, h4⟩ := hv
  obtain ⟨X, x1, x2, x3, x4⟩ := h1.mp
  obtain ⟨n1, n0, n2⟩ := keys_spec x1 x3
  have hle : Hid ((strKeys X).length ≤ N) := (by rw [n0, x4]; exact h2 : (strKeys X).length ≤ N)
  have hX : Hid _ := x1
  have hN1 : Hid _ := n1
  have hN2 : Hid _ := n2
  have hH3 : Hid _ := h3
  have hmax : Maps.size X ≤ maxLen := by rw [x4]; unfold maxLen; omega
  have hby : Maps.size X * 16 ≤ 140737488355328 := by rw [x4]; omega
  clear x1 x2 x3 x4 n1 n2 n0 h1 h3 h4
  refine (callsIn_wide (n := 7)).1 ?_
  have hro : Fence.wide.round = none := rfl
  refine callsIn_of_wp Tryz.func54 rfl trivial ?_ hro
  simp only [Tryz.ntmps54, List.size_toArray, List.length_cons, List.length_nil, Nat.reduceAdd, Nat.reduceSub, Array.replicate_succ, Array.replicate_zero, List.push_toArray, List.append_toArray, List.nil_append, List.cons_append]
  gi_wp2_with (first
    | (gi_at_call 117; refine (callsIn_wide.2 (callsIn_wide.1 (maps_Keys_117 (some mv) w))).mono ?_; rintro e w2 ⟨rfl, rfl⟩)
    | (refine ⟨trivial, ?_⟩; gi_at_call 117; refine (callsIn_wide.2 (callsIn_wide.1 (maps_Keys_117 (some mv) w))).mono ?_; rintro e w2 ⟨rfl, rfl⟩)
    | (gi_at_call 66; refine (callsIn_wide.2 (callsIn_wide.1 (sorted_keys_117 mv M X RB w hX.out hmax hby))).mono ?_; rintro e w3 ⟨v, ss, rfl, hS, hrow, hnil, hb3⟩)
    | (refine ⟨trivial, ?_⟩; gi_at_call 66; refine (callsIn_wide.2 (callsIn_wide.1 (sorted_keys_117 mv M X RB w hX.out hmax hby))).mono ?_; rintro e w3 ⟨v, ss, rfl, hS, hrow, hnil, hb3⟩))
  have hb2 := (Below.refl _ w).alloc (Nat.le_refl _) (.cells #[.map (some mv)] 46)
  go_ret
  have hp := List.mergeSort_perm ss (fun x y => decide (x ≤ y))
  refine ⟨v, ss.mergeSort (fun x y => decide (x ≤ y)), rfl, ⟨(hp.trans hS).nodup_iff.2 hN1.out, ?_, fun l => ?_⟩, by rw [(hp.trans hS).length_eq]; exact hle.out, ?_, ?_, hb2.trans (hb3.mono hb2.size)⟩
  · have := List.pairwise_mergeSort (le := fun (x y : List UInt8) => decide (x ≤ y)) (fun a b c h1 h2 => decide_eq_true (List.le_trans (of_decide_eq_true h1) (of_decide_eq_true h2))) (fun a b => by simpa using List.le_total a b) ss
    exact this.imp fun h => of_decide_eq_true h
  · rw [(hp.trans hS).mem_iff, hN2.out l]
    constructor
    · rintro ⟨s, e1, e2⟩
      exact ⟨s, e1, by rw [← hH3.out s]; simpa using e2⟩
    · rintro ⟨s, e1, e2⟩
      rw [← hH3.out s] at e2
      exact ⟨s, e1, by simpa using e2⟩
  · rw [List.length_mergeSort]
    exact own_base hrow hb2.size
  · rw [hnil]
    constructor
    · intro h
      subst h
      simp
    · intro h
      have := congrArg List.length h
      rw [List.length_mergeSort] at this
      exact List.eq_nil_of_length_eq_zero this
end Wi
end Rg
end Go.Proofs.YtmcpagjhpfbpgaaGreatDoor
end
section
namespace Go.Proofs.YtmcpagjhpfbpgaaGreatDoor
open Go.RowKit
namespace Rg
namespace Wi
set_option maxRecDepth 100000
open Go.Sort
/-- A key as it lies in a sorted list. -/
def kat (ks : List (List UInt8)) (i : Nat) : ByteArray := ⟨(ks.getD i []).toArray⟩
def prs (K : Nat → ByteArray) (P : Nat → Pt8) (n : Nat) : List Value := (List.range n).flatMap fun i => [.string (K i), .slice (P i).p (P i).n (P i).cp]
theorem prs_snoc (K : Nat → ByteArray) (P : Nat → Pt8) (n : Nat) (q : Pt8) : prs K P n ++ [.string (K n), .slice q.p q.n q.cp] = prs K (upP P n q) (n + 1) := by
  unfold prs
  rw [List.range_succ, List.flatMap_append, List.flatMap_singleton]
  congr 1
  · rw [List.flatMap_def, List.flatMap_def]
    refine congrArg List.flatten (List.map_congr_left fun i hi => ?_)
    have := List.mem_range.1 hi
    unfold upP
    rw [if_neg (by omega)]
  · unfold upP
    rw [if_pos rfl]
theorem info_pr : ∃ i, Tryz.prog.info? 69 = some i ∧ i.zero = some (.agg #[.string ByteArray.empty, .slice none 0 0]) ∧ i.size = 2 ∧ i.bytes = 40 := by
  obtain ⟨i, hi⟩ : ∃ i, Tryz.prog.info? 69 = some i := by
    have h : (Tryz.prog.info? 69).isSome = true := by kernel_rfl
    rcases e : Tryz.prog.info? 69 with _ | i
    · rw [e] at h; cases h
    · exact ⟨i, rfl⟩
  have h1 : (Tryz.prog.info? 69).map (·.zero) = some (some (.agg #[.string ByteArray.empty, .slice none 0 0])) := by kernel_rfl
  have h2 : (Tryz.prog.info? 69).map (·.size) = some 2 := by kernel_rfl
  have h3 : (Tryz.prog.info? 69).map (·.bytes) = some 40 := by kernel_rfl
  rw [hi] at h1 h2 h3
  exact ⟨i, hi, Option.some.inj h1, Option.some.inj h2, Option.some.inj h3⟩
/-- A list of pairs, of the call's own. -/
structure Pr (w : World) (v : Value) (n : Nat) (K : Nat → ByteArray) (P : Nat → Pt8) (u : World) : Prop where
  b : Below w.heap.size w u
  own : u.ownsRow w.heap.size 69 2 v n (prs K P n)
  ok : ∀ i, i < n → Pok (P i) ∧ ((P i).p = none → (P i).cp = 0) ∧ (P i).rs u ∧ (0 < (P i).n → w.heap.size ≤ (P i).gb ∧ (P i).gb ∉ vbl v)
section
variable {w u u' : World} {v : Value} {n : Nat} {K : Nat → ByteArray} {P : Nat → Pt8}
theorem Pr.step (h : Pr w v n K P u) (hb : Below u.heap.size u u') : Pr w v n K P u' :=
  ⟨h.b.trans (hb.mono h.b.size), own_keep h.own (fun x hx => hb.block x (own_lt h.own x hx)), fun i hi => ⟨(h.ok i hi).1, (h.ok i hi).2.1, (h.ok i hi).2.2.1.below hb, (h.ok i hi).2.2.2⟩⟩
theorem Pr.lo (h : Pr w v n K P u) : ∀ x ∈ vbl v, w.heap.size ≤ x ∧ x < u.heap.size := fun x hx => ⟨by
  unfold vbl at hx
  cases hv : v.ownBlock with
  | none => rw [hv] at hx; simp at hx
  | some k => rw [hv] at hx; simp at hx; subst hx; exact (World.ownsRow.lt h.own _ hv).1, own_lt h.own x hx⟩
theorem Pr.app (h : Pr w v n K P u) (hn : n ≤ 1000000) {q : Pt8} (hq : Pok q ∧ (q.p = none → q.cp = 0) ∧ q.rs u ∧ (0 < q.n → w.heap.size ≤ q.gb ∧ q.gb ∉ vbl v)) {gs : Nat} (hs : ∀ j x, [Value.string (K n), .slice q.p q.n q.cp][j]? = some x → u.cell? ⟨gs, j, none⟩ = some x) (ty : TypeId) :
    ∃ v' u2, (Builtin.append_ #[54, 54] ty #[v, .slice (some ⟨gs, 0, none⟩) 1 1]).run Tryz.prog u = .ok v' u2 ∧ Pr w v' (n + 1) K (upP P n q) u2 ∧ Chg (vbl v) u u2 ∧ ∀ x ∈ vbl v', x ∈ vbl v ∨ x = u.heap.size := by
  obtain ⟨i0, hi, hz0, hz1, hz2⟩ := info_pr
  obtain ⟨v', w2, r1, r2, r3, _, r5⟩ := run_append_own_at (P := Tryz.prog) u w.heap.size 54 ty 69 i0 _ 2 40 Tryz.underlying54 hi hz0 hz1 hz2 rfl (by decide) v n _ h.own ⟨gs, 0, none⟩ 1 1 [Value.string (K n), .slice q.p q.n q.cp] rfl
    (fun j x hj => by rw [add_z]; exact hs j x hj) (fun x hx => by
      rcases List.mem_cons.1 hx with e | hx
      · rw [e]; rfl
      · rw [List.mem_singleton.1 hx]; rfl) (by unfold maxLen; omega) (by omega) h.b.size
  rw [prs_snoc] at r2
  have hc := Chg.grown r3
  have hv' : ∀ x ∈ vbl v', x ∈ vbl v ∨ x = u.heap.size := fun x hx => by
    unfold vbl at hx ⊢
    rcases r5 with e | e
    · rw [e] at hx; exact .inl hx
    · rw [e] at hx; exact .inr (by simpa using hx)
  have key : ∀ p : Pt8, p.rs u → (0 < p.n → w.heap.size ≤ p.gb ∧ p.gb ∉ vbl v) → p.rs w2 ∧ (0 < p.n → w.heap.size ≤ p.gb ∧ p.gb ∉ vbl v') := fun p h1 h2 => ⟨h1.keep hc.size (fun h0 => hc.block _ (h1.lt h0) (h2 h0).2), fun h0 => ⟨(h2 h0).1, fun hx => by
    rcases hv' _ hx with e | e
    · exact (h2 h0).2 e
    · have := h1.lt h0
      omega⟩⟩
  refine ⟨v', w2, r1, ⟨h.b.trans (hc.toBelow (fun x hx => (h.lo x hx).1) h.b.size), r2, fun i hi => ?_⟩, hc, hv'⟩
  unfold upP
  by_cases e : i = n
  · rw [if_pos e]
    exact ⟨hq.1, hq.2.1, key q hq.2.2.1 hq.2.2.2⟩
  · rw [if_neg e]
    have o := h.ok i (by omega)
    exact ⟨o.1, o.2.1, key _ o.2.2.1 o.2.2.2⟩
/-- The keys' list beside the pairs. -/
def Kyb (kb m : Nat) (K : Nat → ByteArray) (v : Value) (u : World) : Prop := 0 < m → kb ∉ vbl v ∧ kb < u.heap.size ∧ ∀ i, i < m → u.cell? ⟨kb, i, none⟩ = some (.string (K i))
theorem pair_step {m kb : Nat} (h : Pr w v n K P u) (hk : Kyb kb m K v u) (hn : n ≤ 1000000) {x : Value} {N : Nat} {f : Nat → Nat} {u1 : World} (hx : Cw u x N f u1) :
    ∃ q : Pt8, x = .slice q.p q.n q.cp ∧ bs q.n q.f = bs N f ∧ ∃ v' u2, (∀ ty, (Builtin.append_ #[54, 54] ty #[v, .slice (some ⟨u1.heap.size, 0, none⟩) 1 1]).run Tryz.prog (u1.alloc (.cells #[.string (K n), .slice q.p q.n q.cp] 69)) = .ok v' u2) ∧ Pr w v' (n + 1) K (upP P n q) u2 ∧ Kyb kb m K v' u2 := by
  obtain ⟨q, rfl, q1, q2, q3, q4, q5, q6⟩ := own_part hx.own
  have b2 : Below u1.heap.size u1 (u1.alloc (.cells #[.string (K n), .slice q.p q.n q.cp] 69)) := (Below.refl _ u1).alloc (Nat.le_refl _) _
  have bu := below_on _ _ hx.b b2
  obtain ⟨v', u2, a1, a2, a3, a4⟩ := (h.step bu).app hn (q := q) ⟨q1, q2, q5.below b2, fun h0 => by
    have e := q6 h0
    have h1 : q.gb ∈ vbl (.slice q.p q.n q.cp) := by unfold vbl; rw [e]; simp
    have h2 := hx.lo _ h1
    exact ⟨Nat.le_trans h.b.size h2, fun hm => by have := (h.lo _ hm).2; omega⟩⟩ (gs := u1.heap.size) (fun j y hj => al_new u1 _ 69 j y (by rw [List.getElem?_toArray]; exact hj)) 0
  refine ⟨q, rfl, by rw [q3, q4], v', u2, fun ty => ?_, a2, fun h0 => ?_⟩
  · exact a1
  · obtain ⟨k1, k2, k3⟩ := hk h0
    have s1 := bu.size
    refine ⟨fun hm => ?_, Nat.lt_of_lt_of_le k2 (Nat.le_trans s1 a3.size), fun i hi => ?_⟩
    · rcases a4 _ hm with e | e
      · exact k1 e
      · omega
    · exact (a3.cell (p := ⟨kb, i, none⟩) (Nat.lt_of_lt_of_le k2 s1) k1).trans ((bu.cell (p := ⟨kb, i, none⟩) k2).trans (k3 i hi))
theorem kat_cell {ks : List (List UInt8)} {kb cap : Nat} {u : World} {B : Nat} (h : u.ownsRow B 9 1 (.slice (some ⟨kb, 0, none⟩) ks.length cap) ks.length (ks.map encStr)) : ∀ i, i < ks.length → u.cell? ⟨kb, i, none⟩ = some (.string (kat ks i)) := fun i hi => by
  rw [h.cellAt i (by omega), List.getElem?_map, List.getElem?_eq_getElem hi]
  unfold kat
  rw [List.getD_eq_getElem?_getD, List.getElem?_eq_getElem hi]
  rfl
theorem kys_at {B : ByteArray → Option (List Nat)} {ks : List (List UInt8)} (h : Kys B ks) {i : Nat} (hi : i < ks.length) : (B (kat ks i)).isSome = true := by
  have hm : ks.getD i [] ∈ ks := by
    rw [List.getD_eq_getElem?_getD, List.getElem?_eq_getElem hi]
    exact List.getElem_mem hi
  obtain ⟨s, e1, e2⟩ := (h.2.2 _).1 hm
  have : kat ks i = s := by
    unfold kat
    rw [e1, Array.toArray_toList]
  rw [this]
  exact e2
set_option maxHeartbeats 4000000 in
theorem spairs_any (g j mv N : Nat) (Q : Nat → Prop) (B : ByteArray → Option (List Nat)) (w : World) (c2 : w.cell? ⟨g, 2, none⟩ = some (PT j 0)) (c4 : w.cell? ⟨g, 4, none⟩ = some (.map (some mv))) (hg : g < w.heap.size) (hv : Vb Q w mv B N) (hN : N ≤ 1000000) (hkl : ∀ s, (B s).isSome = true → s.size ≤ maxLen) :
    Calls Tryz.prog 16 #[PT g 0] w fun e w' => ∃ v ks P, e = .returned v ∧ Kys B ks ∧ ks.length ≤ N ∧ Pr w v ks.length (kat ks) P w' ∧ ∀ i, i < ks.length → B (kat ks i) = some (bs (P i).n (P i).f) := by
  have HV : Hid _ := hv
  obtain ⟨V, M, h1, h2, h3, h4⟩ := hv
  have hlen : ∀ ty, (Builtin.len_ #[46] ty #[.map (some mv)]).run Tryz.prog w = .ok (.int .i64 ((M : Nat) : Int)) w := h1.len
  obtain ⟨i0, hi0, hz0, hz1, hz2⟩ := info_pr
  obtain ⟨w2, hmk, m2, m3⟩ := run_make_own (P := Tryz.prog) w w.heap.size 54 69 i0 _ 2 Tryz.underlying54 hi0 hz0 hz1 .i64 .i64 M (by rw [hz2]; omega) (by unfold maxLen; omega) (Nat.le_refl _)
  have b2 : Below w.heap.size w w2 := (Chg.grown m3).toBelow (fun x hx => by simp at hx) (Nat.le_refl _)
  have hP2 : Hid (Pr w (.slice (some ⟨w.heap.size, 0, none⟩) 0 M) 0 (fun _ => ByteArray.empty) (fun _ => Pt8.no) w2) := ⟨b2, m2, fun i hi => absurd hi (Nat.not_lt_zero _)⟩
  have HK : Hid _ := skeys_any g mv N Q B w2 ((b2.cell (p := ⟨g, 4, none⟩) hg).trans c4) (Vb.below HV.out b2) hN
  have HB2 : Hid _ := b2
  have HS2 : Hid (w.heap.size < w2.heap.size) := own_lt m2 _ (by simp [vbl, Value.ownBlock])
  have HKL : Hid _ := hkl
  have HG : Hid _ := hg
  clear h1 h2 h3 h4 m2 m3 b2 hkl hi0 hz0 hz1 hz2 hg
  go_enter Tryz.func16, Tryz.ntmps16
  go_wp2_with (first
    | (go_at_call 42; refine (smade_j g j _ c2).mono ?_; rintro e w ⟨rfl, rfl⟩)
    | (go_at_call 54; refine Calls.mono HK.out ?_; rintro e w3 ⟨kv, ks, rfl, hks, hle, hrow, hnil, hb3⟩; obtain ⟨kp, kc, rfl, hkc⟩ := own_slice hrow; have HKS : Hid _ := hks; have HROW : Hid _ := hrow; have HLE : Hid _ := hle; have HB3 : Hid _ := hb3; clear hks hrow hle hb3 hnil)
    | fail)
  obtain ⟨kb, hkp, hkb⟩ : ∃ kb, (0 < ks.length → kp = some ⟨kb, 0, none⟩) ∧ Kyb kb ks.length (kat ks) (.slice (some ⟨w.heap.size, 0, none⟩) 0 M) w3 := by
    have hr := HROW.out
    rcases hr.2 with ⟨e1, e2⟩ | ⟨g', cap, cur, e1, e2, e3, _⟩
    · exact ⟨0, fun h0 => by omega, fun h0 => by omega⟩
    · cases e1
      refine ⟨g', fun _ => rfl, fun _ => ⟨fun hm => ?_, (Array.getElem?_eq_some_iff.1 e3).1, kat_cell hr⟩⟩
      have : g' = w.heap.size := by simpa [vbl, Value.ownBlock] using hm
      have := HS2.out
      omega
  have hPr : Pr w (.slice (some ⟨w.heap.size, 0, none⟩) 0 M) 0 (kat ks) (fun _ => Pt8.no) w3 := Pr.step ⟨hP2.out.b, hP2.out.own, fun i hi => absurd hi (Nat.not_lt_zero _)⟩ HB3.out
  have HP : Hid _ := hPr
  have HKb : Hid _ := hkb
  have HKP : Hid _ := hkp
  have hlN : ks.length ≤ 1000000 := Nat.le_trans HLE.out hN
  clear hPr hkb hkp hkc
  go_loopw [3, 18] (fun vv v wr => ∃ (i : Nat) (P : Nat → Pt8), v = .int .i64 (i : Int) ∧ i ≤ ks.length ∧ Hid (Pr w vv i (kat ks) P wr ∧ Kyb kb ks.length (kat ks) vv wr ∧ ∀ k, k < i → B (kat ks k) = some (bs (P k).n (P k).f)))
    (fun _ v _ => ks.length - (RowKit.intOf v).toNat)
  case atStart => exact ⟨0, _, rfl, Nat.zero_le _, HP.out, HKb.out, fun k hk => absurd hk (Nat.not_lt_zero _)⟩
  case round =>
    obtain ⟨i, P, rfl, hi, hh⟩ := hrel
    by_cases hlt : i < ks.length
    · have hb := hh.out.1.b
      have hltI : (i : Int) < ks.length := by omega
      have c4r : wr.cell? ⟨g, 4, none⟩ = some (.map (some mv)) := (hb.cell (p := ⟨g, 4, none⟩) HG.out).trans c4
      have hci := (hh.out.2.1 (by omega)).2.2 i hlt
      obtain ⟨V', M', v1, v2, v3, v4⟩ := Vb.below HV.out hb
      have hs := kys_at HKS.out hlt
      have hsz := HKL.out _ hs
      obtain ⟨x, hx⟩ : ∃ x, V' (kat ks i) = some x := by
        rw [← v3] at hs
        cases hq : V' (kat ks i) with
        | none => rw [hq] at hs; simp at hs
        | some x => exact ⟨x, rfl⟩
      have hlk := v1.look (kat ks i) hsz
      rw [hx] at hlk
      have hxo := v1.ow _ x hx
      have hxn := (v4 _ x hx).1
      have hBx : Hid (B (kat ks i) = some (bs x.n x.P)) := (by rw [← v3, hx]; rfl : B (kat ks i) = some (bs x.n x.P))
      clear v1 v2 v3 v4 hs hx hb
      obtain ⟨q, q0, q1, q2, q3, q4, q5, q6⟩ := own_part hxo
      have hlk' : (Instr.lookup 46 (.map (some mv)) (.string (kat ks i)) false).run Tryz.prog wr = .ok (.slice q.p q.n q.cp) wr := by rw [← q0]; exact hlk
      have HC : Hid _ := bclone_any q (by rw [q3]; omega) wr q1 q2 q5
      rw [← q3, ← q4] at hBx
      clear q1 q2 q3 q4 q5 q6 q0 hlk hxo hxn
      obtain rfl := HKP.out (by omega)
      go_wp2_with (first
        | (go_at_call 43; refine Calls.mono HC.out ?_; rintro e w4 ⟨y, rfl, hcw⟩; obtain ⟨q', rfl, hbs, v', u2, happ, hPr', hK'⟩ := pair_step hh.out.1 hh.out.2.1 (by omega) hcw; have HA : Hid _ := happ; have HBS : Hid _ := hbs; have HP' : Hid _ := hPr'; have HK' : Hid _ := hK'; clear happ hbs hPr' hK' hcw)
        | (at_builtin; refine wpl_app rfl _ _ 54 rfl u3 (.slice (some ⟨w4.heap.size, 0, none⟩) 1 1) v' rfl rfl (HA.out _) ?_)
        | fail)
      go_roundw
      case rel =>
        refine ⟨i + 1, _, by simp, by omega, HP'.out, HK'.out, fun k hk => ?_⟩
        unfold upP
        by_cases e : k = i
        · rw [if_pos e, e, hBx.out, HBS.out]
        · rw [if_neg e]
          exact hh.out.2.2 k (by omega)
      case measure => simp [RowKit.intOf]; omega
    · obtain e : i = ks.length := by omega
      have E : Hid _ := e
      have hz : ¬((i : Int) < (ks.length : Int)) := by omega
      clear e hlt hi
      go_wp2
      go_ret
      obtain ⟨r1, r2, r3⟩ := hh.out
      rw [E.out] at r1 r3
      exact ⟨_, rfl, ks, HKS.out, HLE.out, P, r1, r3⟩
end
end Wi
end Rg
end Go.Proofs.YtmcpagjhpfbpgaaGreatDoor
end
section
namespace Go.Proofs.YtmcpagjhpfbpgaaGreatDoor
open Go.RowKit
namespace Rg
namespace Wi
set_option maxRecDepth 100000
/-- Pairs in memory. -/
structure Pl (p : Option Addr) (g o n : Nat) (K : Nat → ByteArray) (P : Nat → Pt8) (u : World) : Prop where
  hp : 0 < n → p = some ⟨g, o, none⟩
  lt : 0 < n → g < u.heap.size
  ck : ∀ i, i < n → u.cell? ⟨g, o + i * 2, none⟩ = some (.string (K i))
  cv : ∀ i, i < n → u.cell? ⟨g, o + i * 2 + 1, none⟩ = some (.slice (P i).p (P i).n (P i).cp)
  ok : ∀ i, i < n → Pok (P i) ∧ (P i).rs u
theorem Pl.below {p : Option Addr} {g o n : Nat} {K : Nat → ByteArray} {P : Nat → Pt8} {u u' : World} (h : Pl p g o n K P u) (hb : Below u.heap.size u u') : Pl p g o n K P u' :=
  ⟨h.hp, fun h0 => Nat.lt_of_lt_of_le (h.lt h0) hb.size, fun i hi => (hb.cell (p := ⟨g, _, none⟩) (h.lt (by omega))).trans (h.ck i hi), fun i hi => (hb.cell (p := ⟨g, _, none⟩) (h.lt (by omega))).trans (h.cv i hi), fun i hi => ⟨(h.ok i hi).1, Rs.below (h.ok i hi).2 hb⟩⟩
theorem bdn (u : World) (m : Nat) : Below u.heap.size u (u.drewN m) := ⟨rfl, rfl, rfl, Nat.le_refl _, fun _ _ => rfl⟩
theorem samep_g (q r : Pt8) (u : World) (hq : Pok q ∧ q.rs u) (hr : Pok r ∧ r.rs u) :
    ∃ b, (bs q.n q.f = bs r.n r.f → b = true) ∧ ∀ m, Calls Tryz.prog 20 #[.slice q.p q.n q.cp, .slice r.p r.n r.cp] (u.drewN m) fun e u' => e = .returned (.bool b) ∧ u' = u.drewN m := by
  refine ⟨decide (strOfNums (q8 q.f q.n) = strOfNums (q8 r.f r.n)), fun h => ?_, fun m => ?_⟩
  · refine decide_eq_true ?_
    have hn : q.n = r.n := by have := congrArg List.length h; rwa [bs_len, bs_len] at this
    rw [hn]
    congr 1
    refine q8_cg fun i hi => ?_
    have e := congrArg (fun l => l[i]?) h
    rw [bs_get _ (show i < q.n by omega), bs_get _ hi] at e
    exact Option.some.inj e
  · have h1 := (bsl_q hq.1 (hq.2.below (bdn u m))).text
    have h2 := (bsl_q hr.1 (hr.2.below (bdn u m))).text
    by_cases he : strOfNums (q8 q.f q.n) = strOfNums (q8 r.f r.n)
    · rw [he] at h1 ⊢
      go_enter Tryz.func20, Tryz.ntmps20
      go_wp2
      go_ret
      simp
    · have he2 := str_ne he
      go_enter Tryz.func20, Tryz.ntmps20
      go_wp2
      go_ret
      simp
      exact he
set_option maxHeartbeats 4000000 in
theorem samep_any {p1 p2 : Option Addr} {g1 o1 n1 g2 o2 n2 : Nat} {K1 K2 : Nat → ByteArray} {P1 P2 : Nat → Pt8} (c1 c2 : Nat) (u : World) (h1 : Pl p1 g1 o1 n1 K1 P1 u) (h2 : Pl p2 g2 o2 n2 K2 P2 u) (b1 : n1 ≤ 1000000) (b2 : n2 ≤ 1000000) :
    Calls Tryz.prog 21 #[.slice p1 n1 c1, .slice p2 n2 c2] u fun e u' => ∃ b, e = .returned (.bool b) ∧ ((n1 = n2 ∧ ∀ i, i < n1 → K1 i = K2 i ∧ bs (P1 i).n (P1 i).f = bs (P2 i).n (P2 i).f) → b = true) ∧ Below u.heap.size u u' := by
  have H1 : Hid _ := h1
  have H2 : Hid _ := h2
  clear h1 h2
  by_cases hn : n1 = n2
  · subst hn
    go_enter Tryz.func21, Tryz.ntmps21
    go_wp2
    go_loopw [5] (fun v wr => ∃ i : Nat, v = .int .i64 (i : Int) ∧ i ≤ n1 ∧ Below u.heap.size u wr)
      (fun v _ => n1 - (RowKit.intOf v).toNat)
    case atStart => exact ⟨0, rfl, Nat.zero_le _, Below.refl _ _⟩
    case round =>
      obtain ⟨i, rfl, hi, hb⟩ := hrel
      by_cases hlt : i < n1
      · have l1 := H1.out.below hb
        have l2 := H2.out.below hb
        obtain ⟨b, hbb, hcall⟩ := samep_g (P1 i) (P2 i) wr (l1.ok i hlt) (l2.ok i hlt)
        have HB : Hid _ := hcall
        have HE : Hid _ := hbb
        have hp1 := l1.hp (by omega)
        have hp2 := l2.hp (by omega)
        have k1 := l1.ck i hlt
        have k2 := l2.ck i hlt
        have v1 := l1.cv i hlt
        have v2 := l2.cv i hlt
        have hltI : (i : Int) < (n1 : Int) := by omega
        clear l1 l2 hcall hbb
        subst hp1
        subst hp2
        by_cases hk : K1 i = K2 i
        · rw [← hk] at k2
          have HK : Hid _ := hk
          clear hk
          cases b with
          | true =>
            go_wp2
            go_quiet (first | (go_at_call 20; exact Calls.quiet_of_same (HB.out _)) | fail)
            go_wp2
            go_roundw
            case rel => exact ⟨i + 1, by simp, by omega, hb.trans ((bdn wr _).mono hb.size)⟩
            case measure => simp [RowKit.intOf]; omega
          | false =>
            go_wp2
            go_quiet (first | (go_at_call 20; exact Calls.quiet_of_same (HB.out _)) | fail)
            go_wp2
            go_ret
            exact ⟨false, rfl, fun h => absurd (HE.out (h.2 i hlt).2) (by simp), hb.trans ((bdn wr _).mono hb.size)⟩
        · have he2 := str_ne hk
          have HK : Hid _ := hk
          go_wp2
          go_quiet (first | (go_at_call 20; exact Calls.quiet_of_same (HB.out _)) | fail)
          go_wp2
          go_ret
          exact ⟨false, rfl, fun h => absurd (h.2 i hlt).1 HK.out, hb.trans ((bdn wr _).mono hb.size)⟩
      · obtain rfl : i = n1 := by omega
        go_wp2
        go_ret
        exact ⟨true, rfl, fun _ => rfl, hb⟩
  · have hnI : ¬((n1 : Int) = (n2 : Int)) := by omega
    go_enter Tryz.func21, Tryz.ntmps21
    go_wp2
    go_ret
    exact ⟨false, rfl, fun h => absurd h.1 hn, Below.refl _ _⟩
end Wi
end Rg
end Go.Proofs.YtmcpagjhpfbpgaaGreatDoor
end
section
namespace Go.Proofs.YtmcpagjhpfbpgaaGreatDoor
open Go.RowKit
namespace Rg
namespace Wi
set_option maxRecDepth 100000
set_option maxHeartbeats 1000000 in
theorem Int_any (n : Nat) (hn : n < 4611686018427387904) (w : World) :
    Calls Tryz.prog 107 #[.int .i64 (n : Int)] w fun e w' => ∃ v, e = .returned (.tuple #[v, .int .i64 0]) ∧ ∃ N P, Cw w v N P w' ∧ bs N P = wn 8 n := by
  have z0 : ¬((n : Int) < 0) := by omega
  have z1 : ¬((4611686018427387903 : Int) < n) := by omega
  have hW : Wt w w.heap.size [] (w.alloc (.cells #[.slice none 0 0] 204)) := Wt.start (P := fun _ => 0) ⟨Below.refl _ _, World.ownsRow_nil _ _ _ _⟩
  have hp := put_more hW (k := 8) (by decide) (by decide) n (nilp fun _ => 0) ⟨(nilp_ok _ w).1, (nilp_ok _ w).2.1, (nilp_ok _ w).2.2⟩ (by show 0 + 8 + 0 ≤ _; omega)
  rw [World.size_alloc] at hp
  have HP : Hid (Calls Tryz.prog 142 #[PT w.heap.size 0, .int .i64 8, .slice none 0 0, .slice (some ⟨w.heap.size + 1, 0, none⟩) 1 1] ((w.alloc (.cells #[.slice none 0 0] 204)).alloc (.cells #[.int .i64 (n : Int)] 3)) fun e w' => e = .returned (.tuple #[]) ∧ Wt w w.heap.size (wn 8 n) w') := Calls.mono hp fun e w' hh => by
    obtain ⟨e1, e2⟩ := hh
    rw [List.nil_append, show bs (nilp fun _ => 0).n (nilp fun _ => 0).f = [] from rfl, List.append_nil] at e2
    exact ⟨e1, e2⟩
  clear hp
  clear hW
  go_enter Tryz.func107, Tryz.ntmps107
  go_wp2_with (first
    | (go_at_call 142; refine Calls.mono HP.out ?_; rintro e w1 ⟨rfl, hw1⟩; obtain ⟨vv, N, P, e1, e2, e3, e4⟩ := hw1; have c0 : w1.cell? ⟨w.heap.size, 0, none⟩ = some vv := ((e2.blk _ (List.mem_cons_self ..)).2 0 _ rfl).1; have H1 : Hid _ := e1; have H3 : Hid _ := e3; clear e1 e2 e3 e4)
    | fail)
  go_ret2
  exact ⟨vv, rfl, N, P, ⟨H1.out.b, H1.out.own⟩, H3.out⟩
theorem Frame_l (q : Pt8) (hn : q.n ≤ 65536) (w : World) (hq : Pq q w) : Calls Tryz.prog 108 #[.slice q.p q.n q.cp] w fun e w' => ∃ v, e = .returned (.tuple #[v, .int .i64 0]) ∧ ∃ N P, Cw w v N P w' ∧ bs N P = fr (bs q.n q.f) :=
  (Frame_ok q hn w ⟨hq.1, hq.2.2⟩ hq.2.1).mono fun e w' hh => by
    obtain ⟨v, e1, e2⟩ := hh
    exact ⟨v, e1, _, _, e2, fr_bs _ _⟩
theorem Cw.pq {w w' : World} {v : Value} {N : Nat} {P : Nat → Nat} (h : Cw w v N P w') : ∃ q : Pt8, v = .slice q.p q.n q.cp ∧ q.n = N ∧ q.f = P ∧ Pq q w' := by
  obtain ⟨q, q0, q1, q2, q3, q4, q5, _⟩ := own_part h.own
  exact ⟨q, q0, q3, q4, q1, q2, q5⟩
def keyq (g cap : Nat) (k : ByteArray) : Pt8 := ⟨g, 0, k.size, cap, some ⟨g, 0, none⟩, fun j => (k.data.toList.getD j 0).toNat⟩
set_option maxHeartbeats 1000000 in
theorem pairFrame_any (k : ByteArray) (q : Pt8) (hk : k.size ≤ 128) (hn : q.n ≤ 8192) (w : World) (hq : Pq q w) :
    Calls Tryz.prog 109 #[.string k, .slice q.p q.n q.cp] w fun e w' => ∃ v, e = .returned (.tuple #[v, .int .i64 0]) ∧ ∃ N P, Cw w v N P w' ∧ bs N P = fr (wf [kb k, bs q.n q.f]) := by
  obtain ⟨cap, u, hcv, h2, h3, h4, h5⟩ := s2p k w
  have b1 : Below u.heap.size u (u.alloc (.cells #[.slice (some ⟨w.heap.size, 0, none⟩) k.size cap, .slice q.p q.n q.cp] 40)) := (Below.refl _ u).alloc (Nat.le_refl _) _
  have b2 := below_on _ _ h3 b1
  have hL : Lv (some ⟨u.heap.size, 0, none⟩) u.heap.size 0 2 (fun i => if i = 0 then keyq w.heap.size cap k else q) (u.alloc (.cells #[.slice (some ⟨w.heap.size, 0, none⟩) k.size cap, .slice q.p q.n q.cp] 40)) := ⟨fun _ => rfl, fun _ => by simp, fun i hi => by
    rw [Nat.zero_add]
    rcases i with _ | _ | i
    · exact al_new u _ 40 0 _ rfl
    · exact al_new u _ 40 1 _ rfl
    · omega, fun i hi => by
    rcases i with _ | _ | i
    · exact ⟨⟨Bv.start _ _ _ _, h2⟩, (fun e => by cases e), Rs.below h5 b1⟩
    · exact ⟨hq.1, hq.2.1, (hq.2.2.below b2)⟩
    · omega⟩
  have HF : Hid _ := Fields_any _ 2 2 _ 0 _ (by decide) (by
    show fsum _ 2 ≤ 1048576
    rw [fsum_step, fsum_step]
    show 4 + (4 + k.size) + (4 + q.n) ≤ _
    omega) _ hL
  have HLE : Hid ((wf (fls (fun i => if i = 0 then keyq w.heap.size cap k else q) 2)).length ≤ 65536) := by
    show (wf (fls (fun i => if i = 0 then keyq w.heap.size cap k else q) 2)).length ≤ 65536
    have e : fls (fun i => if i = 0 then keyq w.heap.size cap k else q) 2 = [bs k.size (keyq w.heap.size cap k).f, bs q.n q.f] := by
      unfold fls
      simp [List.range_succ]
      rfl
    rw [e]
    unfold wf wfs
    simp [wn_len, bs_len]
    omega
  have HB : Hid _ := b2
  clear h2 h3 h4 h5 b1 b2 hL
  go_enter Tryz.func109, Tryz.ntmps109
  go_wp2_with (first
    | (go_at_call 104; refine Calls.mono HF.out ?_; rintro e w2 ⟨v, rfl, N, P, hcw, hbs⟩; obtain ⟨q2, rfl, hN, hP, hq2⟩ := hcw.pq; have HB2 : Hid _ := hcw.b; have HQ2 : Hid _ := hq2; have HS : Hid (bs q2.n q2.f = wf (fls (fun i => if i = 0 then keyq w.heap.size cap k else q) 2) ∧ q2.n ≤ 65536) := ⟨by rw [hN, hP]; exact hbs, by rw [hN]; have e := congrArg List.length hbs; rw [bs_len] at e; rw [e]; exact HLE.out⟩; clear hcw hbs hN hP hq2)
    | (go_at_call 108; refine Calls.mono (Frame_l q2 HS.out.2 w2 HQ2.out) ?_; rintro e w3 ⟨v3, rfl, N3, P3, hcw3, hbs3⟩)
    | fail)
  go_ret2
  exact ⟨v3, rfl, N3, P3, Cw.up (below_on _ _ HB.out HB2.out) hcw3, by
    rw [hbs3, HS.out.1]
    unfold fls
    simp [List.range_succ]
    show fr (wf [bs k.size _, bs q.n q.f]) = _
    rw [show bs k.size (keyq w.heap.size cap k).f = kb k from kb_bs k]⟩
end Wi
end Rg
end Go.Proofs.YtmcpagjhpfbpgaaGreatDoor
end
section
namespace Go.Proofs.YtmcpagjhpfbpgaaGreatDoor
open Go.RowKit
namespace Rg
namespace Wi
set_option maxRecDepth 100000
/-- A pair's frame, its body; a checkpoint's bytes. -/
def pbd (B : ByteArray → Option (List Nat)) (k : List UInt8) : List Nat := wf [kb ⟨k.toArray⟩, (B ⟨k.toArray⟩).getD []]
def ckl (n : Nat) (B : ByteArray → Option (List Nat)) (ks : List (List UInt8)) : List (List Nat) := wn 8 n :: ks.map (pbd B)
section
variable {w u u1 : World} {v : Value} {N : Nat} {P : Nat → Nat}
theorem Cw.add (h : Cw w v N P u) (hu : Below u.heap.size u u1) {q : Pt8} (hq : Pq q u1) (hb : N + q.n ≤ 2097152) :
    ∃ v' u2, (∀ ty, (Builtin.append_ #[40, 40] ty #[v, .slice q.p q.n q.cp]).run Tryz.prog u1 = .ok v' u2) ∧ Cw w v' (N + q.n) (ct P N q.f) u2 ∧ Chg (vbl v) u1 u2 ∧ ∀ x ∈ vbl v', x ∈ vbl v ∨ x = u1.heap.size := by
  have h1 := h.step hu
  obtain ⟨v', u2, a1, a2, a3, a4⟩ := own_appQ h1.own h1.b.size hq.1 hq.2.1 hq.2.2 hb 0
  have hc := Chg.grown a3
  exact ⟨v', u2, fun ty => a1, ⟨h1.b.trans (hc.toBelow h1.lo h1.b.size), a2⟩, hc, fun x hx => by
    unfold vbl at hx ⊢
    rcases a4 with e | e
    · rw [e] at hx; exact .inl hx
    · rw [e] at hx; exact .inr (by simpa using hx)⟩
end
theorem fl_app (a b : List (List Nat)) : fl (a ++ b) = fl a ++ fl b := by
  unfold fl
  rw [List.map_append, List.flatten_append]
theorem ckl_step (n : Nat) (B : ByteArray → Option (List Nat)) {ks : List (List UInt8)} {i : Nat} (hi : i < ks.length) : fl (ckl n B (ks.take (i + 1))) = fl (ckl n B (ks.take i)) ++ fr (pbd B (ks.getD i [])) := by
  have e : ckl n B (ks.take (i + 1)) = ckl n B (ks.take i) ++ [pbd B (ks.getD i [])] := by
    unfold ckl
    rw [List.take_add_one, List.getElem?_eq_getElem hi, List.map_append, List.getD_eq_getElem?_getD, List.getElem?_eq_getElem hi]
    rfl
  rw [e, fl_snoc]
theorem ckl_le (n : Nat) (B : ByteArray → Option (List Nat)) (ks : List (List UInt8)) (i : Nat) : (fl (ckl n B (ks.take i))).length ≤ (fl (ckl n B ks)).length := by
  have e : ckl n B ks = ckl n B (ks.take i) ++ (ks.drop i).map (pbd B) := by
    unfold ckl
    rw [List.cons_append, ← List.map_append, List.take_append_drop]
  rw [e, fl_app, List.length_append]
  omega
set_option maxHeartbeats 4000000 in
theorem ckb_any (g mv N n : Nat) (hn : n < 4611686018427387904) (Q : Nat → Prop) (B : ByteArray → Option (List Nat)) (w : World) (c4 : w.cell? ⟨g, 4, none⟩ = some (.map (some mv))) (hg : g < w.heap.size) (hv : Vb Q w mv B N) (hN : N ≤ 1000000) (hkl : ∀ s, (B s).isSome = true → s.size ≤ 128)
    (hsz : ∀ ks, Kys B ks → (fl (ckl n B ks)).length ≤ 1048576) :
    Calls Tryz.prog 50 #[PT g 0, .int .i64 (n : Int)] w fun e w' => ∃ v ks, e = .returned (.tuple #[v, .int .i64 0]) ∧ Kys B ks ∧ ∃ M P, Cw w v M P w' ∧ bs M P = fl (ckl n B ks) := by
  have HV : Hid _ := hv
  have HG : Hid _ := hg
  have HKL : Hid _ := hkl
  have HSZ : Hid _ := hsz
  have HI : Hid _ := Int_any n hn w
  clear hkl hv hg hsz
  go_enter Tryz.func50, Tryz.ntmps50
  go_wp2_with (first
    | (go_at_call 107; refine Calls.mono HI.out ?_; rintro e w1 ⟨v1, rfl, N1, P1, k1, k2⟩; obtain ⟨q1, rfl, hN1, hP1, hq1⟩ := k1.pq; have H1 : Hid (Below w.heap.size w w1 ∧ Pq q1 w1 ∧ q1.n ≤ 65536 ∧ bs q1.n q1.f = wn 8 n) := ⟨k1.b, hq1, by rw [hN1]; have e := congrArg List.length k2; rw [bs_len, wn_len] at e; omega, by rw [hN1, hP1]; exact k2⟩; clear k1 k2 hN1 hP1 hq1)
    | (go_at_call 108; refine Calls.mono (Frame_l q1 H1.out.2.2.1 w1 H1.out.2.1) ?_; rintro e w2 ⟨v2, rfl, N2, P2, k3, k4⟩; have H2 : Hid (Cw w v2 N2 P2 w2 ∧ bs N2 P2 = fl [wn 8 n]) := ⟨Cw.up H1.out.1 k3, by rw [k4, H1.out.2.2.2]; unfold fl; simp⟩; clear k3 k4; have c42 := (H2.out.1.b.cell (p := ⟨g, 4, none⟩) HG.out).trans c4; have HK : Hid _ := skeys_any g mv N Q B w2 c42 (Vb.below HV.out H2.out.1.b) hN)
    | (go_at_call 54; refine Calls.mono HK.out ?_; rintro e w3 ⟨kv, ks, rfl, hks, hle, hrow, hnil, hb3⟩; obtain ⟨kp, kc, rfl, hkc⟩ := own_slice hrow; have HKS : Hid _ := hks; have HROW : Hid _ := hrow; have HLE : Hid _ := hle; have HB3 : Hid _ := hb3; clear hks hrow hle hb3 hnil)
    | fail)
  obtain ⟨kb0, hkp, hkb⟩ : ∃ kb0, (0 < ks.length → kp = some ⟨kb0, 0, none⟩) ∧ Kyb kb0 ks.length (kat ks) v2 w3 := by
    have hr := HROW.out
    rcases hr.2 with ⟨e1, e2⟩ | ⟨g', cap, cur, e1, e2, e3, _⟩
    · exact ⟨0, fun h0 => by omega, fun h0 => by omega⟩
    · cases e1
      refine ⟨g', fun _ => rfl, fun _ => ⟨fun hm => ?_, (Array.getElem?_eq_some_iff.1 e3).1, kat_cell hr⟩⟩
      have := own_lt H2.out.1.own _ hm
      omega
  have HP : Hid (Cw w v2 N2 P2 w3) := H2.out.1.step HB3.out
  have HKb : Hid _ := hkb
  have HKP : Hid _ := hkp
  have hlN : ks.length ≤ 1000000 := Nat.le_trans HLE.out hN
  have HS : Hid _ := HSZ.out ks HKS.out
  clear hkb hkp hkc
  go_loopw [8, 32] (fun vv v wr => ∃ (i M : Nat) (P : Nat → Nat), v = .int .i64 (i : Int) ∧ i ≤ ks.length ∧ Hid (Cw w vv M P wr ∧ Kyb kb0 ks.length (kat ks) vv wr ∧ bs M P = fl (ckl n B (ks.take i))))
    (fun _ v _ => ks.length - (RowKit.intOf v).toNat)
  case atStart => exact ⟨0, N2, P2, rfl, Nat.zero_le _, HP.out, HKb.out, H2.out.2⟩
  case round =>
    obtain ⟨i, M, P, rfl, hi, hh⟩ := hrel
    by_cases hlt : i < ks.length
    · have hb := hh.out.1.b
      have hltI : (i : Int) < ks.length := by omega
      have c4r : wr.cell? ⟨g, 4, none⟩ = some (.map (some mv)) := (hb.cell (p := ⟨g, 4, none⟩) HG.out).trans c4
      have hci := (hh.out.2.1 (by omega)).2.2 i hlt
      obtain ⟨V', M', t1, t2, t3, t4⟩ := Vb.below HV.out hb
      have hs := kys_at HKS.out hlt
      have hks := HKL.out _ hs
      obtain ⟨x, hx⟩ : ∃ x, V' (kat ks i) = some x := by
        rw [← t3] at hs
        cases hq : V' (kat ks i) with
        | none => rw [hq] at hs; simp at hs
        | some x => exact ⟨x, rfl⟩
      have hlk := t1.look (kat ks i) (by unfold maxLen; omega)
      rw [hx] at hlk
      have hxo := t1.ow _ x hx
      have hxn := (t4 _ x hx).1
      have hBx : Hid (B (kat ks i) = some (bs x.n x.P)) := (by rw [← t3, hx]; rfl : B (kat ks i) = some (bs x.n x.P))
      clear t1 t2 t3 t4 hs hx hb
      obtain ⟨q, q0, p1, p2, p3, p4, p5, p6⟩ := own_part hxo
      have hlk' : (Instr.lookup 46 (.map (some mv)) (.string (kat ks i)) false).run Tryz.prog wr = .ok (.slice q.p q.n q.cp) wr := by rw [← q0]; exact hlk
      rw [← p3, ← p4] at hBx
      rw [← p3] at hxn
      have HF : Hid _ := pairFrame_any (kat ks i) q hks hxn wr ⟨p1, p2, p5⟩
      have HBD : Hid (pbd B (ks.getD i []) = wf [kb (kat ks i), bs q.n q.f]) := by
        show pbd B (ks.getD i []) = _
        unfold pbd
        show wf [kb (kat ks i), (B (kat ks i)).getD []] = _
        rw [hBx.out]
        rfl
      have HL : Hid ((fl (ckl n B (ks.take (i + 1)))).length ≤ 1048576) := Nat.le_trans (ckl_le n B ks (i + 1)) HS.out
      have HT : Hid (fl (ckl n B (ks.take (i + 1))) = bs M P ++ fr (wf [kb (kat ks i), bs q.n q.f])) := by
        show fl (ckl n B (ks.take (i + 1))) = _
        rw [ckl_step n B hlt, HBD.out, hh.out.2.2]
      clear p1 p2 p3 p4 p5 p6 q0 hlk hxo hxn hks
      obtain rfl := HKP.out (by omega)
      obtain ⟨pv, cv, rfl, hcv⟩ := own_slice hh.out.1.own
      clear hcv
      go_wp2_with (first
        | (go_at_call 109; refine Calls.mono HF.out ?_; rintro e w4 ⟨y, rfl, N4, P4, hcw, hbs⟩; obtain ⟨q', rfl, e1, e2, hq'⟩ := hcw.pq; have HBS : Hid (bs q'.n q'.f = fr (wf [kb (kat ks i), bs q.n q.f])) := (by rw [e1, e2]; exact hbs); have hle : M + q'.n ≤ 1048576 := (by have l1 := HL.out; rw [HT.out, List.length_append, bs_len, ← HBS.out, bs_len] at l1; exact l1); have hnb : ¬((1048576 : Int) < (M : Int) + (q'.n : Int)) := (by omega); obtain ⟨v', u2, happ, hC', hch, hvb⟩ := hh.out.1.add hcw.b hq' (by omega); have HA : Hid _ := happ; have HC' : Hid _ := hC'; have HCH : Hid _ := hch; have HVB : Hid _ := hvb; have HCW : Hid (Below wr.heap.size wr w4) := hcw.b; clear happ hC' hch hvb hcw hbs e1 e2 hq')
        | (at_builtin; refine wpl_app rfl _ _ 40 rfl (.slice pv M cv) (.slice q'.p q'.n q'.cp) v' rfl rfl (HA.out _) ?_)
        | fail)
      go_roundw
      case rel =>
        refine ⟨i + 1, M + q'.n, _, by simp, by omega, HC'.out, fun h0 => ?_, ?_⟩
        · obtain ⟨k1, k2, k3⟩ := hh.out.2.1 h0
          have s1 := HCW.out.size
          refine ⟨fun hm => ?_, Nat.lt_of_lt_of_le k2 (Nat.le_trans s1 HCH.out.size), fun z hz => ?_⟩
          · rcases HVB.out _ hm with e | e
            · exact k1 e
            · omega
          · exact (HCH.out.cell (p := ⟨kb0, z, none⟩) (Nat.lt_of_lt_of_le k2 s1) k1).trans ((HCW.out.cell (p := ⟨kb0, z, none⟩) k2).trans (k3 z hz))
        · rw [bs_ct (Nat.le_refl _), List.take_of_length_le (by rw [bs_len]; exact Nat.le_refl _), HT.out, HBS.out]
      case measure => simp [RowKit.intOf]; omega
    · obtain e : i = ks.length := by omega
      have E : Hid _ := e
      have hz : ¬((i : Int) < (ks.length : Int)) := by omega
      clear e hlt hi
      go_wp2
      go_ret2
      obtain ⟨r1, r2, r3⟩ := hh.out
      rw [E.out, List.take_length] at r3
      exact ⟨_, rfl, ks, HKS.out, M, P, r1, r3⟩
end Wi
end Rg
end Go.Proofs.YtmcpagjhpfbpgaaGreatDoor
end
section
namespace Go.Proofs.YtmcpagjhpfbpgaaGreatDoor
open Go.RowKit
namespace Rg
namespace Wi
set_option maxRecDepth 100000
section
variable {w0 u u' : World} {d g j mv nb N : Nat} {A A' : Ad} {base s : ByteArray} {G : Int} {B : ByteArray → Option (List Nat)} {L0 : List Nat}
theorem So.sub (h : So w0 d A g j mv base s G nb B N L0 u) {L : List Nat} (hs : ∀ x ∈ L, x ∈ L0) : So w0 d A g j mv base s G nb B N L u := by
  obtain ⟨⟨O, h1⟩, h2, h3, h4, h5⟩ := h
  refine ⟨⟨O, h1.sub fun x hx => ?_⟩, h2, h3, h4, fun hm => h5 (hs _ hm)⟩
  rcases List.mem_cons.1 hx with e | e
  · exact List.mem_cons.2 (.inl e)
  · exact List.mem_cons_of_mem _ (hs _ e)
theorem So.get (h : So w0 d A g j mv base s G nb B N L0 u) (k : ByteArray) (hk : k.size ≤ maxLen) :
    Calls Tryz.prog 12 #[PT g 0, .string k] u fun e u' => ∃ v M P, e = .returned (.tuple #[v, .bool (B k).isSome]) ∧ Cw u v M P u' ∧ (∀ b, B k = some b → bs M P = b) ∧ So w0 d A g j mv base s G nb B N L0 u' ∧ Kx L0 u u' := by
  obtain ⟨O, h1⟩ := h.1
  obtain ⟨V, M, v1, v2, v3, v4⟩ := h1.vb
  refine (sget_any g j mv M V k hk u h.2.1 h1.c4 v1 (fun x hx => by have := (v4 k x hx).1; omega)).mono ?_
  rintro e u' ⟨v, rfl, hc⟩
  obtain ⟨t1, t2⟩ := h.below hc.b
  refine ⟨v, _, _, ?_, hc, fun b hb => ?_, t1, t2⟩
  · rw [← v3 k]
    simp
  · rw [← v3 k] at hb
    cases hx : V k with
    | none => rw [hx] at hb; cases hb
    | some x => rw [hx] at hb; exact Option.some.inj hb
theorem So.len (h : So w0 d A g j mv base s G nb B N L0 u) : Calls Tryz.prog 17 #[PT g 0] u fun e u' => (∃ M : Nat, e = .returned (.int .i64 (M : Int)) ∧ M ≤ N) ∧ u' = u := by
  obtain ⟨O, h1⟩ := h.1
  obtain ⟨V, M, v1, v2, v3, v4⟩ := h1.vb
  refine (slen_any g j mv M V u h.2.1 h1.c4 v1).mono ?_
  rintro e u' ⟨rfl, rfl⟩
  exact ⟨⟨M, rfl, v2⟩, rfl⟩
theorem So.pairs (h : So w0 d A g j mv base s G nb B N L0 u) (hN : N ≤ 1000000) (hkl : ∀ k, (B k).isSome = true → k.size ≤ maxLen) :
    Calls Tryz.prog 16 #[PT g 0] u fun e u' => ∃ v ks P, e = .returned v ∧ Kys B ks ∧ ks.length ≤ N ∧ Pr u v ks.length (kat ks) P u' ∧ (∀ i, i < ks.length → B (kat ks i) = some (bs (P i).n (P i).f)) ∧ So w0 d A g j mv base s G nb B N L0 u' ∧ Kx L0 u u' := by
  obtain ⟨O, h1⟩ := h.1
  refine (spairs_any g j mv N _ B u h.2.1 h1.c4 h1.gl h1.vb hN hkl).mono ?_
  rintro e u' ⟨v, ks, P, rfl, k1, k2, k3, k4⟩
  obtain ⟨t1, t2⟩ := h.below k3.b
  exact ⟨v, ks, P, rfl, k1, k2, k3, k4, t1, t2⟩
/-- Pairs of a call's own, as SamePairs takes them. -/
theorem Pr.pl {w u : World} {v : Value} {n : Nat} {K : Nat → ByteArray} {P : Nat → Pt8} (h : Pr w v n K P u) : ∃ p g c, v = .slice p n c ∧ Pl p g 0 n K P u := by
  have hl : ∀ m, (prs K P m).length = 2 * m := fun m => by
    induction m with
    | zero => rfl
    | succ m ih =>
      unfold prs at ih ⊢
      rw [List.range_succ, List.flatMap_append, List.flatMap_singleton, List.length_append, ih]
      simp
      omega
  have hg : ∀ m i, i < m → (prs K P m)[2 * i]? = some (.string (K i)) ∧ (prs K P m)[2 * i + 1]? = some (.slice (P i).p (P i).n (P i).cp) := fun m => by
    induction m with
    | zero => intro i hi; omega
    | succ m ih =>
      intro i hi
      have e : prs K P (m + 1) = prs K P m ++ [.string (K m), .slice (P m).p (P m).n (P m).cp] := by
        unfold prs
        rw [List.range_succ, List.flatMap_append, List.flatMap_singleton]
      rw [e]
      by_cases hlt : i < m
      · rw [List.getElem?_append_left (by rw [hl]; omega), List.getElem?_append_left (by rw [hl]; omega)]
        exact ih i hlt
      · obtain rfl : i = m := by omega
        rw [List.getElem?_append_right (by rw [hl]; omega), List.getElem?_append_right (by rw [hl]; omega), hl]
        constructor
        · rw [show 2 * i - 2 * i = 0 by omega]; rfl
        · rw [show 2 * i + 1 - 2 * i = 1 by omega]; rfl
  rcases h.own.2 with ⟨h1, h2⟩ | ⟨g, cap, cur, h1, h2, h3, _⟩
  · exact ⟨none, 0, 0, by rw [h1, h2], fun h0 => by omega, fun h0 => by omega, fun i hi => by omega, fun i hi => by omega, fun i hi => by omega⟩
  · have ho := h.own
    rw [h1] at ho
    exact ⟨_, g, cap, h1, fun _ => rfl, fun _ => (Array.getElem?_eq_some_iff.1 h3).1, fun i hi => by
      rw [show 0 + i * 2 = 2 * i by omega, ho.cellAt (2 * i) (by omega)]
      exact (hg n i hi).1, fun i hi => by
      rw [show 0 + i * 2 + 1 = 2 * i + 1 by omega, ho.cellAt (2 * i + 1) (by omega)]
      exact (hg n i hi).2, fun i hi => ⟨(h.ok i hi).1, (h.ok i hi).2.2.1⟩⟩
end
end Wi
end Rg
end Go.Proofs.YtmcpagjhpfbpgaaGreatDoor
end
section
namespace Go.Proofs.YtmcpagjhpfbpgaaGreatDoor
open Go.RowKit
namespace Rg
namespace Wi
set_option maxRecDepth 100000
theorem wp_qmc {P : Program} {c : Code} {Q : Exit → Act → World → Prop} {a : Act} {w : World} (K : Act → World → Prop) (h : c.wp P (Qm K) a w) (hk : ∀ a w, K a w → Q .normal a w) : c.wp P Q a w :=
  wpIn_wide.1 (wpIn_mono (n := 9) (wpIn_wide.2 h) fun e a w hh => by cases e <;> first | exact hk _ _ hh | exact hh.elim)
theorem wp_qmA {α β : Type} {P : Program} {c : Code} {Q : Exit → Act → World → Prop} {a : Act} {w : World} (F : α → β → World → Prop) (h : ∃ A : α → β → Act, c.wp P (Qm fun a' u' => ∃ x y, a' = A x y ∧ F x y u') a w ∧ ∀ x y u', F x y u' → Q .normal (A x y) u') : c.wp P Q a w := by
  obtain ⟨A, h1, h2⟩ := h
  exact wp_qmc _ h1 fun a' u' ⟨x, y, e, hf⟩ => by rw [e]; exact h2 x y u' hf
theorem wp_qm0 {P : Program} {c : Code} {Q : Exit → Act → World → Prop} {a : Act} {w : World} (F : World → Prop) (h : ∃ A : Act, c.wp P (Qm fun a' u' => a' = A ∧ F u') a w ∧ ∀ u', F u' → Q .normal A u') : c.wp P Q a w := by
  obtain ⟨A, h1, h2⟩ := h
  exact wp_qmc _ h1 fun a' u' ⟨e, hf⟩ => by rw [e]; exact h2 u' hf
/-- A predicate that stays while nothing old is changed, and tells the store's disk and name. -/
structure Ik (g d : Nat) (base : ByteArray) (I : World → Prop) : Prop where
  st : ∀ u u', I u → Below u.heap.size u u' → I u'
  c0 : ∀ u, I u → u.cell? ⟨g, 0, none⟩ = some (PT d 0)
  c1 : ∀ u, I u → u.cell? ⟨g, 1, none⟩ = some (.string base)
end Wi
end Rg
end Go.Proofs.YtmcpagjhpfbpgaaGreatDoor
end
section
namespace Go.Proofs.YtmcpagjhpfbpgaaGreatDoor
open Go.RowKit
namespace Rg
namespace Wi
set_option maxRecDepth 100000
set_option maxHeartbeats 4000000 in
theorem check_ok (g j0 : Nat) (n : Nat) (hn : n < 1000000) (lo : ByteArray) (I0 : World → Prop) (I1 : Pt8 → World → Prop) (I2 I3 I4 : Nat → World → Prop)
    (s0 : ∀ u u', I0 u → Below u.heap.size u u' → I0 u') (s3 : ∀ j u u', I3 j u → Below u.heap.size u u' → I3 j u')
    (c0 : ∀ u, I0 u → u.cell? ⟨g, 2, none⟩ = some (PT j0 0) ∧ u.cell? ⟨g, 3, none⟩ = some (.int .i64 (n : Int)))
    (c2 : ∀ j u, I2 j u → (∃ p, u.cell? ⟨g, 2, none⟩ = some (PT p 0)) ∧ u.cell? ⟨g, 3, none⟩ = some (.int .i64 (n : Int)) ∧ u.frozen? ⟨g, 2, none⟩ = false ∧ u.frozen? ⟨g, 3, none⟩ = false)
    (h50 : ∀ u, I0 u → Calls Tryz.prog 50 #[PT g 0, .int .i64 ((n : Int) + 1)] u fun e u' => ∃ q : Pt8, e = .returned (.tuple #[.slice q.p q.n q.cp, .int .i64 0]) ∧ I1 q u')
    (h51 : ∀ q u, I1 q u → Calls Tryz.prog 51 #[PT g 0, .slice q.p q.n q.cp, .int .i64 ((n : Int) + 1)] u fun e u' => ∃ j, e = .returned (.tuple #[PT j 0, .int .i64 0]) ∧ I2 j u')
    (h2 : ∀ j u, I2 j u → I3 j ((u.setCell ⟨g, 3, none⟩ (.int .i64 ((n : Int) + 1))).setCell ⟨g, 2, none⟩ (PT j 0)))
    (h53 : ∀ j u, I3 j u → Calls Tryz.prog 53 #[PT g 0, .int .i64 (n : Int)] u fun e u' => e = .returned (.string lo) ∧ Below u.heap.size u u')
    (h52 : ∀ j u, I3 j u → Calls Tryz.prog 52 #[PT g 0, .string lo] u fun e u' => ∃ r, e = .returned (.int .i64 r) ∧ I4 j u')
    (w : World) (hw : I0 w) : Calls Tryz.prog 15 #[PT g 0] w fun e u' => e = .returned (.int .i64 0) ∧ ∃ j, I4 j u' := by
  obtain ⟨k2, k3⟩ := c0 w hw
  have H50 : Hid _ := h50
  have H51 : Hid _ := h51
  have H53 : Hid _ := h53
  have H52 : Hid _ := h52
  have H2 : Hid _ := h2
  have S0 : Hid _ := s0
  have S3 : Hid _ := s3
  have C2 : Hid _ := c2
  have HW : Hid _ := hw
  clear h50 h51 h53 h52 h2 s0 s3 c0 c2 hw
  go_enter Tryz.func15, Tryz.ntmps15
  go_wp2_with (first
    | (go_at_call 42; refine (smade_j g j0 _ k2).mono ?_; rintro e w ⟨rfl, rfl⟩)
    | fail)
  refine wp_qm0 (fun u' => Below w.heap.size w u') ?_
  apply Exists.intro
  apply And.intro
  · go_region
    all_goals (
      simp only [Qm]
      first | exact ⟨rfl, (Below.refl _ _).drew⟩ | exact ⟨trivial, (Below.refl _ _).drew⟩)
  intro w1 hb1
  have HW1 : Hid _ := S0.out _ _ HW.out hb1
  go_wp2_with (first
    | (go_at_call 52; refine Calls.mono (H52.out j w5 HW5.out) ?_; rintro e w6 ⟨r, rfl, hw6⟩; have HW6 : Hid _ := hw6; clear hw6)
    | (go_at_call 53; refine Calls.mono (H53.out j _ HW4.out) ?_; rintro e w5 ⟨rfl, hb5⟩; have HW5 : Hid _ := S3.out j _ _ HW4.out hb5; clear hb5)
    | (go_at_call 51; refine Calls.mono (H51.out q w2 HW2.out) ?_; rintro e w3 ⟨j, rfl, hw3⟩; have HW3 : Hid _ := hw3; have HW4 : Hid _ := H2.out j w3 hw3; obtain ⟨⟨p2, d2⟩, d3, f2, f3⟩ := C2.out j w3 hw3; clear hw3)
    | (go_at_call 50; refine Calls.mono (H50.out w1 HW1.out) ?_; rintro e w2 ⟨q, rfl, hw2⟩; have HW2 : Hid _ := hw2; clear hw2)
    | fail)
  go_ret
  exact ⟨rfl, j, HW6.out⟩
end Wi
end Rg
end Go.Proofs.YtmcpagjhpfbpgaaGreatDoor
end
section
namespace Go.Proofs.YtmcpagjhpfbpgaaGreatDoor
open Go.RowKit
namespace Rg
namespace Wi
set_option maxRecDepth 100000
set_option maxHeartbeats 4000000 in
theorem itoa_10 (n : Nat) (h1 : 10 ≤ n) (h2 : n < 18) (w : World) : Calls Tryz.prog 116 #[.int .i64 (n : Int)] w fun e w' => e = .returned (.string ⟨(dig n).toArray⟩) ∧ w' = w := by
  obtain rfl | rfl | rfl | rfl | rfl | rfl | rfl | rfl : n = 10 ∨ n = 11 ∨ n = 12 ∨ n = 13 ∨ n = 14 ∨ n = 15 ∨ n = 16 ∨ n = 17 := by omega
  all_goals (
    go_enter Tryz.func116, Tryz.ntmps116
    go_wp2_with go_in
    go_ret
    exact ⟨by kernel_rfl, rfl⟩)
set_option maxHeartbeats 4000000 in
theorem itoa_18 (n : Nat) (h1 : 18 ≤ n) (h2 : n < 25) (w : World) : Calls Tryz.prog 116 #[.int .i64 (n : Int)] w fun e w' => e = .returned (.string ⟨(dig n).toArray⟩) ∧ w' = w := by
  obtain rfl | rfl | rfl | rfl | rfl | rfl | rfl : n = 18 ∨ n = 19 ∨ n = 20 ∨ n = 21 ∨ n = 22 ∨ n = 23 ∨ n = 24 := by omega
  all_goals (
    go_enter Tryz.func116, Tryz.ntmps116
    go_wp2_with go_in
    go_ret
    exact ⟨by kernel_rfl, rfl⟩)
set_option maxHeartbeats 4000000 in
theorem itoa_25 (n : Nat) (h1 : 25 ≤ n) (h2 : n < 32) (w : World) : Calls Tryz.prog 116 #[.int .i64 (n : Int)] w fun e w' => e = .returned (.string ⟨(dig n).toArray⟩) ∧ w' = w := by
  obtain rfl | rfl | rfl | rfl | rfl | rfl | rfl : n = 25 ∨ n = 26 ∨ n = 27 ∨ n = 28 ∨ n = 29 ∨ n = 30 ∨ n = 31 := by omega
  all_goals (
    go_enter Tryz.func116, Tryz.ntmps116
    go_wp2_with go_in
    go_ret
    exact ⟨by kernel_rfl, rfl⟩)
theorem itoa_any (n : Nat) (h : n < 32) (w : World) : Calls Tryz.prog 116 #[.int .i64 (n : Int)] w fun e w' => e = .returned (.string ⟨(dig n).toArray⟩) ∧ w' = w := by
  by_cases h1 : n < 10
  · exact itoa_lo n h1 w
  by_cases h2 : n < 18
  · exact itoa_10 n (by omega) h2 w
  by_cases h3 : n < 25
  · exact itoa_18 n (by omega) h3 w
  · exact itoa_25 n (by omega) h w
theorem log_any2 (g n : Nat) (hn : n < 32) (base : ByteArray) (hb : base.size ≤ 40) (w : World) (h : w.cell? ⟨g, 1, none⟩ = some (.string base)) : Calls Tryz.prog 53 #[PT g 0, .int .i64 (n : Int)] w fun e w' => e = .returned (.string (nlog base n)) ∧ Below w.heap.size w w' :=
  log_gen g n base _ hb (by show (dig n).toArray.size ≤ 2; simpa using dig_len n) w h (itoa_any n hn)
end Wi
end Rg
end Go.Proofs.YtmcpagjhpfbpgaaGreatDoor
end
section
namespace Go.Proofs.YtmcpagjhpfbpgaaGreatDoor
open Go.RowKit
namespace Rg
namespace Wi
set_option maxRecDepth 100000
set_option maxHeartbeats 1000000 in
theorem Rename_no_f (D : Dq) (s t : ByteArray) (w : World) (h : DOk w D) (hk : D.k + 1 < 4611686018427387904) (hno : D.no = true) :
    Calls Tryz.prog 112 #[PT D.d 0, .string s, .string t] w fun e w' => e = .returned (.int .i64 13) ∧ Dw w D D.tick w' := by
  have hc0 : Calls Tryz.prog 87 #[PT D.d 0] w fun e w' => e = .returned (.int .i64 13) ∧ DOk w' D.tick ∧ Chg D.bl w w' := (count_f D w h hk).mono fun e w' hh => ⟨by rw [hh.1, hno]; rfl, hh.2⟩
  clear h
  go_enter Tryz.func112, Tryz.ntmps112
  go_wp2_with (first
    | (go_at_call 87; refine hc0.mono ?_; rintro e w1 ⟨rfl, h1, hc1⟩; have HD : Hid (DOk w1 D.tick) := h1; clear h1)
    | fail)
  go_ret
  exact ⟨rfl, HD.out, hc1, fun x hx => .inl hx⟩
theorem ren_no_a {w0 u : World} {d : Nat} {A : Ad} {L : List Nat} (h : Da w0 d A L u) (hk : A.k < 1000000000) (s t : ByteArray) (hno : A.no = true) :
    Calls Tryz.prog 112 #[PT d 0, .string s, .string t] u fun e u' => e = .returned (.int .i64 13) ∧ Da w0 d A.tick L u' ∧ Kx L u u' := by
  obtain ⟨D, h1, rfl, rfl, h4⟩ := h
  have hk : D.k < 1000000000 := hk
  refine (Rename_no_f D s t u h1.dk (by omega) hno).mono fun e u' hh => ?_
  exact ⟨hh.1, Da.dw h1 h4 hh.2 rfl rfl⟩
end Wi
end Rg
end Go.Proofs.YtmcpagjhpfbpgaaGreatDoor
end
