/- Texts of the proof, joined. -/
import Derived.Test.YtmcpagjhpfbpgaaGreatDoorP9
section
namespace Go.Proofs.YtmcpagjhpfbpgaaGreatDoor
open Go.RowKit
namespace Rg
namespace Wi
set_option maxRecDepth 100000
abbrev ntmp (base : ByteArray) : ByteArray := base ++ ⟨#[46, 116, 109, 112]⟩
theorem ntmp_sz {base : ByteArray} (h : base.size ≤ 40) : (ntmp base).size ≤ 281474976710656 := by
  have e : (ntmp base).size = base.size + 4 := by
    show (base ++ _).size = _
    rw [ByteArray.size_append]
    rfl
  omega
theorem nlog_sz {base : ByteArray} (h : base.size ≤ 40) (n : Nat) : (nlog base n).size ≤ 281474976710656 := by
  have e : (nlog base n).size = base.size + 5 + (dig n).toArray.size := by
    show (base ++ _ ++ _).size = _
    rw [ByteArray.size_append, ByteArray.size_append]
    rfl
  have := dig_len n
  simp only [List.size_toArray] at e
  omega
/-- A file takes the name of another one, if that is not refused. -/
def Ad.rnm (A : Ad) (f : Af) (s t : ByteArray) : Int × Ad := if A.no then (13, A.tick) else (0, A.ren f s t)
section
variable {w0 u u' : World} {d g j mv nb N : Nat} {A A' : Ad} {base s : ByteArray} {G : Int} {B : ByteArray → Option (List Nat)} {L0 : List Nat}
/-- What an operation of the disk does to a store. -/
theorem So.op (h : So w0 d A g j mv base s G nb B N L0 u) : ∃ M, Da w0 d A M u ∧ g ∈ M ∧ (∀ x ∈ L0, x ∈ M) ∧ ∀ u' A', Da w0 d A' M u' → Kx M u u' → So w0 d A' g j mv base s G nb B N L0 u' ∧ Kx L0 u u' := by
  obtain ⟨⟨O, h1⟩, h2, ⟨c, z, h3, h4, h5⟩, h6, h7⟩ := h
  refine ⟨O ++ (j :: L0), h1.da, List.mem_append_left _ h1.og, fun x hx => List.mem_append_right _ (List.mem_cons_of_mem _ hx), fun u' A' ha hk => ⟨⟨⟨O, h1.kx ha (hk.sub fun x hx => List.mem_append_left _ hx)⟩, ?_, ⟨c, z, h3, h4, Mm.keep1 h5 hk.1 (hk.2 j (List.mem_append_right _ (List.mem_cons_self ..)))⟩, h6, h7⟩, hk.sub fun x hx => List.mem_append_right _ (List.mem_cons_of_mem _ hx)⟩⟩
  exact (World.cell?_of_block (hk.2 g (List.mem_append_left _ h1.og))).trans h2
theorem So.c0 (h : So w0 d A g j mv base s G nb B N L0 u) : u.cell? ⟨g, 0, none⟩ = some (PT d 0) := by
  obtain ⟨O, h1⟩ := h.1
  exact h1.c0
theorem So.c1 (h : So w0 d A g j mv base s G nb B N L0 u) : u.cell? ⟨g, 1, none⟩ = some (.string base) := by
  obtain ⟨O, h1⟩ := h.1
  exact h1.c1
theorem So.c3 (h : So w0 d A g j mv base s G nb B N L0 u) : u.cell? ⟨g, 3, none⟩ = some (.int .i64 G) := by
  obtain ⟨O, h1⟩ := h.1
  exact h1.c3
theorem So.rma (h : So w0 d A g j mv base s G nb B N L0 u) (hk : A.k < 1000000000) (t : ByteArray) (ht : t.size ≤ 281474976710656) :
    Calls Tryz.prog 52 #[PT g 0, .string t] u fun e u' => e = .returned (.int .i64 (A.rma t).1) ∧ So w0 d (A.rma t).2 g j mv base s G nb B N L0 u' ∧ Kx L0 u u' := by
  obtain ⟨M, m1, m2, m3, m4⟩ := h.op
  exact (rma_a m1 hk m2 h.c0 t ht).mono fun e u' hh => ⟨hh.1, m4 u' _ hh.2.1 hh.2.2⟩
theorem So.dapp (h : So w0 d A g j mv base s G nb B N L0 u) (hk : A.k < 1000000000) (ho : ∀ f ∈ A.fs, f.ops.length < 1000000) (t : ByteArray) (ht : t.size ≤ 281474976710656) (q : Pt8) (hq : Pq q u) (hL : ∀ x ∈ gbl q, x ∈ L0) (hn : q.n ≤ 281474976710656) :
    Calls Tryz.prog 35 #[PT d 0, .string t, .slice q.p q.n q.cp] u fun e u' => e = .returned (.int .i64 (A.app t (bs q.n q.f)).1) ∧ So w0 d (A.app t (bs q.n q.f)).2 g j mv base s G nb B N L0 u' ∧ Kx L0 u u' := by
  obtain ⟨M, m1, m2, m3, m4⟩ := h.op
  exact (app_a m1 hk ho t ht q hq (fun x hx => .inl (m3 x (hL x hx))) hn).mono fun e u' hh => ⟨hh.1, m4 u' _ hh.2.1 hh.2.2⟩
theorem So.dsyn (h : So w0 d A g j mv base s G nb B N L0 u) (hk : A.k < 1000000000) (t : ByteArray) (ht : t.size ≤ 281474976710656) :
    Calls Tryz.prog 37 #[PT d 0, .string t] u fun e u' => e = .returned (.int .i64 (A.syn t).1) ∧ So w0 d (A.syn t).2 g j mv base s G nb B N L0 u' ∧ Kx L0 u u' := by
  obtain ⟨M, m1, m2, m3, m4⟩ := h.op
  exact (syn_a m1 hk t ht).mono fun e u' hh => ⟨hh.1, m4 u' _ hh.2.1 hh.2.2⟩
theorem So.dren (h : So w0 d A g j mv base s G nb B N L0 u) (hk : A.k < 1000000000) (a t : ByteArray) (ha : a.size ≤ 281474976710656) (ht : t.size ≤ 281474976710656) (hn : nmd t = true) (f : Af) (hl : A.lk a = some f) (ho : f.ops = []) :
    Calls Tryz.prog 112 #[PT d 0, .string a, .string t] u fun e u' => e = .returned (.int .i64 (A.rnm f a t).1) ∧ So w0 d (A.rnm f a t).2 g j mv base s G nb B N L0 u' ∧ Kx L0 u u' := by
  obtain ⟨M, m1, m2, m3, m4⟩ := h.op
  unfold Ad.rnm
  by_cases hno : A.no = true
  · rw [if_pos hno]
    exact (ren_no_a m1 hk a t hno).mono fun e u' hh => ⟨hh.1, m4 u' _ hh.2.1 hh.2.2⟩
  · rw [if_neg hno]
    exact (ren_ok_a m1 hk a t ha ht hn (by simpa using hno) f hl ho).mono fun e u' hh => ⟨hh.1, m4 u' _ hh.2.1 hh.2.2⟩
/-- A log of no records is opened: nothing is done. -/
theorem So.jnew (h : So w0 d A g j mv base s G nb B N L0 u) (t : ByteArray) (ht : t.size ≤ 281474976710656) (hn : nmd t = true) (hc : A.ct t = []) :
    Calls Tryz.prog 111 #[PT d 0, .string t] u fun e u' => ∃ j' v, e = .returned (.tuple #[PT j' 0, v, .int .i64 0]) ∧ Mm u' [(j', jc d t 0 0)] ∧ u.heap.size ≤ j' ∧ Below u.heap.size u u' :=
  (jopen_a h.da t ht hn [] (fun r hr => by cases hr) hc (by decide)).mono fun e u' hh => by
    obtain ⟨j', v, P, BB, e1, e2, e3, _, e5, _⟩ := hh
    exact ⟨j', v, e1, e2, e5, e3⟩
end
theorem k_rma (A : Ad) (t : ByteArray) : (A.rma t).2.k ≤ A.k + 1 := by
  unfold Ad.rma
  cases A.lk t with
  | none => show A.k ≤ _; omega
  | some f =>
    show (A.rem t).2.k ≤ _
    unfold Ad.rem
    split
    · exact Nat.le_refl _
    · cases A.lk t <;> exact Nat.le_refl _
theorem fs_rma (A : Ad) (t : ByteArray) : ∀ f ∈ (A.rma t).2.fs, f ∈ A.fs := by
  unfold Ad.rma
  cases A.lk t with
  | none => exact fun f hf => hf
  | some f =>
    show ∀ f ∈ (A.rem t).2.fs, f ∈ A.fs
    unfold Ad.rem
    split
    · exact fun f hf => hf
    · cases A.lk t with
      | none => exact fun f hf => hf
      | some f => exact fun f hf => (List.mem_filter.1 hf).1
theorem lk_delA (A : Ad) (t : ByteArray) : (A.del t).lk t = none := by
  unfold Ad.del Ad.lk
  rw [List.find?_eq_none]
  intro x hx
  have := (List.mem_filter.1 hx).2
  simpa using this
/-- Behind a removal that is not refused the file is not there. -/
theorem rma_lk (A : Ad) (t : ByteArray) (h : (A.rma t).1 = 0) : (A.rma t).2.lk t = none := by
  unfold Ad.rma at h ⊢
  cases hl : A.lk t with
  | none => exact hl
  | some f =>
    rw [hl] at h
    have h : (A.rem t).1 = 0 := h
    show (A.rem t).2.lk t = none
    unfold Ad.rem at h ⊢
    split
    · rename_i c; rw [if_pos c] at h; cases h
    · rw [hl]
      exact lk_delA _ t
theorem k_app (A : Ad) (t : ByteArray) (b : List Nat) : (A.app t b).2.k = A.k + 1 := by
  unfold Ad.app
  split
  · rfl
  · split
    · rfl
    · cases A.lk t with
      | some f => dsimp only; split <;> rfl
      | none => dsimp only; split; rfl; split <;> rfl
theorem k_syn (A : Ad) (t : ByteArray) : (A.syn t).2.k = A.k + 1 := by
  unfold Ad.syn
  split
  · rfl
  · cases A.lk t <;> rfl
set_option maxHeartbeats 4000000 in
theorem replace_1 (g d : Nat) (base : ByteArray) (hs : base.size ≤ 40) (q : Pt8) (n r : Int) (hr : ¬r = 0) (I0 I1 : World → Prop) (k0 : Ik g d base I0)
    (h1 : ∀ u, I0 u → Calls Tryz.prog 52 #[PT g 0, .string (ntmp base)] u fun e u' => e = .returned (.int .i64 r) ∧ I1 u')
    (w : World) (hw : I0 w) : Calls Tryz.prog 51 #[PT g 0, .slice q.p q.n q.cp, .int .i64 n] w fun e u' => e = .returned (.tuple #[.pointer none, .int .i64 r]) ∧ I1 u' := by
  have H1 : Hid _ := h1
  have HW : Hid _ := hw
  have hc1 := k0.c1 w hw
  clear h1 hw
  go_enter Tryz.func51, Tryz.ntmps51
  go_wp2_with (first
    | (go_at_call 110; refine (tmp_any g base hs w hc1).mono ?_; rintro e w1 ⟨rfl, hw1⟩; subst hw1)
    | (go_at_call 52; refine Calls.mono (H1.out _ HW.out) ?_; rintro e w2 ⟨rfl, hw2⟩; have HW2 : Hid _ := hw2; clear hw2 HW)
    | fail)
  go_ret2
  exact ⟨rfl, HW2.out⟩
set_option maxHeartbeats 4000000 in
theorem replace_2 (g d : Nat) (base lg : ByteArray) (hs : base.size ≤ 40) (q : Pt8) (n r : Int) (hr : ¬r = 0) (I0 I1 I2 : World → Prop) (k0 : Ik g d base I0) (k1 : Ik g d base I1)
    (hlog : ∀ v, v.cell? ⟨g, 1, none⟩ = some (.string base) → Calls Tryz.prog 53 #[PT g 0, .int .i64 n] v fun e v' => e = .returned (.string lg) ∧ Below v.heap.size v v')
    (h1 : ∀ u, I0 u → Calls Tryz.prog 52 #[PT g 0, .string (ntmp base)] u fun e u' => e = .returned (.int .i64 0) ∧ I1 u')
    (h2 : ∀ u, I1 u → Calls Tryz.prog 52 #[PT g 0, .string lg] u fun e u' => e = .returned (.int .i64 r) ∧ I2 u')
    (w : World) (hw : I0 w) : Calls Tryz.prog 51 #[PT g 0, .slice q.p q.n q.cp, .int .i64 n] w fun e u' => e = .returned (.tuple #[.pointer none, .int .i64 r]) ∧ I2 u' := by
  have H1 : Hid _ := h1
  have HL : Hid _ := hlog
  have H2 : Hid _ := h2
  have HW : Hid _ := hw
  have hc1 := k0.c1 w hw
  clear h1 hlog h2 hw
  go_enter Tryz.func51, Tryz.ntmps51
  go_wp2_with (first
    | (go_at_call 53; refine Calls.mono (HL.out w2 hc2) ?_; rintro e w3 ⟨rfl, hb3⟩; have HW3 : Hid _ := k1.st _ _ HW2.out hb3; clear hb3)
    | (go_at_call 52; refine Calls.mono (H2.out w3 HW3.out) ?_; rintro e w4 ⟨rfl, hw4⟩; have HW4 : Hid _ := hw4; clear hw4)
    | (go_at_call 110; refine (tmp_any g base hs w hc1).mono ?_; rintro e w1 ⟨rfl, hw1⟩; subst hw1)
    | (go_at_call 52; refine Calls.mono (H1.out _ HW.out) ?_; rintro e w2 ⟨rfl, hw2⟩; have HW2 : Hid _ := hw2; have hc2 := k1.c1 w2 hw2; clear hw2 HW)
    | fail)
  go_ret2
  exact ⟨rfl, HW4.out⟩
set_option maxHeartbeats 4000000 in
theorem replace_4 (g d : Nat) (base lg : ByteArray) (hs : base.size ≤ 40) (q : Pt8) (n r : Int) (hr : ¬r = 0) (I0 I1 I2 : World → Prop) (I3 I4 : Nat → World → Prop) (k0 : Ik g d base I0) (k1 : Ik g d base I1) (k2 : Ik g d base I2) (k3 : ∀ j, Ik g d base (I3 j))
    (hlog : ∀ v, v.cell? ⟨g, 1, none⟩ = some (.string base) → Calls Tryz.prog 53 #[PT g 0, .int .i64 n] v fun e v' => e = .returned (.string lg) ∧ Below v.heap.size v v')
    (h1 : ∀ u, I0 u → Calls Tryz.prog 52 #[PT g 0, .string (ntmp base)] u fun e u' => e = .returned (.int .i64 0) ∧ I1 u')
    (h2 : ∀ u, I1 u → Calls Tryz.prog 52 #[PT g 0, .string lg] u fun e u' => e = .returned (.int .i64 0) ∧ I2 u')
    (h3 : ∀ u, I2 u → Calls Tryz.prog 111 #[PT d 0, .string lg] u fun e u' => ∃ j v, e = .returned (.tuple #[PT j 0, v, .int .i64 0]) ∧ I3 j u')
    (h4 : ∀ j u, I3 j u → Calls Tryz.prog 35 #[PT d 0, .string (ntmp base), .slice q.p q.n q.cp] u fun e u' => e = .returned (.int .i64 r) ∧ I4 j u')
    (w : World) (hw : I0 w) : Calls Tryz.prog 51 #[PT g 0, .slice q.p q.n q.cp, .int .i64 n] w fun e u' => e = .returned (.tuple #[.pointer none, .int .i64 r]) ∧ ∃ j, I4 j u' := by
  have H1 : Hid _ := h1
  have HL : Hid _ := hlog
  have H2 : Hid _ := h2
  have H3 : Hid _ := h3
  have H4 : Hid _ := h4
  have HW : Hid _ := hw
  have hc1 := k0.c1 w hw
  clear h1 hlog h2 h3 h4 hw
  go_enter Tryz.func51, Tryz.ntmps51
  go_wp2_with (first
    | (go_at_call 53; refine Calls.mono (HL.out w2 hc2) ?_; rintro e w3 ⟨rfl, hb3⟩; have HW3 : Hid _ := k1.st _ _ HW2.out hb3; clear hb3)
    | (go_at_call 52; refine Calls.mono (H2.out w3 HW3.out) ?_; rintro e w4 ⟨rfl, hw4⟩; have HW4 : Hid _ := hw4; have hc4 := k2.c1 w4 hw4; have hd4 := k2.c0 w4 hw4; clear hw4)
    | (go_at_call 110; refine (tmp_any g base hs w hc1).mono ?_; rintro e w1 ⟨rfl, hw1⟩; subst hw1)
    | (go_at_call 52; refine Calls.mono (H1.out _ HW.out) ?_; rintro e w2 ⟨rfl, hw2⟩; have HW2 : Hid _ := hw2; have hc2 := k1.c1 w2 hw2; clear hw2 HW)
    | fail)
  have hd4d : w4.drew.cell? ⟨g, 0, none⟩ = some (PT d 0) := hd4
  have hc4d : w4.drew.cell? ⟨g, 1, none⟩ = some (.string base) := hc4
  have HW4d : Hid (I2 w4.drew) := k2.st _ _ HW4.out (Below.refl _ _).drew
  refine wp_qmA (α := Nat) (β := Value) (fun j _ u' => I3 j u') ?_
  apply Exists.intro
  apply And.intro
  · go_region_with (first
      | (go_at_call 111; refine Calls.mono (H3.out w5 HW5.out) ?_; rintro e w6 ⟨j, v, rfl, hw6⟩; have HW6 : Hid _ := hw6; clear hw6)
      | (go_at_call 53; refine Calls.mono (HL.out w4.drew hc4d) ?_; rintro e w5 ⟨rfl, hb5⟩; have HW5 : Hid _ := k2.st _ _ HW4d.out hb5; have hd5 := k2.c0 w5 HW5.out; clear hb5)
      | fail)
    all_goals (
      simp only [Qm]
      exact ⟨j, v, rfl, HW6.out⟩)
  · intro j v w6 hw6
    have HW6 : Hid _ := hw6
    clear hw6
    go_wp2
    have HW6d : Hid _ := (k3 j).st _ _ HW6.out (Below.refl _ _).drew
    have hd6d : w6.drew.cell? ⟨g, 0, none⟩ = some (PT d 0) := (k3 j).c0 _ HW6d.out
    have hc6d : w6.drew.cell? ⟨g, 1, none⟩ = some (.string base) := (k3 j).c1 _ HW6d.out
    refine wp_qm0 (fun u' => I4 j u') ?_
    apply Exists.intro
    apply And.intro
    · go_region_with (first
        | (go_at_call 35; refine Calls.mono (H4.out j w6.drew HW6d.out) ?_; rintro e w7 ⟨rfl, hw7⟩; have HW7 : Hid _ := hw7; clear hw7)
        | (go_at_call 110; refine (tmp_any g base hs w6.drew hc6d).mono ?_; rintro e wx ⟨rfl, hwx⟩; subst hwx)
        | fail)
      all_goals (
        simp only [Qm]
        first | exact ⟨rfl, HW7.out⟩ | exact ⟨trivial, HW7.out⟩)
    intro w7 hw7
    have HW7 : Hid _ := hw7
    clear hw7
    go_wp2
    go_ret2
    exact ⟨rfl, j, HW7.out⟩
set_option maxHeartbeats 4000000 in
theorem replace_5 (g d : Nat) (base lg : ByteArray) (hs : base.size ≤ 40) (q : Pt8) (n r : Int) (hr : ¬r = 0) (I0 I1 I2 : World → Prop) (I3 I4 I5 : Nat → World → Prop) (k0 : Ik g d base I0) (k1 : Ik g d base I1) (k2 : Ik g d base I2) (k3 : ∀ j, Ik g d base (I3 j)) (k4 : ∀ j, Ik g d base (I4 j))
    (hlog : ∀ v, v.cell? ⟨g, 1, none⟩ = some (.string base) → Calls Tryz.prog 53 #[PT g 0, .int .i64 n] v fun e v' => e = .returned (.string lg) ∧ Below v.heap.size v v')
    (h1 : ∀ u, I0 u → Calls Tryz.prog 52 #[PT g 0, .string (ntmp base)] u fun e u' => e = .returned (.int .i64 0) ∧ I1 u')
    (h2 : ∀ u, I1 u → Calls Tryz.prog 52 #[PT g 0, .string lg] u fun e u' => e = .returned (.int .i64 0) ∧ I2 u')
    (h3 : ∀ u, I2 u → Calls Tryz.prog 111 #[PT d 0, .string lg] u fun e u' => ∃ j v, e = .returned (.tuple #[PT j 0, v, .int .i64 0]) ∧ I3 j u')
    (h4 : ∀ j u, I3 j u → Calls Tryz.prog 35 #[PT d 0, .string (ntmp base), .slice q.p q.n q.cp] u fun e u' => e = .returned (.int .i64 0) ∧ I4 j u')
    (h5 : ∀ j u, I4 j u → Calls Tryz.prog 37 #[PT d 0, .string (ntmp base)] u fun e u' => e = .returned (.int .i64 r) ∧ I5 j u')
    (w : World) (hw : I0 w) : Calls Tryz.prog 51 #[PT g 0, .slice q.p q.n q.cp, .int .i64 n] w fun e u' => e = .returned (.tuple #[.pointer none, .int .i64 r]) ∧ ∃ j, I5 j u' := by
  have H1 : Hid _ := h1
  have HL : Hid _ := hlog
  have H2 : Hid _ := h2
  have H3 : Hid _ := h3
  have H4 : Hid _ := h4
  have H5 : Hid _ := h5
  have HW : Hid _ := hw
  have hc1 := k0.c1 w hw
  clear h1 hlog h2 h3 h4 h5 hw
  go_enter Tryz.func51, Tryz.ntmps51
  go_wp2_with (first
    | (go_at_call 53; refine Calls.mono (HL.out w2 hc2) ?_; rintro e w3 ⟨rfl, hb3⟩; have HW3 : Hid _ := k1.st _ _ HW2.out hb3; clear hb3)
    | (go_at_call 52; refine Calls.mono (H2.out w3 HW3.out) ?_; rintro e w4 ⟨rfl, hw4⟩; have HW4 : Hid _ := hw4; have hc4 := k2.c1 w4 hw4; have hd4 := k2.c0 w4 hw4; clear hw4)
    | (go_at_call 110; refine (tmp_any g base hs w hc1).mono ?_; rintro e w1 ⟨rfl, hw1⟩; subst hw1)
    | (go_at_call 52; refine Calls.mono (H1.out _ HW.out) ?_; rintro e w2 ⟨rfl, hw2⟩; have HW2 : Hid _ := hw2; have hc2 := k1.c1 w2 hw2; clear hw2 HW)
    | fail)
  have hd4d : w4.drew.cell? ⟨g, 0, none⟩ = some (PT d 0) := hd4
  have hc4d : w4.drew.cell? ⟨g, 1, none⟩ = some (.string base) := hc4
  have HW4d : Hid (I2 w4.drew) := k2.st _ _ HW4.out (Below.refl _ _).drew
  refine wp_qmA (α := Nat) (β := Value) (fun j _ u' => I3 j u') ?_
  apply Exists.intro
  apply And.intro
  · go_region_with (first
      | (go_at_call 111; refine Calls.mono (H3.out w5 HW5.out) ?_; rintro e w6 ⟨j, v, rfl, hw6⟩; have HW6 : Hid _ := hw6; clear hw6)
      | (go_at_call 53; refine Calls.mono (HL.out w4.drew hc4d) ?_; rintro e w5 ⟨rfl, hb5⟩; have HW5 : Hid _ := k2.st _ _ HW4d.out hb5; have hd5 := k2.c0 w5 HW5.out; clear hb5)
      | fail)
    all_goals (
      simp only [Qm]
      exact ⟨j, v, rfl, HW6.out⟩)
  · intro j v w6 hw6
    have HW6 : Hid _ := hw6
    clear hw6
    go_wp2
    have HW6d : Hid _ := (k3 j).st _ _ HW6.out (Below.refl _ _).drew
    have hd6d : w6.drew.cell? ⟨g, 0, none⟩ = some (PT d 0) := (k3 j).c0 _ HW6d.out
    have hc6d : w6.drew.cell? ⟨g, 1, none⟩ = some (.string base) := (k3 j).c1 _ HW6d.out
    refine wp_qm0 (fun u' => I4 j u') ?_
    apply Exists.intro
    apply And.intro
    · go_region_with (first
        | (go_at_call 35; refine Calls.mono (H4.out j w6.drew HW6d.out) ?_; rintro e w7 ⟨rfl, hw7⟩; have HW7 : Hid _ := hw7; clear hw7)
        | (go_at_call 110; refine (tmp_any g base hs w6.drew hc6d).mono ?_; rintro e wx ⟨rfl, hwx⟩; subst hwx)
        | fail)
      all_goals (
        simp only [Qm]
        first | exact ⟨rfl, HW7.out⟩ | exact ⟨trivial, HW7.out⟩)
    intro w7 hw7
    have HW7 : Hid _ := hw7
    clear hw7
    go_wp2
    have HW7d : Hid _ := (k4 j).st _ _ HW7.out (Below.refl _ _).drew
    have hd7d : w7.drew.cell? ⟨g, 0, none⟩ = some (PT d 0) := (k4 j).c0 _ HW7d.out
    have hc7d : w7.drew.cell? ⟨g, 1, none⟩ = some (.string base) := (k4 j).c1 _ HW7d.out
    refine wp_qm0 (fun u' => I5 j u') ?_
    apply Exists.intro
    apply And.intro
    · go_region_with (first
        | (go_at_call 37; refine Calls.mono (H5.out j w7.drew HW7d.out) ?_; rintro e w8 ⟨rfl, hw8⟩; have HW8 : Hid _ := hw8; clear hw8)
        | (go_at_call 110; refine (tmp_any g base hs w7.drew hc7d).mono ?_; rintro e wx ⟨rfl, hwx⟩; subst hwx)
        | fail)
      all_goals (
        simp only [Qm]
        first | exact ⟨rfl, HW8.out⟩ | exact ⟨trivial, HW8.out⟩)
    intro w8 hw8
    have HW8 : Hid _ := hw8
    clear hw8
    go_wp2
    go_ret2
    exact ⟨rfl, j, HW8.out⟩
set_option maxHeartbeats 4000000 in
theorem replace_6 (g d : Nat) (base lg : ByteArray) (hs : base.size ≤ 40) (q : Pt8) (n r : Int) (I0 I1 I2 : World → Prop) (I3 I4 I5 I6 : Nat → World → Prop) (k0 : Ik g d base I0) (k1 : Ik g d base I1) (k2 : Ik g d base I2) (k3 : ∀ j, Ik g d base (I3 j)) (k4 : ∀ j, Ik g d base (I4 j)) (k5 : ∀ j, Ik g d base (I5 j))
    (hlog : ∀ v, v.cell? ⟨g, 1, none⟩ = some (.string base) → Calls Tryz.prog 53 #[PT g 0, .int .i64 n] v fun e v' => e = .returned (.string lg) ∧ Below v.heap.size v v')
    (h1 : ∀ u, I0 u → Calls Tryz.prog 52 #[PT g 0, .string (ntmp base)] u fun e u' => e = .returned (.int .i64 0) ∧ I1 u')
    (h2 : ∀ u, I1 u → Calls Tryz.prog 52 #[PT g 0, .string lg] u fun e u' => e = .returned (.int .i64 0) ∧ I2 u')
    (h3 : ∀ u, I2 u → Calls Tryz.prog 111 #[PT d 0, .string lg] u fun e u' => ∃ j v, e = .returned (.tuple #[PT j 0, v, .int .i64 0]) ∧ I3 j u')
    (h4 : ∀ j u, I3 j u → Calls Tryz.prog 35 #[PT d 0, .string (ntmp base), .slice q.p q.n q.cp] u fun e u' => e = .returned (.int .i64 0) ∧ I4 j u')
    (h5 : ∀ j u, I4 j u → Calls Tryz.prog 37 #[PT d 0, .string (ntmp base)] u fun e u' => e = .returned (.int .i64 0) ∧ I5 j u')
    (h6 : ∀ j u, I5 j u → Calls Tryz.prog 112 #[PT d 0, .string (ntmp base), .string (nsnap base)] u fun e u' => e = .returned (.int .i64 r) ∧ I6 j u')
    (w : World) (hw : I0 w) : Calls Tryz.prog 51 #[PT g 0, .slice q.p q.n q.cp, .int .i64 n] w fun e u' => ∃ j, e = .returned (.tuple #[PT j 0, .int .i64 r]) ∧ I6 j u' := by
  have H1 : Hid _ := h1
  have HL : Hid _ := hlog
  have H2 : Hid _ := h2
  have H3 : Hid _ := h3
  have H4 : Hid _ := h4
  have H5 : Hid _ := h5
  have H6 : Hid _ := h6
  have HW : Hid _ := hw
  have hc1 := k0.c1 w hw
  clear h1 hlog h2 h3 h4 h5 h6 hw
  go_enter Tryz.func51, Tryz.ntmps51
  go_wp2_with (first
    | (go_at_call 53; refine Calls.mono (HL.out w2 hc2) ?_; rintro e w3 ⟨rfl, hb3⟩; have HW3 : Hid _ := k1.st _ _ HW2.out hb3; clear hb3)
    | (go_at_call 52; refine Calls.mono (H2.out w3 HW3.out) ?_; rintro e w4 ⟨rfl, hw4⟩; have HW4 : Hid _ := hw4; have hc4 := k2.c1 w4 hw4; have hd4 := k2.c0 w4 hw4; clear hw4)
    | (go_at_call 110; refine (tmp_any g base hs w hc1).mono ?_; rintro e w1 ⟨rfl, hw1⟩; subst hw1)
    | (go_at_call 52; refine Calls.mono (H1.out _ HW.out) ?_; rintro e w2 ⟨rfl, hw2⟩; have HW2 : Hid _ := hw2; have hc2 := k1.c1 w2 hw2; clear hw2 HW)
    | fail)
  have hd4d : w4.drew.cell? ⟨g, 0, none⟩ = some (PT d 0) := hd4
  have hc4d : w4.drew.cell? ⟨g, 1, none⟩ = some (.string base) := hc4
  have HW4d : Hid (I2 w4.drew) := k2.st _ _ HW4.out (Below.refl _ _).drew
  refine wp_qmA (α := Nat) (β := Value) (fun j _ u' => I3 j u') ?_
  apply Exists.intro
  apply And.intro
  · go_region_with (first
      | (go_at_call 111; refine Calls.mono (H3.out w5 HW5.out) ?_; rintro e w6 ⟨j, v, rfl, hw6⟩; have HW6 : Hid _ := hw6; clear hw6)
      | (go_at_call 53; refine Calls.mono (HL.out w4.drew hc4d) ?_; rintro e w5 ⟨rfl, hb5⟩; have HW5 : Hid _ := k2.st _ _ HW4d.out hb5; have hd5 := k2.c0 w5 HW5.out; clear hb5)
      | fail)
    all_goals (
      simp only [Qm]
      exact ⟨j, v, rfl, HW6.out⟩)
  · intro j v w6 hw6
    have HW6 : Hid _ := hw6
    clear hw6
    go_wp2
    have HW6d : Hid _ := (k3 j).st _ _ HW6.out (Below.refl _ _).drew
    have hd6d : w6.drew.cell? ⟨g, 0, none⟩ = some (PT d 0) := (k3 j).c0 _ HW6d.out
    have hc6d : w6.drew.cell? ⟨g, 1, none⟩ = some (.string base) := (k3 j).c1 _ HW6d.out
    refine wp_qm0 (fun u' => I4 j u') ?_
    apply Exists.intro
    apply And.intro
    · go_region_with (first
        | (go_at_call 35; refine Calls.mono (H4.out j w6.drew HW6d.out) ?_; rintro e w7 ⟨rfl, hw7⟩; have HW7 : Hid _ := hw7; clear hw7)
        | (go_at_call 110; refine (tmp_any g base hs w6.drew hc6d).mono ?_; rintro e wx ⟨rfl, hwx⟩; subst hwx)
        | fail)
      all_goals (
        simp only [Qm]
        first | exact ⟨rfl, HW7.out⟩ | exact ⟨trivial, HW7.out⟩)
    intro w7 hw7
    have HW7 : Hid _ := hw7
    clear hw7
    go_wp2
    have HW7d : Hid _ := (k4 j).st _ _ HW7.out (Below.refl _ _).drew
    have hd7d : w7.drew.cell? ⟨g, 0, none⟩ = some (PT d 0) := (k4 j).c0 _ HW7d.out
    have hc7d : w7.drew.cell? ⟨g, 1, none⟩ = some (.string base) := (k4 j).c1 _ HW7d.out
    refine wp_qm0 (fun u' => I5 j u') ?_
    apply Exists.intro
    apply And.intro
    · go_region_with (first
        | (go_at_call 37; refine Calls.mono (H5.out j w7.drew HW7d.out) ?_; rintro e w8 ⟨rfl, hw8⟩; have HW8 : Hid _ := hw8; clear hw8)
        | (go_at_call 110; refine (tmp_any g base hs w7.drew hc7d).mono ?_; rintro e wx ⟨rfl, hwx⟩; subst hwx)
        | fail)
      all_goals (
        simp only [Qm]
        first | exact ⟨rfl, HW8.out⟩ | exact ⟨trivial, HW8.out⟩)
    intro w8 hw8
    have HW8 : Hid _ := hw8
    clear hw8
    go_wp2
    have HW8d : Hid _ := (k5 j).st _ _ HW8.out (Below.refl _ _).drew
    have hd8d : w8.drew.cell? ⟨g, 0, none⟩ = some (PT d 0) := (k5 j).c0 _ HW8d.out
    have hc8d : w8.drew.cell? ⟨g, 1, none⟩ = some (.string base) := (k5 j).c1 _ HW8d.out
    refine wp_qm0 (fun u' => I6 j u') ?_
    apply Exists.intro
    apply And.intro
    · go_region_with (first
        | (go_at_call 112; refine Calls.mono (H6.out j w8.drew HW8d.out) ?_; rintro e w9 ⟨rfl, hw9⟩; have HW9 : Hid _ := hw9; clear hw9)
        | (go_at_call 110; refine (tmp_any g base hs w8.drew hc8d).mono ?_; rintro e wx ⟨rfl, hwx⟩; subst hwx)
        | (go_at_call 113; refine (snap_any g base hs w8.drew hc8d).mono ?_; rintro e wx ⟨rfl, hwx⟩; subst hwx)
        | fail)
      all_goals (
        simp only [Qm]
        first | exact ⟨rfl, HW9.out⟩ | exact ⟨trivial, HW9.out⟩)
    intro w9 hw9
    have HW9 : Hid _ := hw9
    clear hw9
    go_wp2
    go_ret2
    exact ⟨j, rfl, HW9.out⟩
end Wi
end Rg
end Go.Proofs.YtmcpagjhpfbpgaaGreatDoor
end
section
namespace Go.Proofs.YtmcpagjhpfbpgaaGreatDoor
open Go.RowKit
namespace Rg
namespace Wi
set_option maxRecDepth 100000
section
variable {A : Ad} {s t : ByteArray}
theorem lk_nm {f : Af} (h : A.lk s = some f) : f.nm = s := by
  unfold Ad.lk at h
  have := List.find?_some h
  simpa using this
theorem lk_swap_eq {f0 : Af} (f : Af) (hf : f.nm = t) (h : A.lk t = some f0) : (A.swap t f).lk t = some f := by
  unfold Ad.lk at h
  unfold Ad.swap Ad.lk
  dsimp only
  revert h
  induction A.fs with
  | nil => intro h; cases h
  | cons x r ih =>
    intro h
    rw [List.map_cons, List.find?_cons]
    by_cases e : x.nm = t
    · rw [if_pos e, decide_eq_true hf]
    · rw [if_neg e, decide_eq_false e]
      rw [List.find?_cons, decide_eq_false e] at h
      exact ih h
theorem syn_eq (h : (A.syn t).1 = 0) : ∃ f, A.lk t = some f ∧ (A.syn t).2.lk t = some ⟨f.nm, f.cn, [], false⟩ := by
  unfold Ad.syn at h ⊢
  split
  · rename_i c; rw [if_pos c] at h; cases h
  · rename_i c
    rw [if_neg c] at h
    cases hl : A.lk t with
    | none => rw [hl] at h; cases h
    | some f =>
      refine ⟨f, rfl, ?_⟩
      exact (have e := lk_nm hl; lk_swap_eq (A := A.tick) _ e hl)
end
/-- One thing behind the other, as long as none is refused. -/
def sq (r : Int × Ad) (f : Ad → Int × Ad) : Int × Ad := if r.1 = 0 then f r.2 else r
def Ad.rnt (A : Ad) (a t : ByteArray) : Int × Ad := match A.lk a with
  | some f => A.rnm f a t
  | none => (6, A.tick)
/-- What replace does to a disk. -/
def Ad.rep (A : Ad) (base : ByteArray) (n : Nat) (b : List Nat) : Int × Ad :=
  sq (A.rma (ntmp base)) fun A1 => sq (A1.rma (nlog base n)) fun A2 => sq (A2.app (ntmp base) b) fun A4 => sq (A4.syn (ntmp base)) fun A5 => A5.rnt (ntmp base) (nsnap base)
section
variable {w0 u u' : World} {d g j mv nb N : Nat} {A A' : Ad} {base s : ByteArray} {G : Int} {B : ByteArray → Option (List Nat)} {L0 : List Nat}
/-- New blocks beside a store. -/
theorem So.more (h : So w0 d A g j mv base s G nb B N L0 u) (hb : Below u.heap.size u u') {M : List Nat} (hn : ∀ x ∈ M, u.heap.size ≤ x ∧ x < u'.heap.size) : So w0 d A g j mv base s G nb B N (M ++ L0) u' := by
  obtain ⟨⟨O, h1⟩, h2, ⟨c, z, h3, h4, h5⟩, h6, h7⟩ := h
  have hj := h1.da.lt (List.mem_append_right _ (List.mem_cons_self ..))
  refine ⟨⟨O, (h1.add hb hn).sub fun x hx => ?_⟩, (hb.cell (p := ⟨g, 2, none⟩) h1.gl).trans h2, ⟨c, z, h3, h4, h5.below hb⟩, h6, fun hm => ?_⟩
  · simp only [List.mem_cons, List.mem_append] at hx ⊢
    rcases hx with e | e | e
    · exact .inr (.inl e)
    · exact .inl e
    · exact .inr (.inr e)
  · rcases List.mem_append.1 hm with e | e
    · have := (hn _ e).1
      omega
    · exact h7 e
/-- A store while a checkpoint of the bytes q is laid. -/
def Ri (w0 : World) (d g j mv : Nat) (base s : ByteArray) (G : Int) (nb : Nat) (B : ByteArray → Option (List Nat)) (N : Nat) (L0 : List Nat) (u : World) (q : Pt8) (A : Ad) (u' : World) : Prop := So w0 d A g j mv base s G nb B N L0 u' ∧ Kx L0 u u' ∧ Pq q u'
/-- The same beside its new log. -/
def Rj (w0 : World) (d g j mv : Nat) (base s : ByteArray) (G : Int) (nb : Nat) (B : ByteArray → Option (List Nat)) (N : Nat) (L0 : List Nat) (u : World) (q : Pt8) (lo : ByteArray) (A : Ad) (j' : Nat) (u' : World) : Prop := So w0 d A g j mv base s G nb B N (j' :: L0) u' ∧ Kx L0 u u' ∧ Pq q u' ∧ Mm u' [(j', jc d lo 0 0)] ∧ u.heap.size ≤ j'
theorem Ri.ik (q : Pt8) (_hL : ∀ x ∈ gbl q, x ∈ L0) : Ik g d base (Ri w0 d g j mv base s G nb B N L0 u q A) :=
  ⟨fun _v _v' h hb => ⟨(h.1.below hb).1, h.2.1.trans (h.1.below hb).2, h.2.2.below hb⟩, fun _v h => h.1.c0, fun _v h => h.1.c1⟩
theorem Rj.ik (q : Pt8) (_hL : ∀ x ∈ gbl q, x ∈ L0) (lo : ByteArray) (j' : Nat) : Ik g d base (Rj w0 d g j mv base s G nb B N L0 u q lo A j') :=
  ⟨fun _v _v' h hb => ⟨(h.1.below hb).1, h.2.1.trans ((h.1.below hb).2.sub fun _x hx => List.mem_cons_of_mem _ hx), h.2.2.1.below hb, h.2.2.2.1.below hb, h.2.2.2.2⟩, fun _v h => h.1.c0, fun _v h => h.1.c1⟩
theorem Ri.next (q : Pt8) (hL : ∀ x ∈ gbl q, x ∈ L0) {v v' : World} (h : Ri w0 d g j mv base s G nb B N L0 u q A v) (h1 : So w0 d A' g j mv base s G nb B N L0 v') (h2 : Kx L0 v v') : Ri w0 d g j mv base s G nb B N L0 u q A' v' :=
  ⟨h1, h.2.1.trans h2, h.2.2.kx h2 hL⟩
theorem Rj.next (q : Pt8) (hL : ∀ x ∈ gbl q, x ∈ L0) (lo : ByteArray) (j' : Nat) {v v' : World} (h : Rj w0 d g j mv base s G nb B N L0 u q lo A j' v) (h1 : So w0 d A' g j mv base s G nb B N (j' :: L0) v') (h2 : Kx (j' :: L0) v v') : Rj w0 d g j mv base s G nb B N L0 u q lo A' j' v' :=
  ⟨h1, h.2.1.trans (h2.sub fun _x hx => List.mem_cons_of_mem _ hx), h.2.2.1.kx h2 (fun x hx => List.mem_cons_of_mem _ (hL x hx)), Mm.keep1 h.2.2.2.1 h2.1 (h2.2 j' (List.mem_cons_self ..)), h.2.2.2.2⟩
theorem So.rep (h : So w0 d A g j mv base s G nb B N L0 u) (hk : A.k < 999999990) (ho : ∀ f ∈ A.fs, f.ops.length < 999999) (hs : base.size ≤ 40) (n : Nat) (hn : n < 32) (hnl : nmd (nlog base n) = true) (hns : nmd (nsnap base) = true) (q : Pt8) (hq : Pq q u) (hL : ∀ x ∈ gbl q, x ∈ L0) (hqn : q.n ≤ 281474976710656) (r : Int) (A' : Ad) (hA' : A.rep base n (bs q.n q.f) = (r, A')) :
    Calls Tryz.prog 51 #[PT g 0, .slice q.p q.n q.cp, .int .i64 (n : Int)] u fun e u' => ∃ v, e = .returned (.tuple #[v, .int .i64 r]) ∧ So w0 d A' g j mv base s G nb B N L0 u' ∧ Kx L0 u u' ∧ (r = 0 → ∃ j', v = PT j' 0 ∧ Rj w0 d g j mv base s G nb B N L0 u q (nlog base n) A' j' u') := by
  have hl0 : ∀ v, v.cell? ⟨g, 1, none⟩ = some (.string base) → Calls Tryz.prog 53 #[PT g 0, .int .i64 (n : Int)] v fun e v' => e = .returned (.string (nlog base n)) ∧ Below v.heap.size v v' := fun v hv => log_any2 g n hn base hs v hv
  have hI : Ri w0 d g j mv base s G nb B N L0 u q A u := ⟨h, Kx.refl _ _, hq⟩
  have st1 : ∀ v, Ri w0 d g j mv base s G nb B N L0 u q A v → Calls Tryz.prog 52 #[PT g 0, .string (ntmp base)] v fun e u' => e = .returned (.int .i64 (A.rma (ntmp base)).1) ∧ Ri w0 d g j mv base s G nb B N L0 u q (A.rma (ntmp base)).2 u' := fun v hv => (hv.1.rma (by omega) _ (ntmp_sz hs)).mono fun e u' hh => ⟨hh.1, Ri.next q hL hv hh.2.1 hh.2.2⟩
  have hk1 := k_rma A (ntmp base)
  have hf1 := fs_rma A (ntmp base)
  unfold Ad.rep at hA'
  by_cases c1 : (A.rma (ntmp base)).1 = 0
  rotate_left
  · rw [sq, if_neg c1] at hA'
    rw [hA'] at st1 c1
    refine (replace_1 g d base hs q n r c1 _ _ (Ri.ik q hL) st1 u hI).mono fun e u' hh => ?_
    exact ⟨_, hh.1, hh.2.1, hh.2.2.1, fun e => absurd e c1⟩
  rw [sq, if_pos c1] at hA'
  rw [c1] at st1
  generalize (A.rma (ntmp base)).2 = A1 at hA' st1 hk1 hf1
  have st2 : ∀ v, Ri w0 d g j mv base s G nb B N L0 u q A1 v → Calls Tryz.prog 52 #[PT g 0, .string (nlog base n)] v fun e u' => e = .returned (.int .i64 (A1.rma (nlog base n)).1) ∧ Ri w0 d g j mv base s G nb B N L0 u q (A1.rma (nlog base n)).2 u' := fun v hv => (hv.1.rma (by omega) _ (nlog_sz hs n)).mono fun e u' hh => ⟨hh.1, Ri.next q hL hv hh.2.1 hh.2.2⟩
  have hk2 := k_rma A1 (nlog base n)
  have hf2 := fs_rma A1 (nlog base n)
  by_cases c2 : (A1.rma (nlog base n)).1 = 0
  rotate_left
  · rw [sq, if_neg c2] at hA'
    rw [hA'] at st2 c2
    refine (replace_2 g d base (nlog base n) hs q n r c2 _ _ _ (Ri.ik q hL) (Ri.ik q hL) hl0 st1 st2 u hI).mono fun e u' hh => ?_
    exact ⟨_, hh.1, hh.2.1, hh.2.2.1, fun e => absurd e c2⟩
  rw [sq, if_pos c2] at hA'
  rw [c2] at st2
  have hlk := rma_lk A1 (nlog base n) c2
  generalize (A1.rma (nlog base n)).2 = A2 at hA' st2 hk2 hf2 hlk
  have st3 : ∀ v, Ri w0 d g j mv base s G nb B N L0 u q A2 v → Calls Tryz.prog 111 #[PT d 0, .string (nlog base n)] v fun e u' => ∃ j' x, e = .returned (.tuple #[PT j' 0, x, .int .i64 0]) ∧ Rj w0 d g j mv base s G nb B N L0 u q (nlog base n) A2 j' u' := fun v hv => (hv.1.jnew _ (nlog_sz hs n) hnl (by unfold Ad.ct; rw [hlk])).mono fun e u' hh => by
    obtain ⟨j', x, e1, e2, e3, e4⟩ := hh
    have hj' : j' < u'.heap.size := (e2.blk _ (List.mem_cons_self ..)).1
    exact ⟨j', x, e1, hv.1.more e4 (M := [j']) (fun y hy => by rw [List.mem_singleton.1 hy]; exact ⟨e3, hj'⟩), hv.2.1.trans (hv.1.below e4).2, hv.2.2.below e4, e2, Nat.le_trans hv.2.1.1 e3⟩
  have ho2 : ∀ f ∈ A2.fs, f.ops.length < 1000000 := fun f hf => by have := ho f (hf1 f (hf2 f hf)); omega
  have st4 : ∀ j' v, Rj w0 d g j mv base s G nb B N L0 u q (nlog base n) A2 j' v → Calls Tryz.prog 35 #[PT d 0, .string (ntmp base), .slice q.p q.n q.cp] v fun e u' => e = .returned (.int .i64 (A2.app (ntmp base) (bs q.n q.f)).1) ∧ Rj w0 d g j mv base s G nb B N L0 u q (nlog base n) (A2.app (ntmp base) (bs q.n q.f)).2 j' u' := fun j' v hv => (hv.1.dapp (by omega) ho2 _ (ntmp_sz hs) q hv.2.2.1 (fun x hx => List.mem_cons_of_mem _ (hL x hx)) hqn).mono fun e u' hh => ⟨hh.1, Rj.next q hL _ j' hv hh.2.1 hh.2.2⟩
  have hk4 := k_app A2 (ntmp base) (bs q.n q.f)
  by_cases c4 : (A2.app (ntmp base) (bs q.n q.f)).1 = 0
  rotate_left
  · rw [sq, if_neg c4] at hA'
    rw [hA'] at st4 c4
    refine (replace_4 g d base (nlog base n) hs q n r c4 _ _ _ _ _ (Ri.ik q hL) (Ri.ik q hL) (Ri.ik q hL) (fun j' => Rj.ik q hL _ j') hl0 st1 st2 st3 st4 u hI).mono fun e u' hh => ?_
    obtain ⟨e1, j', e2⟩ := hh
    exact ⟨_, e1, e2.1.sub fun x hx => List.mem_cons_of_mem _ hx, e2.2.1, fun e => absurd e c4⟩
  rw [sq, if_pos c4] at hA'
  rw [c4] at st4
  generalize (A2.app (ntmp base) (bs q.n q.f)).2 = A4 at hA' st4 hk4
  have st5 : ∀ j' v, Rj w0 d g j mv base s G nb B N L0 u q (nlog base n) A4 j' v → Calls Tryz.prog 37 #[PT d 0, .string (ntmp base)] v fun e u' => e = .returned (.int .i64 (A4.syn (ntmp base)).1) ∧ Rj w0 d g j mv base s G nb B N L0 u q (nlog base n) (A4.syn (ntmp base)).2 j' u' := fun j' v hv => (hv.1.dsyn (by omega) _ (ntmp_sz hs)).mono fun e u' hh => ⟨hh.1, Rj.next q hL _ j' hv hh.2.1 hh.2.2⟩
  have hk5 := k_syn A4 (ntmp base)
  by_cases c5 : (A4.syn (ntmp base)).1 = 0
  rotate_left
  · rw [sq, if_neg c5] at hA'
    rw [hA'] at st5 c5
    refine (replace_5 g d base (nlog base n) hs q n r c5 _ _ _ _ _ _ (Ri.ik q hL) (Ri.ik q hL) (Ri.ik q hL) (fun j' => Rj.ik q hL _ j') (fun j' => Rj.ik q hL _ j') hl0 st1 st2 st3 st4 st5 u hI).mono fun e u' hh => ?_
    obtain ⟨e1, j', e2⟩ := hh
    exact ⟨_, e1, e2.1.sub fun x hx => List.mem_cons_of_mem _ hx, e2.2.1, fun e => absurd e c5⟩
  rw [sq, if_pos c5] at hA'
  rw [c5] at st5
  obtain ⟨f0, _, hf0⟩ := syn_eq c5
  generalize (A4.syn (ntmp base)).2 = A5 at hA' st5 hk5 hf0
  have hA' : A5.rnm ⟨f0.nm, f0.cn, [], false⟩ (ntmp base) (nsnap base) = (r, A') := by
    rw [← hA']
    unfold Ad.rnt
    rw [hf0]
  have st6 : ∀ j' v, Rj w0 d g j mv base s G nb B N L0 u q (nlog base n) A5 j' v → Calls Tryz.prog 112 #[PT d 0, .string (ntmp base), .string (nsnap base)] v fun e u' => e = .returned (.int .i64 r) ∧ Rj w0 d g j mv base s G nb B N L0 u q (nlog base n) A' j' u' := fun j' v hv => (hv.1.dren (by omega) _ _ (ntmp_sz hs) (nsnap_sz hs) hns _ hf0 rfl).mono fun e u' hh => by
    rw [hA'] at hh
    exact ⟨hh.1, Rj.next q hL _ j' hv hh.2.1 hh.2.2⟩
  refine (replace_6 g d base (nlog base n) hs q n r _ _ _ _ _ _ _ (Ri.ik q hL) (Ri.ik q hL) (Ri.ik q hL) (fun j' => Rj.ik q hL _ j') (fun j' => Rj.ik q hL _ j') (fun j' => Rj.ik q hL _ j') hl0 st1 st2 st3 st4 st5 st6 u hI).mono fun e u' hh => ?_
  obtain ⟨j', e1, e2⟩ := hh
  exact ⟨_, e1, e2.1.sub fun x hx => List.mem_cons_of_mem _ hx, e2.2.1, fun _ => ⟨j', rfl, e2⟩⟩
end
end Wi
end Rg
end Go.Proofs.YtmcpagjhpfbpgaaGreatDoor
end
section
namespace Go.Proofs.YtmcpagjhpfbpgaaGreatDoor
open Go.RowKit
namespace Rg
namespace Wi
set_option maxRecDepth 100000
theorem own_set3 {u : World} {g d n : Nat} {x : Value} {P : Nat → Nat} (h : u.ownsRow 0 5 1 x n (ints .u8 P n)) (c0 : u.cell? ⟨g, 0, none⟩ = some (PT d 0)) (v : Value) : (u.setCell ⟨g, 3, none⟩ v).ownsRow 0 5 1 x n (ints .u8 P n) := by
  rcases h.2 with ⟨h1, h2⟩ | ⟨b, cap, cur, h1, h2, h3, h4, h5, h6, h7⟩
  · exact ⟨h.1, .inl ⟨h1, h2⟩⟩
  · by_cases e : b = g
    · subst e
      by_cases hn : n = 0
      · subst hn
        refine ⟨h.1, .inr ⟨b, cap, cur.setIfInBounds 3 v, h1, h2, ?_, h4, h5, ?_, ?_⟩⟩
        · simp [World.setCell, Array.getElem?_modify, h3]
        · simp [h6]
        · simp [ints]
      · exfalso
        have h' := h
        rw [h1] at h'
        have e1 := h'.cellAt 0 (by omega)
        rw [c0] at e1
        have e2 : (ints .u8 P n)[0]? = some (.int .u8 (P 0)) := by
          unfold ints
          rw [List.getElem?_map, List.getElem?_range (by omega)]
          rfl
        rw [e2] at e1
        cases e1
    · refine own_keep h fun y hy => Below.heap_setCell _ _ _ _ fun hg => e ?_
      rw [h1] at hy
      have : y = b := by simpa [vbl, Value.ownBlock] using hy
      rw [← this, hg]
section
variable {w0 u u' : World} {d g j mv nb N : Nat} {A A' : Ad} {base s : ByteArray} {G : Int} {B : ByteArray → Option (List Nat)} {O L L0 : List Nat}
theorem Sy.put3 (h : Sy w0 d A g mv base G B N O L u) (G' : Int) : Sy w0 d A g mv base G' B N O L (u.setCell ⟨g, 3, none⟩ (.int .i64 G')) ∧ Kx L u (u.setCell ⟨g, 3, none⟩ (.int .i64 G')) ∧ (u.setCell ⟨g, 3, none⟩ (.int .i64 G')).cell? ⟨g, 2, none⟩ = u.cell? ⟨g, 2, none⟩ := by
  have hc : Chg [g] u (u.setCell ⟨g, 3, none⟩ (.int .i64 G')) := put_chg g 3 [.int .i64 G']
  have hmg : mv ∉ [g] := fun e => h.gm (List.mem_singleton.1 e).symm
  have hk : ∀ k, k ≠ 3 → (u.setCell ⟨g, 3, none⟩ (.int .i64 G')).cell? ⟨g, k, none⟩ = u.cell? ⟨g, k, none⟩ := fun k hk => World.cell?_setCell_other _ _ _ _ (by intro e; cases e; omega)
  have hm : (u.setCell ⟨g, 3, none⟩ (.int .i64 G')).heap[mv]? = u.heap[mv]? := hc.block mv h.vb.lt hmg
  obtain ⟨V, M, v1, v2, v3, v4⟩ := h.vb
  refine ⟨⟨h.da.chg hc (fun x hx => by rw [List.mem_singleton.1 hx]; exact List.mem_append_left _ h.og) (fun x hx => by rw [List.mem_singleton.1 hx]; exact h.lo _ h.og), (hk 0 (by omega)).trans h.c0, (hk 1 (by omega)).trans h.c1, World.cell?_setCell_same _ _ _ h.c3, (hk 4 (by omega)).trans h.c4, fun k => ?_, ?_, h.lo, h.og, h.om, h.gm, h.ap⟩, hc.kx (fun x hx => h.da.lt (List.mem_append_right _ hx)) (fun x hx hm => h.ap g h.og (by rw [← List.mem_singleton.1 hm]; exact hx)), hk 2 (by omega)⟩
  · rw [World.frozen?_setCell]
    exact h.fz k
  · obtain ⟨X, x1, x2⟩ := v1.mp
    exact ⟨V, M, ⟨⟨X, ownMap_keep x1 hm, x2⟩, fun t y hy => own_set3 (v1.ow t y hy) h.c0 (.int .i64 G'), v1.nb⟩, v2, v3, v4⟩
end
theorem sq_k (X : Int × Ad) (f : Ad → Int × Ad) {m M : Nat} (h1 : X.2.k ≤ m) (hm : m ≤ M) (h2 : ∀ Y : Ad, Y.k ≤ m → (f Y).2.k ≤ M) : (sq X f).2.k ≤ M := by
  unfold sq
  split
  · exact h2 _ h1
  · omega
theorem k_rnt (A : Ad) (a t : ByteArray) : (A.rnt a t).2.k ≤ A.k + 1 := by
  unfold Ad.rnt
  cases A.lk a with
  | none => exact Nat.le_refl _
  | some f =>
    show (A.rnm f a t).2.k ≤ _
    unfold Ad.rnm
    split <;> exact Nat.le_refl _
theorem k_rep (A : Ad) (base : ByteArray) (n : Nat) (b : List Nat) : (A.rep base n b).2.k ≤ A.k + 5 := by
  unfold Ad.rep
  refine sq_k _ _ (m := A.k + 1) (k_rma _ _) (by omega) fun A1 h1 => ?_
  refine sq_k _ _ (m := A.k + 2) (Nat.le_trans (k_rma _ _) (by omega)) (by omega) fun A2 h2 => ?_
  refine sq_k _ _ (m := A.k + 3) (by rw [k_app]; omega) (by omega) fun A4 h4 => ?_
  refine sq_k _ _ (m := A.k + 4) (by rw [k_syn]; omega) (by omega) fun A5 h5 => ?_
  exact Nat.le_trans (k_rnt _ _ _) (by omega)
set_option maxHeartbeats 4000000 in
theorem check_err (g j0 : Nat) (n : Nat) (hn : n < 1000000) (r : Int) (hr : ¬r = 0) (I0 : World → Prop) (I1 : Pt8 → World → Prop) (I2 : World → Prop)
    (s0 : ∀ u u', I0 u → Below u.heap.size u u' → I0 u')
    (c0 : ∀ u, I0 u → u.cell? ⟨g, 2, none⟩ = some (PT j0 0) ∧ u.cell? ⟨g, 3, none⟩ = some (.int .i64 (n : Int)))
    (h50 : ∀ u, I0 u → Calls Tryz.prog 50 #[PT g 0, .int .i64 ((n : Int) + 1)] u fun e u' => ∃ q : Pt8, e = .returned (.tuple #[.slice q.p q.n q.cp, .int .i64 0]) ∧ I1 q u')
    (h51 : ∀ q u, I1 q u → Calls Tryz.prog 51 #[PT g 0, .slice q.p q.n q.cp, .int .i64 ((n : Int) + 1)] u fun e u' => ∃ v, e = .returned (.tuple #[v, .int .i64 r]) ∧ I2 u')
    (w : World) (hw : I0 w) : Calls Tryz.prog 15 #[PT g 0] w fun e u' => e = .returned (.int .i64 r) ∧ I2 u' := by
  obtain ⟨k2, k3⟩ := c0 w hw
  have H50 : Hid _ := h50
  have H51 : Hid _ := h51
  have S0 : Hid _ := s0
  have HW : Hid _ := hw
  clear h50 h51 s0 c0 hw
  go_enter Tryz.func15, Tryz.ntmps15
  go_wp2_with (first
    | (go_at_call 42; refine (smade_j g j0 _ k2).mono ?_; rintro e w ⟨rfl, rfl⟩)
    | fail)
  refine wp_qm0 (fun u' => Below w.heap.size w u') ?_
  apply Exists.intro
  apply And.intro
  · go_region
    all_goals (
      simp only [Qm]
      first | exact ⟨rfl, (Below.refl _ _).drew⟩ | exact ⟨trivial, (Below.refl _ _).drew⟩)
  intro w1 hb1
  have HW1 : Hid _ := S0.out _ _ HW.out hb1
  go_wp2_with (first
    | (go_at_call 51; refine Calls.mono (H51.out q w2 HW2.out) ?_; rintro e w3 ⟨v, rfl, hw3⟩; have HW3 : Hid _ := hw3; clear hw3)
    | (go_at_call 50; refine Calls.mono (H50.out w1 HW1.out) ?_; rintro e w2 ⟨q, rfl, hw2⟩; have HW2 : Hid _ := hw2; clear hw2)
    | fail)
  go_ret
  exact ⟨rfl, HW3.out⟩
section
variable {w0 u u' : World} {d g j mv nb N : Nat} {A A' : Ad} {base s : ByteArray} {G : Int} {B : ByteArray → Option (List Nat)} {O L L0 : List Nat}
theorem So.ckb (h : So w0 d A g j mv base s G nb B N L0 u) (n : Nat) (hn : n < 1000000) (hN : N ≤ 1000000) (hkl : ∀ k, (B k).isSome = true → k.size ≤ 128) (ks : List (List UInt8)) (hks : Kys B ks) (hsz : (fl (ckl n B ks)).length ≤ 1048576) :
    Calls Tryz.prog 50 #[PT g 0, .int .i64 (n : Int)] u fun e u' => ∃ q : Pt8, e = .returned (.tuple #[.slice q.p q.n q.cp, .int .i64 0]) ∧ So w0 d A g j mv base s G nb B N (gbl q ++ L0) u' ∧ Kx L0 u u' ∧ Pq q u' ∧ bs q.n q.f = fl (ckl n B ks) := by
  obtain ⟨O, h1⟩ := h.1
  refine (ckb_any g mv N n (by omega) _ B u h1.c4 h1.gl h1.vb hN hkl (fun k2 h2 => by rw [Kys.uniq h2 hks]; exact hsz)).mono ?_
  rintro e u' ⟨v, k2, rfl, h2, M, P, hc, hb⟩
  obtain ⟨q, rfl, q1, q2, q3, q4, q5, q6⟩ := hc.part
  have hlt : ∀ x ∈ gbl q, u.heap.size ≤ x ∧ x < u'.heap.size := fun x hx => by
    unfold gbl at hx
    split at hx
    · cases hx
    · obtain rfl := List.mem_singleton.1 hx
      exact ⟨q6 (by omega), q5.lt (by omega)⟩
  refine ⟨q, rfl, h.more hc.b hlt, (h.below hc.b).2, ⟨q1, q2, q5⟩, ?_⟩
  rw [q3, q4, hb, Kys.uniq h2 hks]
/-- Checkpoint. -/
theorem So.check (n : Nat) (h : So w0 d A g j mv base (nlog base n) (n : Int) nb B N L0 u) (hk : A.k < 999999980) (ho : ∀ f ∈ A.fs, f.ops.length < 999999) (hs : base.size ≤ 40) (hn : n + 1 < 32) (hnl : nmd (nlog base (n + 1)) = true) (hns : nmd (nsnap base) = true) (hN : N ≤ 1000000) (hkl : ∀ k, (B k).isSome = true → k.size ≤ 128) (ks : List (List UInt8)) (hks : Kys B ks) (hsz : (fl (ckl (n + 1) B ks)).length ≤ 1048576) (r : Int) (A' : Ad) (hA : A.rep base (n + 1) (fl (ckl (n + 1) B ks)) = (r, A')) :
    Calls Tryz.prog 15 #[PT g 0] u fun e u' => e = .returned (.int .i64 r) ∧ Kx L0 u u' ∧ (r = 0 → ∃ j', So w0 d (A'.rma (nlog base n)).2 g j' mv base (nlog base (n + 1)) ((n + 1 : Nat) : Int) nb B N L0 u') ∧ (r ≠ 0 → So w0 d A' g j mv base (nlog base n) (n : Int) nb B N L0 u') := by
  have en : (n : Int) + 1 = ((n + 1 : Nat) : Int) := by omega
  have hLL : ∀ q : Pt8, ∀ x ∈ gbl q, x ∈ gbl q ++ L0 := fun q x hx => List.mem_append_left _ hx
  have h50 : ∀ v, (So w0 d A g j mv base (nlog base n) (n : Int) nb B N L0 v ∧ Kx L0 u v) → Calls Tryz.prog 50 #[PT g 0, .int .i64 ((n : Int) + 1)] v fun e u' => ∃ q : Pt8, e = .returned (.tuple #[.slice q.p q.n q.cp, .int .i64 0]) ∧ (So w0 d A g j mv base (nlog base n) (n : Int) nb B N (gbl q ++ L0) u' ∧ Kx L0 u u' ∧ Pq q u' ∧ bs q.n q.f = fl (ckl (n + 1) B ks)) := fun v hv => by
    rw [en]
    refine (hv.1.ckb (n + 1) (by omega) hN hkl ks hks hsz).mono ?_
    rintro e u' ⟨q, rfl, e1, e2, e3, e4⟩
    exact ⟨q, rfl, e1, hv.2.trans e2, e3, e4⟩
  have h51 : ∀ (q : Pt8) v, (So w0 d A g j mv base (nlog base n) (n : Int) nb B N (gbl q ++ L0) v ∧ Kx L0 u v ∧ Pq q v ∧ bs q.n q.f = fl (ckl (n + 1) B ks)) → Calls Tryz.prog 51 #[PT g 0, .slice q.p q.n q.cp, .int .i64 ((n : Int) + 1)] v fun e u' => ∃ x, e = .returned (.tuple #[x, .int .i64 r]) ∧ So w0 d A' g j mv base (nlog base n) (n : Int) nb B N L0 u' ∧ Kx L0 u u' ∧ (r = 0 → ∃ j', x = PT j' 0 ∧ So w0 d A' g j mv base (nlog base n) (n : Int) nb B N (j' :: L0) u' ∧ Mm u' [(j', jc d (nlog base (n + 1)) 0 0)] ∧ w0.heap.size ≤ j' ∧ j' ∉ L0) := fun q v hv => by
    rw [en]
    obtain ⟨v1, v2, v3, v4⟩ := hv
    have hqn : q.n ≤ 281474976710656 := by
      have e1 : q.n = (fl (ckl (n + 1) B ks)).length := by rw [← v4, bs_len]
      omega
    refine (v1.rep (by omega) ho hs (n + 1) hn hnl hns q v3 (hLL q) hqn r A' (by rw [v4]; exact hA)).mono ?_
    rintro e u' ⟨x, rfl, e1, e2, e3⟩
    refine ⟨x, rfl, e1.sub fun y hy => List.mem_append_right _ hy, v2.trans (e2.sub fun y hy => List.mem_append_right _ hy), fun hr => ?_⟩
    obtain ⟨j', rfl, f1, f2, f3, f4, f5⟩ := e3 hr
    refine ⟨j', rfl, f1.sub fun y hy => ?_, f4, Nat.le_trans v1.da.b.size f5, fun hm => ?_⟩
    · rcases List.mem_cons.1 hy with e | e
      · exact List.mem_cons.2 (.inl e)
      · exact List.mem_cons_of_mem _ (List.mem_append_right _ e)
    · have := v1.da.lt (List.mem_append_right (gbl q) hm)
      omega
  have hI : So w0 d A g j mv base (nlog base n) (n : Int) nb B N L0 u ∧ Kx L0 u u := ⟨h, Kx.refl _ _⟩
  have s0 : ∀ v v', (So w0 d A g j mv base (nlog base n) (n : Int) nb B N L0 v ∧ Kx L0 u v) → Below v.heap.size v v' → (So w0 d A g j mv base (nlog base n) (n : Int) nb B N L0 v' ∧ Kx L0 u v') := fun v v' hv hb => ⟨(hv.1.below hb).1, hv.2.trans (hv.1.below hb).2⟩
  by_cases hr : r = 0
  rotate_left
  · refine (check_err g j n (by omega) r hr _ _ (fun u' => So w0 d A' g j mv base (nlog base n) (n : Int) nb B N L0 u' ∧ Kx L0 u u') s0 (fun v hv => ⟨hv.1.2.1, hv.1.c3⟩) h50 (fun q v hv => (h51 q v hv).mono fun e u' hh => by
      obtain ⟨x, e1, e2, e3, _⟩ := hh
      exact ⟨x, e1, e2, e3⟩) u hI).mono fun e u' hh => ?_
    exact ⟨hh.1, hh.2.2, fun e => absurd e hr, fun _ => hh.2.1⟩
  subst hr
  have hk' : A'.k < 1000000000 := by
    have e : A'.k = (A.rep base (n + 1) (fl (ckl (n + 1) B ks))).2.k := by rw [hA]
    have e2 : (A.rep base (n + 1) (fl (ckl (n + 1) B ks))).2.k ≤ A.k + 5 := by
      exact k_rep A base _ _
    omega
  refine (check_ok g j n (by omega) (nlog base n) _ _ (fun j' u' => So w0 d A' g j mv base (nlog base n) (n : Int) nb B N (j' :: L0) u' ∧ Kx L0 u u' ∧ Mm u' [(j', jc d (nlog base (n + 1)) 0 0)] ∧ w0.heap.size ≤ j' ∧ j' ∉ L0)
    (fun j' u' => So w0 d A' g j' mv base (nlog base (n + 1)) ((n + 1 : Nat) : Int) nb B N L0 u' ∧ Kx L0 u u')
    (fun j' u' => So w0 d (A'.rma (nlog base n)).2 g j' mv base (nlog base (n + 1)) ((n + 1 : Nat) : Int) nb B N L0 u' ∧ Kx L0 u u')
    s0 (fun j' v v' hv hb => ⟨(hv.1.below hb).1, hv.2.trans (hv.1.below hb).2⟩) (fun v hv => ⟨hv.1.2.1, hv.1.c3⟩)
    (fun j' v hv => ⟨⟨j, hv.1.2.1⟩, hv.1.c3, by obtain ⟨O, h1⟩ := hv.1.1; exact ⟨h1.fz 2, h1.fz 3⟩⟩) h50
    (fun q v hv => (h51 q v hv).mono fun e u' hh => by
      obtain ⟨x, e1, e2, e3, e4⟩ := hh
      obtain ⟨j', rfl, f1, f2, f3, f4⟩ := e4 rfl
      exact ⟨j', e1, f1, e3, f2, f3, f4⟩)
    (fun j' v hv => ?_) (fun j' v hv => log_any2 g n (by omega) base hs v hv.1.c1)
    (fun j' v hv => (hv.1.rma hk' _ (nlog_sz hs n)).mono fun e u' hh => ⟨_, hh.1, hh.2.1, hv.2.trans hh.2.2⟩) u hI).mono fun e u' hh => ?_
  · obtain ⟨v1, v2, v3, v4, v5⟩ := hv
    obtain ⟨⟨O, s1⟩, s2, s3, s4, s5⟩ := v1
    rw [en]
    obtain ⟨t1, t2, t3⟩ := s1.put3 ((n + 1 : Nat) : Int)
    obtain ⟨p1, p2⟩ := t1.put2 (PT j' 0)
    have kk := t2.trans p2
    have hj' : j' ∈ j :: j' :: L0 := by simp
    refine ⟨⟨⟨O, p1.sub fun x hx => List.mem_cons_of_mem _ hx⟩, World.cell?_setCell_same _ _ _ (t3.trans s2), ⟨0, 0, Nat.zero_le _, Nat.zero_le _, Mm.keep1 v3 kk.1 (kk.2 j' hj')⟩, v4, v5⟩, v2.trans (kk.sub fun x hx => List.mem_cons_of_mem _ (List.mem_cons_of_mem _ hx))⟩
  · obtain ⟨e1, j', e2, e3⟩ := hh
    exact ⟨e1, e3, fun _ => ⟨j', e2⟩, fun e => absurd rfl e⟩
end
end Wi
end Rg
end Go.Proofs.YtmcpagjhpfbpgaaGreatDoor
end
section
namespace Go.Proofs.YtmcpagjhpfbpgaaGreatDoor
open Go.RowKit
namespace Rg
namespace Wi
set_option maxRecDepth 100000
section
variable {w0 u u' : World} {d g j mv nb N : Nat} {A A' : Ad} {base s : ByteArray} {G : Int} {B : ByteArray → Option (List Nat)} {L0 : List Nat}
/-- Commit of changes that were just laid. -/
theorem So.comm (h : So w0 d A g j mv base s G nb B N L0 u) {u3 : World} (hb : Below u.heap.size u u3) (M : List Nat) (hM : ∀ x ∈ M, u.heap.size ≤ x ∧ x < u3.heap.size) (p : Option Addr) (gl o m c : Nat) (C : Nat → Cq) (hcl : Cl p gl o m C u3) (hgl : 0 < m → gl ∈ M) (hq : ∀ i, i < m → Pq (C i).q u3 ∧ ∀ x ∈ gbl (C i).q, x ∈ M) (l : List Ch) (hl : chl C m = l) (hm : m ≤ 64) (hf : ferr C m = 0) (hN : N ≤ 4000) (hr : rsum C m ≤ 65536) (hk : A.k < 1000000000) (ho : ∀ f ∈ A.fs, f.ops.length < 1000000) (hs : s.size ≤ 281474976710656) (hnb : nb ≤ 1000000000000) (r : Int) (A' : Ad) (ha : A.app s (fr (rc l)) = (r, A')) :
    Calls Tryz.prog 13 #[PT g 0, .slice p m c] u3 fun e u' => e = .returned (.int .i64 r) ∧ So w0 d A' g j mv base s G (nb + 70000) (if r = 0 then cdo B l else B) (N + m) L0 u' ∧ Kx L0 u u' := by
  have h3 := h.more hb hM
  have hca : Ca w0 (M ++ L0) p gl o m C u3 := ⟨hcl, fun h0 => .inl (List.mem_append_left _ (hgl h0)), fun i hi => (hq i hi).1, fun i hi x hx => .inl (List.mem_append_left _ ((hq i hi).2 x hx))⟩
  refine (h3.commit c hm hca hf hN hr hk ho hs hnb r A' (by rw [hl]; exact ha)).mono fun e u' hh => ?_
  obtain ⟨e1, e2, e3⟩ := hh
  rw [bdo_cdo, hl] at e2
  exact ⟨e1, e2.sub fun x hx => List.mem_append_right _ hx, (h.below hb).2.trans (e3.sub fun x hx => List.mem_append_right _ hx)⟩
end
/-- A world behind one that has a row or a struct more. -/
theorem be1 (u : World) (o : Obj) : Below u.heap.size u (u.alloc o) := (Below.refl _ u).alloc (Nat.le_refl _) _
theorem be2 {u v : World} (h : Below u.heap.size u v) (o : Obj) : Below u.heap.size u (v.alloc o) := h.trans ((be1 v o).mono h.size)
theorem ltp_gbl (g x : Nat) (l : List Nat) (hx : x ∈ gbl (ltp g l)) : x = g := by
  unfold gbl at hx
  split at hx
  · cases hx
  · exact List.mem_singleton.1 hx
abbrev ka : ByteArray := ⟨#[97]⟩
abbrev kb2 : ByteArray := ⟨#[98]⟩
abbrev kc : ByteArray := ⟨#[99]⟩
abbrev kA : ByteArray := ⟨#[65]⟩
abbrev bkv : ByteArray := ⟨#[107, 118]⟩
def C1 (n : Nat) (i : Nat) : Cq := if i = 0 then ⟨ka, ltp n [1], false⟩ else ⟨kb2, ltp (n + 1) [2], false⟩
def C2 (n : Nat) (i : Nat) : Cq := if i = 0 then ⟨ka, ⟨0, 0, 0, 0, none, fun _ => 0⟩, true⟩ else ⟨kc, ltp n [3], false⟩
def C3 (k : ByteArray) (v n : Nat) (_i : Nat) : Cq := ⟨k, ltp n [v], false⟩
def W1 (u : World) : World := ((u.alloc (lit [1])).alloc (lit [2])).alloc (.cells #[.string ka, .slice (some ⟨u.heap.size, 0, none⟩) 1 1, .bool false, .string kb2, .slice (some ⟨u.heap.size + 1, 0, none⟩) 1 1, .bool false] 65)
def W2 (u : World) : World := (u.alloc (lit [3])).alloc (.cells #[.string ka, .slice none 0 0, .bool true, .string kc, .slice (some ⟨u.heap.size, 0, none⟩) 1 1, .bool false] 65)
def W3 (k : ByteArray) (v : Nat) (u : World) : World := (u.alloc (lit [v])).alloc (.cells #[.string k, .slice (some ⟨u.heap.size, 0, none⟩) 1 1, .bool false] 65)
theorem w1_sz (u : World) : (W1 u).heap.size = u.heap.size + 1 + 1 + 1 := by simp [W1]
theorem w2_sz (u : World) : (W2 u).heap.size = u.heap.size + 1 + 1 := by simp [W2]
theorem w3_sz (k : ByteArray) (v : Nat) (u : World) : (W3 k v u).heap.size = u.heap.size + 1 + 1 := by simp [W3]
theorem w1_be (u : World) : Below u.heap.size u (W1 u) := be2 (be2 (be1 u _) _) _
theorem w2_be (u : World) : Below u.heap.size u (W2 u) := be2 (be1 u _) _
theorem w3_be (k : ByteArray) (v : Nat) (u : World) : Below u.heap.size u (W3 k v u) := be2 (be1 u _) _
theorem al_at {u : World} {n : Nat} (hn : u.heap.size = n) (C : Array Value) (T i : Nat) (v : Value) (h0 : C[i]? = some v) : (u.alloc (.cells C T)).cell? ⟨n, i, none⟩ = some v := by
  rw [← hn]
  exact al_new u C T i v h0
theorem w1_cl (u : World) : Cl (some ⟨u.heap.size + 1 + 1, 0, none⟩) (u.heap.size + 1 + 1) 0 2 (C1 u.heap.size) (W1 u) := by
  have hn : ((u.alloc (lit [1])).alloc (lit [2])).heap.size = u.heap.size + 1 + 1 := by simp
  refine ⟨fun _ => rfl, fun _ => by rw [w1_sz]; omega, fun i hi => ?_, fun i hi => ?_, fun i hi => ?_⟩
  all_goals (
    obtain rfl | rfl : i = 0 ∨ i = 1 := by omega
    all_goals exact al_at hn _ _ _ _ rfl)
theorem w1_q (u : World) : ∀ i, i < 2 → Pq (C1 u.heap.size i).q (W1 u) ∧ ∀ x ∈ gbl (C1 u.heap.size i).q, x ∈ [u.heap.size, u.heap.size + 1, u.heap.size + 1 + 1] := fun i hi => by
  obtain rfl | rfl : i = 0 ∨ i = 1 := by omega
  · exact ⟨(ltp_pq u [1]).below (be2 (be1 _ _) _), fun x hx => by rw [ltp_gbl _ _ _ hx]; simp⟩
  · have e : (u.alloc (lit [1])).heap.size = u.heap.size + 1 := by simp
    have h := ltp_pq (u.alloc (lit [1])) [2]
    rw [e] at h
    exact ⟨h.below (be1 _ _), fun x hx => by rw [ltp_gbl _ _ _ hx]; simp⟩
theorem w2_cl (u : World) : Cl (some ⟨u.heap.size + 1, 0, none⟩) (u.heap.size + 1) 0 2 (C2 u.heap.size) (W2 u) := by
  have hn : (u.alloc (lit [3])).heap.size = u.heap.size + 1 := by simp
  refine ⟨fun _ => rfl, fun _ => by rw [w2_sz]; omega, fun i hi => ?_, fun i hi => ?_, fun i hi => ?_⟩
  all_goals (
    obtain rfl | rfl : i = 0 ∨ i = 1 := by omega
    all_goals exact al_at hn _ _ _ _ rfl)
theorem w2_q (u : World) : ∀ i, i < 2 → Pq (C2 u.heap.size i).q (W2 u) ∧ ∀ x ∈ gbl (C2 u.heap.size i).q, x ∈ [u.heap.size, u.heap.size + 1] := fun i hi => by
  obtain rfl | rfl : i = 0 ∨ i = 1 := by omega
  · exact ⟨⟨⟨Bv.void _ _ _ _ _, Nat.le_refl _⟩, fun _ => rfl, Rs.void _ _ _ _⟩, fun x hx => by cases hx⟩
  · exact ⟨(ltp_pq u [3]).below (be1 _ _), fun x hx => by rw [ltp_gbl _ _ _ hx]; simp⟩
theorem w3_cl (k : ByteArray) (v : Nat) (u : World) : Cl (some ⟨u.heap.size + 1, 0, none⟩) (u.heap.size + 1) 0 1 (C3 k v u.heap.size) (W3 k v u) := by
  have hn : (u.alloc (lit [v])).heap.size = u.heap.size + 1 := by simp
  refine ⟨fun _ => rfl, fun _ => by rw [w3_sz]; omega, fun i hi => ?_, fun i hi => ?_, fun i hi => ?_⟩
  all_goals (
    obtain rfl : i = 0 := by omega
    exact al_at hn _ _ _ _ rfl)
theorem w3_q (k : ByteArray) (v : Nat) (u : World) : ∀ i, i < 1 → Pq (C3 k v u.heap.size i).q (W3 k v u) ∧ ∀ x ∈ gbl (C3 k v u.heap.size i).q, x ∈ [u.heap.size, u.heap.size + 1] := fun i _ =>
  ⟨(ltp_pq u [v]).below (be1 _ _), fun x hx => by rw [ltp_gbl _ _ _ hx]; simp⟩
def e1 : List Ch := [⟨ka, [1], false⟩, ⟨kb2, [2], false⟩]
def e2 : List Ch := [⟨ka, [], true⟩, ⟨kc, [3], false⟩]
def e3 (k : ByteArray) (v : Nat) : List Ch := [⟨k, [v], false⟩]
theorem c1_ch (n : Nat) : chl (C1 n) 2 = e1 := by
  show [Cq.ch _, Cq.ch _] = _
  unfold Cq.ch C1 e1
  simp only [if_pos, if_neg (show ¬1 = 0 by decide), ltp_bs]
theorem c2_ch (n : Nat) : chl (C2 n) 2 = e2 := by
  show [Cq.ch _, Cq.ch _] = _
  unfold Cq.ch C2 e2
  simp only [if_pos, if_neg (show ¬1 = 0 by decide), ltp_bs]
  rfl
theorem c3_ch (k : ByteArray) (v n : Nat) : chl (C3 k v n) 1 = e3 k v := by
  show [Cq.ch _] = _
  unfold Cq.ch C3 e3
  simp only [ltp_bs]
theorem sput_any (k : ByteArray) (v : Nat) (u : World) : Calls Tryz.prog 23 #[.string k, .int .u8 ((v : Nat) : Int)] u fun e u' => e = .returned (.slice (some ⟨u.heap.size + 1, 0, none⟩) 1 1) ∧ u' = W3 k v u := by
  go_enter Tryz.func23, Tryz.ntmps23
  go_wp2
  go_ret
  exact ⟨rfl, rfl⟩
def rf0 : Nat → Bool := fun _ => false
def f1 : List Nat := fr (rc e1)
def f2 : List Nat := fr (rc e2)
def f3 : List Nat := fr (rc (e3 ka 1))
def f4 : List Nat := fr (rc (e3 ka 2))
theorem f1_l : f1.length ≤ 1000 := by decide +kernel
theorem f2_l : f2.length ≤ 1000 := by decide +kernel
theorem f3_l : f3.length ≤ 1000 := by decide +kernel
theorem f4_l : f4.length ≤ 1000 := by decide +kernel
def lo : ByteArray := nlog bkv 0
def l1 : ByteArray := nlog bkv 1
def tm : ByteArray := ntmp bkv
def sn : ByteArray := nsnap bkv
theorem lo_ok : nmd lo = true := by decide +kernel
theorem l1_ok : nmd l1 = true := by decide +kernel
theorem tm_ok : nmd tm = true := by decide +kernel
theorem sn_ok : nmd sn = true := by decide +kernel
theorem kv_ok : nmd bkv = true := by decide +kernel
theorem kA_no : nmd kA = false := by decide +kernel
theorem lo_sz : lo.size ≤ 281474976710656 := nlog_sz (by decide) 0
theorem lo_sn : ¬lo = sn := by decide +kernel
theorem lo_tm : ¬lo = tm := by decide +kernel
theorem lo_l1 : ¬lo = l1 := by decide +kernel
theorem tm_sn : ¬tm = sn := by decide +kernel
theorem sn_lo : ¬sn = lo := by decide +kernel
def Bn : ByteArray → Option (List Nat) := fun _ => none
def ck : List Nat := fl (ckl 1 (cdo Bn (e3 ka 1)) [[97]])
theorem ck_l : ck.length ≤ 1000 := by decide +kernel
def s0 : Ad := ⟨0, [], rf0⟩
def s1 : Ad := ⟨1, [⟨lo, [], [(0, f1)], true⟩], rf0⟩
def s2 : Ad := ⟨2, [⟨lo, [], [(0, f1), (f1.length, f2)], true⟩], rf0⟩
def s3 : Ad := ⟨2, [], rf0⟩
def s4 : Ad := ⟨3, [⟨lo, [], [(0, f3)], true⟩], rf0⟩
def s5 : Ad := ⟨4, [⟨lo, f3, [], false⟩], rf0⟩
def s6 : Ad := ⟨5, [⟨lo, f3, [(f3.length, f4)], false⟩], rf0⟩
def s7 : Ad := ⟨5, [⟨lo, f3, [], false⟩], rf0⟩
def s8 : Ad := ⟨8, [⟨lo, f3, [], false⟩, ⟨sn, ck, [], false⟩], rf0⟩
def s9 : Ad := ⟨9, [⟨sn, ck, [], false⟩], rf0⟩
theorem t01 : s0.app lo f1 = (0, s1) := by
  have := f1_l
  simp [Ad.app, Ad.no, s0, s1, rf0, lo_ok, Ad.lk]
  omega
theorem t12 : s1.app lo f2 = (0, s2) := by
  have := f1_l
  have := f2_l
  simp [Ad.app, Ad.no, s1, s2, rf0, lo_ok, Ad.lk, Ad.swap, Ad.tick, Af.cn, ctn, Af.more]
  omega
theorem t23 : s2.cra (kof (kup (kbk 0 fun _ => kv0) 0)) = s3 := by simp [Ad.cra, s2, s3, kof, kup, kv0, Af.there, Af.dn, Af.tl]
theorem t34 : s3.app lo f3 = (0, s4) := by
  have := f3_l
  simp [Ad.app, Ad.no, s3, s4, rf0, lo_ok, Ad.lk]
  omega
theorem t45 : s4.jsy lo = (0, s5) := by simp [Ad.jsy, Ad.syn, Ad.no, s4, s5, rf0, Ad.lk, Ad.swap, Ad.tick, Af.cn, ctn]
theorem t56 : s5.app lo f4 = (0, s6) := by
  have := f3_l
  have := f4_l
  simp [Ad.app, Ad.no, s5, s6, rf0, lo_ok, Ad.lk, Ad.swap, Ad.tick, Af.cn, ctn, Af.more]
  omega
theorem t67 : s6.cra (kof (kup (kbk 0 fun _ => kv0) 0)) = s7 := by simp [Ad.cra, s6, s7, kof, kup, kv0, Af.there, Af.dn, Af.tl, Af.set, ctn]
theorem ct7 : s7.ct lo = f3 := by simp [Ad.ct, s7, Ad.lk, Af.cn, ctn]
theorem t78 : s7.rep bkv 1 ck = (0, s8) := by
  have := ck_l
  have a1 : s7.rma tm = (0, s7) := by simp [Ad.rma, s7, Ad.lk, lo_tm]
  have a2 : s7.rma l1 = (0, s7) := by simp [Ad.rma, s7, Ad.lk, lo_l1]
  have a3 : s7.app tm ck = (0, ⟨6, [⟨lo, f3, [], false⟩, ⟨tm, [], [(0, ck)], true⟩], rf0⟩) := by
    simp [Ad.app, Ad.no, s7, rf0, tm_ok, Ad.lk, lo_tm]
    omega
  have a4 : (⟨6, [⟨lo, f3, [], false⟩, ⟨tm, [], [(0, ck)], true⟩], rf0⟩ : Ad).syn tm = (0, ⟨7, [⟨lo, f3, [], false⟩, ⟨tm, ck, [], false⟩], rf0⟩) := by
    simp [Ad.syn, Ad.no, rf0, Ad.lk, lo_tm, Ad.swap, Ad.tick, Af.cn, ctn]
  have a5 : (⟨7, [⟨lo, f3, [], false⟩, ⟨tm, ck, [], false⟩], rf0⟩ : Ad).rnt tm sn = (0, s8) := by
    simp [Ad.rnt, Ad.rnm, Ad.ren, Ad.no, rf0, Ad.lk, lo_tm, lo_sn, tm_sn, s8]
  have key : ∀ (X : Int × Ad) (Y : Ad) (f : Ad → Int × Ad), X = (0, Y) → sq X f = f Y := fun X Y f h => by rw [h]; rfl
  exact (key (s7.rma tm) _ _ a1).trans ((key (s7.rma l1) _ _ a2).trans ((key (s7.app tm ck) _ _ a3).trans ((key (Ad.syn _ tm) _ _ a4).trans a5)))
theorem t89 : s8.rma lo = (0, s9) := by simp [Ad.rma, Ad.rem, Ad.del, Ad.no, Ad.tick, rf0, s8, s9, Ad.lk, sn_lo]
theorem n9 : s9.fs.map Af.nm = [sn] := rfl
end Wi
end Rg
end Go.Proofs.YtmcpagjhpfbpgaaGreatDoor
end
section
namespace Go.Proofs.YtmcpagjhpfbpgaaGreatDoor
open Go.RowKit
namespace Rg
namespace Wi
set_option maxRecDepth 100000
section
variable {w0 u u' : World} {d g j mv nb N : Nat} {A A' : Ad} {base s : ByteArray} {G : Int} {B : ByteArray → Option (List Nat)} {L0 : List Nat}
theorem kopen (h : Da w0 d A L0 u) (hsn : A.lk sn = none) (rs : List (List Ch)) (hr : ∀ l ∈ rs, l.length ≤ 64 ∧ (∀ c ∈ l, c.ok) ∧ (rc l).length ≤ 65536) (hct : A.ct lo = fl (rs.map rc)) (hN : (fl (rs.map rc)).length ≤ 1048576) (hNN : 64 * rs.length ≤ 4096) (B : ByteArray → Option (List Nat)) (hB : rs.foldl cdo Bn = B) (N : Nat) (hNe : 64 * rs.length = N) :
    Calls Tryz.prog 19 #[PT d 0, .string bkv] u fun e u' => ∃ g j mv, e = .returned (.tuple #[PT g 0, .int .i64 0]) ∧ So w0 d A g j mv bkv lo ((0 : Nat) : Int) 2000000 B N L0 u' := by
  subst hB
  subst hNe
  refine (sopen_new h bkv (by decide) kv_ok lo_ok hsn hr hct hN hNN).mono ?_
  rintro e u' ⟨g, j, mv, e1, e2⟩
  exact ⟨g, j, mv, e1, e2.mono (by decide) (Nat.le_refl _)⟩
theorem com1 (h : So w0 d s0 g j mv bkv lo G 2000000 Bn 0 [] u) : Calls Tryz.prog 13 #[PT g 0, .slice (some ⟨u.heap.size + 1 + 1, 0, none⟩) 2 2] (W1 u) fun e u' => e = .returned (.int .i64 0) ∧ So w0 d s1 g j mv bkv lo G 3000000 (cdo Bn e1) 2 [] u' :=
  (h.comm (w1_be u) [u.heap.size, u.heap.size + 1, u.heap.size + 1 + 1] (fun x hx => by rw [w1_sz]; simp at hx; omega) _ _ _ _ 2 _ (w1_cl u) (fun _ => by simp) (w1_q u) e1 (c1_ch _) (by decide) rfl (by decide) (Nat.le_of_ble_eq_true rfl) (by decide) (fun f hf => by cases hf) lo_sz (by decide) 0 s1 t01).mono fun _ _ hh => ⟨hh.1, hh.2.1.mono (by decide) (by decide)⟩
theorem com2 (h : So w0 d s1 g j mv bkv lo G 3000000 (cdo Bn e1) 2 L0 u) : Calls Tryz.prog 13 #[PT g 0, .slice (some ⟨u.heap.size + 1, 0, none⟩) 2 2] (W2 u) fun e u' => e = .returned (.int .i64 0) ∧ So w0 d s2 g j mv bkv lo G 4000000 (cdo (cdo Bn e1) e2) 4 L0 u' ∧ Kx L0 u u' :=
  (h.comm (w2_be u) [u.heap.size, u.heap.size + 1] (fun x hx => by rw [w2_sz]; simp at hx; omega) _ _ _ _ 2 _ (w2_cl u) (fun _ => by simp) (w2_q u) e2 (c2_ch _) (by decide) rfl (by decide) (Nat.le_of_ble_eq_true rfl) (by decide) (fun f hf => by simp [s1] at hf; rw [hf]; decide) lo_sz (by decide) 0 s2 t12).mono fun _ _ hh => ⟨hh.1, hh.2.1.mono (by decide) (by decide), hh.2.2⟩
theorem com3 (h : So w0 d s3 g j mv bkv lo G 2000000 Bn 0 [] u) : Calls Tryz.prog 13 #[PT g 0, .slice (some ⟨u.heap.size + 1, 0, none⟩) 1 1] (W3 ka 1 u) fun e u' => e = .returned (.int .i64 0) ∧ So w0 d s4 g j mv bkv lo G 3000000 (cdo Bn (e3 ka 1)) 1 [] u' :=
  (h.comm (w3_be ka 1 u) [u.heap.size, u.heap.size + 1] (fun x hx => by rw [w3_sz]; simp at hx; omega) _ _ _ _ 1 _ (w3_cl ka 1 u) (fun _ => by simp) (w3_q ka 1 u) (e3 ka 1) (c3_ch _ _ _) (by decide) rfl (by decide) (Nat.le_of_ble_eq_true rfl) (by decide) (fun f hf => by cases hf) lo_sz (by decide) 0 s4 t34).mono fun _ _ hh => ⟨hh.1, hh.2.1.mono (by decide) (by decide)⟩
theorem com4 (h : So w0 d s5 g j mv bkv lo G 3000000 (cdo Bn (e3 ka 1)) 1 [] u) : Calls Tryz.prog 13 #[PT g 0, .slice (some ⟨u.heap.size + 1, 0, none⟩) 1 1] (W3 ka 2 u) fun e u' => e = .returned (.int .i64 0) ∧ ∃ B', So w0 d s6 g j mv bkv lo G 4000000 B' 2 [] u' :=
  (h.comm (w3_be ka 2 u) [u.heap.size, u.heap.size + 1] (fun x hx => by rw [w3_sz]; simp at hx; omega) _ _ _ _ 1 _ (w3_cl ka 2 u) (fun _ => by simp) (w3_q ka 2 u) (e3 ka 2) (c3_ch _ _ _) (by decide) rfl (by decide) (Nat.le_of_ble_eq_true rfl) (by decide) (fun f hf => by simp [s5] at hf; rw [hf]; decide) lo_sz (by decide) 0 s6 t56).mono fun _ _ hh => ⟨hh.1, _, hh.2.1.mono (by decide) (by decide)⟩
/-- A value that is there. -/
theorem get1 (h : So w0 d A g j mv base s G nb B N L0 u) (k : ByteArray) (hk : k.size ≤ maxLen) (b : List Nat) (hB : B k = some b) :
    Calls Tryz.prog 12 #[PT g 0, .string k] u fun e u' => ∃ q : Pt8, e = .returned (.tuple #[.slice q.p q.n q.cp, .bool true]) ∧ Pq q u' ∧ bs q.n q.f = b ∧ So w0 d A g j mv base s G nb B N (gbl q ++ L0) u' := by
  refine (h.get k hk).mono ?_
  rintro e u' ⟨v, M, P, rfl, e1, e2, e3, e4⟩
  obtain ⟨q, rfl, q1, q2, q3, q4, q5, q6⟩ := e1.part
  refine ⟨q, by rw [hB]; rfl, ⟨q1, q2, q5⟩, by rw [q3, q4]; exact e2 b hB, h.more e1.b fun x hx => ?_⟩
  unfold gbl at hx
  split at hx
  · cases hx
  · obtain rfl := List.mem_singleton.1 hx
    exact ⟨q6 (by omega), q5.lt (by omega)⟩
theorem kys2 : Kys (cdo (cdo Bn e1) e2) [[98], [99]] := by
  refine ⟨by decide, by decide, fun l => ⟨fun h => ?_, fun h => ?_⟩⟩
  · simp at h
    rcases h with rfl | rfl
    · exact ⟨kb2, rfl, by decide⟩
    · exact ⟨kc, rfl, by decide⟩
  · obtain ⟨t, rfl, ht⟩ := h
    by_cases h1 : t = kc
    · subst h1; decide
    by_cases h2 : t = kb2
    · subst h2; decide
    by_cases h3 : t = ka
    · subst h3; revert ht; decide
    · exfalso
      simp [cdo, e1, e2, cput, Bn, h1, h2, h3] at ht
theorem kys7 : Kys (cdo Bn (e3 ka 1)) [[97]] := by
  refine ⟨by decide, by decide, fun l => ⟨fun h => ?_, fun h => ?_⟩⟩
  · simp at h
    subst h
    exact ⟨ka, rfl, by decide⟩
  · obtain ⟨t, rfl, ht⟩ := h
    by_cases h3 : t = ka
    · subst h3; decide
    · exfalso
      simp [cdo, e3, cput, Bn, h3] at ht
theorem pairs2 (h : So w0 d s2 g j mv bkv lo G 4000000 (cdo (cdo Bn e1) e2) 4 L0 u) : Calls Tryz.prog 16 #[PT g 0] u fun e u' => ∃ p gp c K P, e = .returned (.slice p 2 c) ∧ Pl p gp 0 2 K P u' ∧ (K 0 = kb2 ∧ bs (P 0).n (P 0).f = [2] ∧ K 1 = kc ∧ bs (P 1).n (P 1).f = [3]) ∧ So w0 d s2 g j mv bkv lo G 4000000 (cdo (cdo Bn e1) e2) 4 L0 u' ∧ Kx L0 u u' := by
  refine (h.pairs (by decide) (fun k hk => ?_)).mono ?_
  · by_cases h1 : k = kc
    · subst h1; decide
    by_cases h2 : k = kb2
    · subst h2; decide
    by_cases h3 : k = ka
    · subst h3; decide
    · exfalso
      simp [cdo, e1, e2, cput, Bn, h1, h2, h3] at hk
  · rintro e u' ⟨v, ks, P, rfl, k1, k2, k3, k4, k5, k6⟩
    obtain rfl := Kys.uniq k1 kys2
    obtain ⟨p, gp, c, rfl, hp⟩ := k3.pl
    refine ⟨p, gp, c, _, P, rfl, hp, ⟨rfl, ?_, rfl, ?_⟩, k5, k6⟩
    · have := k4 0 (by decide)
      exact (Option.some.inj ((by decide : cdo (cdo Bn e1) e2 (kat [[98], [99]] 0) = some [2]).symm.trans this)).symm
    · have := k4 1 (by decide)
      exact (Option.some.inj ((by decide : cdo (cdo Bn e1) e2 (kat [[98], [99]] 1) = some [3]).symm.trans this)).symm
def W4 (u : World) : World := ((u.alloc (lit [2])).alloc (lit [3])).alloc (.cells #[.string kb2, .slice (some ⟨u.heap.size, 0, none⟩) 1 1, .string kc, .slice (some ⟨u.heap.size + 1, 0, none⟩) 1 1] 69)
def P4 (n i : Nat) : Pt8 := if i = 0 then ltp n [2] else ltp (n + 1) [3]
def K4 (i : Nat) : ByteArray := if i = 0 then kb2 else kc
theorem w4_be (u : World) : Below u.heap.size u (W4 u) := be2 (be2 (be1 u _) _) _
theorem w4_pl (u : World) : Pl (some ⟨u.heap.size + 1 + 1, 0, none⟩) (u.heap.size + 1 + 1) 0 2 K4 (P4 u.heap.size) (W4 u) := by
  have hn : ((u.alloc (lit [2])).alloc (lit [3])).heap.size = u.heap.size + 1 + 1 := by simp
  refine ⟨fun _ => rfl, fun _ => by simp [W4], fun i hi => ?_, fun i hi => ?_, fun i hi => ?_⟩
  · obtain rfl | rfl : i = 0 ∨ i = 1 := by omega
    all_goals exact al_at hn _ _ _ _ rfl
  · obtain rfl | rfl : i = 0 ∨ i = 1 := by omega
    all_goals exact al_at hn _ _ _ _ rfl
  · obtain rfl | rfl : i = 0 ∨ i = 1 := by omega
    · have h := (ltp_pq u [2]).below (be2 (be1 (u.alloc (lit [2])) (lit [3])) (.cells #[.string kb2, .slice (some ⟨u.heap.size, 0, none⟩) 1 1, .string kc, .slice (some ⟨u.heap.size + 1, 0, none⟩) 1 1] 69))
      exact ⟨h.1, h.2.2⟩
    · have e : (u.alloc (lit [2])).heap.size = u.heap.size + 1 := by simp
      have h := ltp_pq (u.alloc (lit [2])) [3]
      rw [e] at h
      have h2 := h.below (be1 ((u.alloc (lit [2])).alloc (lit [3])) (.cells #[.string kb2, .slice (some ⟨u.heap.size, 0, none⟩) 1 1, .string kc, .slice (some ⟨u.heap.size + 1, 0, none⟩) 1 1] 69))
      exact ⟨h2.1, h2.2.2⟩
theorem sp2 {p : Option Addr} {gp c : Nat} {K : Nat → ByteArray} {P : Nat → Pt8} (h : Pl p gp 0 2 K P u) (hk : K 0 = kb2 ∧ bs (P 0).n (P 0).f = [2] ∧ K 1 = kc ∧ bs (P 1).n (P 1).f = [3]) : Calls Tryz.prog 21 #[.slice p 2 c, .slice (some ⟨u.heap.size + 1 + 1, 0, none⟩) 2 2] (W4 u) fun e u' => e = .returned (.bool true) ∧ Below u.heap.size u u' := by
  refine (samep_any c 2 (W4 u) (h.below (w4_be u)) (w4_pl u) (by decide) (by decide)).mono ?_
  rintro e u' ⟨b, rfl, hb, hbe⟩
  obtain ⟨k1, k2, k3, k4⟩ := hk
  have e1 : bs (P4 u.heap.size 0).n (P4 u.heap.size 0).f = [2] := ltp_bs _ _
  have e2 : bs (P4 u.heap.size 1).n (P4 u.heap.size 1).f = [3] := ltp_bs _ _
  rw [hb ⟨rfl, fun i hi => by
    obtain rfl | rfl : i = 0 ∨ i = 1 := by omega
    · exact ⟨k1, k2.trans e1.symm⟩
    · exact ⟨k3, k4.trans e2.symm⟩⟩]
  exact ⟨rfl, (w4_be u).trans (hbe.mono (w4_be u).size)⟩
theorem chk7 (h : So w0 d s7 g j mv bkv lo ((0 : Nat) : Int) 2000000 (cdo Bn (e3 ka 1)) 64 L0 u) : Calls Tryz.prog 15 #[PT g 0] u fun e u' => e = .returned (.int .i64 0) ∧ (∃ j', So w0 d s9 g j' mv bkv l1 ((1 : Nat) : Int) 2000000 (cdo Bn (e3 ka 1)) 64 L0 u') ∧ Kx L0 u u' := by
  refine (So.check 0 h (by decide) (fun f hf => by simp [s7] at hf; rw [hf]; decide) (by decide) (by decide) l1_ok sn_ok (by decide) (fun k hk => ?_) _ kys7 (Nat.le_trans ck_l (by decide)) 0 s8 t78).mono ?_
  · by_cases h3 : k = ka
    · subst h3; decide
    · exfalso
      simp [cdo, e3, cput, Bn, h3] at hk
  · rintro e u' ⟨rfl, e1, e2, _⟩
    obtain ⟨j', e3⟩ := e2 rfl
    have e4 : (s8.rma (nlog bkv 0)).2 = s9 := by rw [show s8.rma (nlog bkv 0) = (0, s9) from t89]
    rw [e4] at e3
    exact ⟨rfl, ⟨j', e3⟩, e1⟩
end
theorem com5 {w0 u : World} {d g j mv nb N : Nat} {A : Ad} {base s : ByteArray} {G : Int} {B : ByteArray → Option (List Nat)} {L0 : List Nat} (h : So w0 d A g j mv base s G nb B N L0 u) : Calls Tryz.prog 13 #[PT g 0, .slice (some ⟨u.heap.size + 1, 0, none⟩) 1 1] (W3 ⟨#[]⟩ 1 u) fun e u' => e = .returned (.int .i64 2) ∧ So w0 d A g j mv base s G nb B N L0 u' :=
  ((h.below (w3_be _ _ _)).1.cbad 1 (by decide) (w3_cl ⟨#[]⟩ 1 u) (fun e => absurd (show (2 : Int) = 0 from e) (by decide))).mono fun e u' hh => ⟨hh.1, ((h.below (w3_be ⟨#[]⟩ 1 u)).1.below hh.2).1⟩
theorem o3 : ∀ l ∈ [e3 ka 1], l.length ≤ 64 ∧ (∀ c ∈ l, c.ok) ∧ (rc l).length ≤ 65536 := by
  intro l hl
  rw [List.mem_singleton.1 hl]
  refine ⟨by decide, fun c hc => ?_, by decide +kernel⟩
  rw [List.mem_singleton.1 hc]
  exact ⟨by decide, by decide, by decide, fun e => by cases e⟩
theorem o3c : s7.ct lo = fl ([e3 ka 1].map rc) := by
  rw [ct7]
  unfold f3 fl
  simp
theorem o3n : (fl ([e3 ka 1].map rc)).length ≤ 1048576 := by
  rw [← o3c, ct7]
  exact Nat.le_trans f3_l (by decide)
theorem mk65 (u : World) : ∃ v, (Instr.makeSlice 39 (.int .i64 65) (.int .i64 65)).run Tryz.prog u = .ok (.slice (some ⟨u.heap.size, 0, none⟩) 65 65) v ∧ Below u.heap.size u v := by
  refine ⟨_, run_make (P := Tryz.prog) u 39 65 _ _ Tryz.underlying39 rfl rfl .i64 .i64 65 65 (by decide) (by decide) (by decide) (by decide), ?_⟩
  exact be1 u _
end Wi
end Rg
end Go.Proofs.YtmcpagjhpfbpgaaGreatDoor
end
section
namespace Go.Proofs.YtmcpagjhpfbpgaaGreatDoor
open Go.RowKit
namespace Rg
namespace Wi
set_option maxRecDepth 100000
set_option maxHeartbeats 4000000 in
theorem known15 (w : World) : Calls Tryz.prog 5 #[] w fun e w' => e = .returned (.bool true) ∧ Below w.heap.size w w' := by
  go_enter Tryz.func5, Tryz.ntmps5
  go_wp2_with (first
    | (go_at_call 22; refine (crash_a hU.out none 0 0 (fun _ => kv0) (by decide) (.inl ⟨rfl, rfl⟩)).mono ?_; rintro e w15 ⟨rfl, hV, _⟩; rw [t67] at hV; have hV : Hid (Da w d s7 [] w15) := hV; clear hU)
    | (go_at_call 19; refine (kopen hV.out rfl [e3 ka 1] o3 o3c o3n (by decide) (cdo Bn (e3 ka 1)) rfl 64 rfl).mono ?_; rintro e w16 ⟨g3, j3, m3, rfl, h16⟩; have h16 : Hid _ := h16; clear hV)
    | (go_at_call 12; refine (get1 h16.out ka (by decide) [1] (by decide)).mono ?_; rintro e w17 ⟨q3, rfl, p17, b17, h17⟩; have h17 : Hid _ := h17; have p17 : Hid _ := p17; have b17 : Hid _ := b17; clear h16)
    | (go_at_call 15; refine (chk7 h17.out).mono ?_; rintro e w18 ⟨rfl, ⟨j4, h18⟩, k18⟩; have h18 : Hid _ := h18; have p18 : Hid (Pq q3 w18) := Pq.kx p17.out k18 (fun x hx => List.mem_append_left _ hx); clear h17 p17 k18)
    | (go_at_call 19; refine (sopen_arg d kA w18 (working_any (So.da h18.out)) (fun v _ => by have := snamed_ok kA (by decide) v; rwa [kA_no] at this)).mono ?_; rintro e w19 ⟨rfl, hb⟩; have h19 : Hid _ := (So.below h18.out hb).1; have p19 : Hid _ := Pq.below p18.out hb; clear h18 p18 hb)
    | (go_at_call 20; refine (same_lit p19.out [1] b17.out).mono ?_; rintro e w20 ⟨rfl, hb⟩; have h20 : Hid _ := (So.below h19.out hb).1; clear h19 p19 hb)
    | (go_at_call 18; refine (sgen_any g3 j4 ((1 : Nat) : Int) w20 h20.out.2.1 (So.c3 h20.out)).mono ?_; rintro e w20 ⟨rfl, rfl⟩)
    | (go_at_call 25; refine (names1_a (So.da h20.out) sn n9).mono ?_; rintro e w22 ⟨gn, on, cn, rfl, hb, gn1, gn2, gn3⟩; have h22 : Hid _ := (So.below h20.out hb).1; have hgn : Hid _ := And.intro gn2 gn3; clear h20 hb gn1 gn2 gn3)
    | (go_at_call 24; refine (same_texts1 gn on cn w22.heap.size 0 1 sn (w22.alloc (.cells #[.string sn] 9)) ((al_old w22 _ hgn.out.1).trans hgn.out.2) (by have := hgn.out.1; simp; omega) (by simp) (al_new w22 _ 9 0 _ rfl)).mono ?_; rintro e w23 ⟨rfl, hb⟩; have h23 : Hid _ := (So.below h22.out ((be1 w22 _).trans (hb.mono (be1 w22 _).size))).1; clear h22 hb)
    | (go_at_call 23; refine (sput_any ⟨#[]⟩ 1 w23).mono ?_; rintro e w24 ⟨rfl, hw24⟩; subst hw24)
    | (go_at_call 13; refine (com5 h23.out).mono ?_; rintro e w25 ⟨rfl, h25⟩; have h25 : Hid _ := h25; clear h23)
    | (go_at_call 8; refine (New_nil w).mono ?_; rintro e w1 ⟨d, mb, rb, rfl, hN⟩; have h0 : Hid (Da w d s0 [] w1) := new_a hN; clear hN)
    | (go_at_call 19; refine (kopen h0.out rfl [] (fun l hl => by cases hl) rfl (by decide) (by decide) Bn rfl 0 rfl).mono ?_; rintro e w2 ⟨g1, j1, m1, rfl, h2⟩; have h2 : Hid _ := h2; clear h0)
    | (go_at_call 13; refine (com1 h2.out).mono ?_; rintro e w3 ⟨rfl, h3⟩; have h3 : Hid _ := h3; clear h2)
    | (go_at_call 12; refine (get1 h3.out ka (by decide) [1] (by decide)).mono ?_; rintro e w4 ⟨q1, rfl, p4, b4, h4⟩; have h4 : Hid _ := h4; have p4 : Hid _ := p4; have b4 : Hid _ := b4; clear h3)
    | (go_at_call 13; refine (com2 h4.out).mono ?_; rintro e w5 ⟨rfl, h5, k5⟩; have h5 : Hid _ := h5; have p5 : Hid (Pq q1 w5) := Pq.kx p4.out k5 (fun x hx => List.mem_append_left _ hx); clear h4 p4 k5)
    | (go_at_call 16; refine (pairs2 h5.out).mono ?_; rintro e w6 ⟨pp, gp, cp, K, P, rfl, l6, k6, h6, x6⟩; have h6 : Hid _ := h6; have l6 : Hid _ := l6; have k6 : Hid _ := k6; have p6 : Hid (Pq q1 w6) := Pq.kx p5.out x6 (fun x hx => List.mem_append_left _ hx); clear h5 p5 x6)
    | (go_at_call 20; refine (same_lit p6.out [1] b4.out).mono ?_; rintro e w7 ⟨rfl, hb⟩; have h7 : Hid _ := (So.below h6.out hb).1; have l7 : Hid _ := l6.out.below hb; clear h6 l6 p6 b4 hb)
    | (go_at_call 21; refine (sp2 l7.out k6.out).mono ?_; rintro e w8 ⟨rfl, hb⟩; have h8 : Hid (Da w d s2 [] w8) := (So.below h7.out hb).1.da.sub (fun x hx => by cases hx); clear h7 l7 k6 hb)
    | (go_at_call 22; refine (crash_a h8.out none 0 0 (fun _ => kv0) (by decide) (.inl ⟨rfl, rfl⟩)).mono ?_; rintro e w9 ⟨rfl, h9, _⟩; rw [t23] at h9; have h9 : Hid (Da w d s3 [] w9) := h9; clear h8)
    | (go_at_call 19; refine (kopen h9.out rfl [] (fun l hl => by cases hl) rfl (by decide) (by decide) Bn rfl 0 rfl).mono ?_; rintro e w10 ⟨g2, j2, m2, rfl, h10⟩; have h10 : Hid _ := h10; clear h9)
    | (go_at_call 17; refine (So.len h10.out).mono ?_; rintro e w10 ⟨⟨M0, rfl, hM0⟩, rfl⟩; obtain rfl : M0 = 0 := (by omega); clear hM0)
    | (go_at_call 23; refine (sput_any ka 1 w10).mono ?_; rintro e w11 ⟨rfl, hw11⟩; subst hw11; have h11 : Hid _ := h10)
    | (go_at_call 13; refine (com3 h11.out).mono ?_; rintro e w12 ⟨rfl, h12⟩; have h12 : Hid _ := h12; clear h10 h11)
    | (go_at_call 14; refine (So.sync h12.out (by decide) lo_sz 0 s5 t45).mono ?_; rintro e w13 ⟨rfl, h13, _⟩; have h13 : Hid _ := h13; clear h12)
    | (go_at_call 23; refine (sput_any ka 2 w13).mono ?_; rintro e w14 ⟨rfl, hw14⟩; subst hw14; have h14 : Hid _ := h13)
    | (go_at_call 13; refine (com4 h14.out).mono ?_; rintro e w14b ⟨rfl, B4, h14b⟩; have hU : Hid (Da w d s6 [] w14b) := h14b.da; clear h14 h13 h14b)
    | fail)
  obtain ⟨v65, hmk, hb65⟩ := mk65 w25
  rw [hmk, Result.andThen_ok]
  go_wp2_with (first
    | (go_at_call 13; refine ((So.below h25.out hb65).1.clong (p := some ⟨w25.heap.size, 0, none⟩) 65 (by decide)).mono ?_; rintro e w26 ⟨rfl, hb⟩)
    | fail)
  go_ret
  exact ⟨rfl, ((So.below h25.out hb65).1.below hb).1.da.b⟩
end Wi
end Rg
end Go.Proofs.YtmcpagjhpfbpgaaGreatDoor
end
