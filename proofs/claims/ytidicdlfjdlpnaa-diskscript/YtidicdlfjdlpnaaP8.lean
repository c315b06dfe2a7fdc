/- Texts of the proof, joined. -/
import Derived.Test.YtidicdlfjdlpnaaP7
import Derived.Laws.CopyOwn
import Derived.Shelf.SlIter.Stops
section
namespace Go.Proofs.Ytidicdlfjdlpnaa
open Go.RowKit
namespace Rg
namespace Wi
set_option maxRecDepth 100000
/-- What the keeps say of a name. -/
def kpz (pre : List (Nat × Kv)) (s : ByteArray) : Int × Int := ((kof pre s).1.2.1, (kof pre s).1.2.2)
theorem kpz_snoc (pre : List (Nat × Kv)) (x : Nat × Kv) (s : ByteArray) : kpz (pre ++ [x]) s = if x.2.1.1 = s then (x.2.1.2.1, x.2.1.2.2) else kpz pre s := by
  unfold kpz kof
  rw [List.reverse_append, List.reverse_singleton, List.singleton_append, List.find?_cons]
  by_cases c : x.2.1.1 = s
  · simp [c]
  · simp [c]
/-- The files that a crash leaves, in memory. -/
structure Co (w : World) (v : Value) (gs : List Mf) (u : World) : Prop where
  fo : Fo w v gs u
  ok : ∀ g ∈ gs, g.ov = .slice none 0 0 ∧ g.ops = [] ∧ Pq g.q u ∧ ∀ x ∈ gbl g.q, w.heap.size ≤ x ∧ x ∉ vbl v
theorem Co.start (w : World) : Co w (.slice none 0 0) [] w := ⟨Fo.start w, fun g hg => by cases hg⟩
theorem Co.step {w u u' : World} {v : Value} {gs : List Mf} (h : Co w v gs u) (hb : Below u.heap.size u u') : Co w v gs u' :=
  ⟨h.fo.step hb, fun g hg => ⟨(h.ok g hg).1, (h.ok g hg).2.1, Pq.below (h.ok g hg).2.2.1 hb, (h.ok g hg).2.2.2⟩⟩
theorem Co.app {w u : World} {v : Value} {gs : List Mf} (h : Co w v gs u) (s : ByteArray) (q : Pt8) (hq : Pq q u) (hqb : ∀ x ∈ gbl q, w.heap.size ≤ x ∧ x ∉ vbl v) (hb : gs.length ≤ 100000) :
    ∃ v' u2, (Builtin.append_ #[101, 101] 101 #[v, .slice (some ⟨u.heap.size, 0, none⟩) 1 1]).run Try.prog (u.alloc (.cells #[.string s, .slice q.p q.n q.cp, .slice none 0 0, .bool true] 148)) = .ok v' u2 ∧ Co w v' (gs ++ [⟨s, q, .slice none 0 0, [], true⟩]) u2 ∧ ∀ x, x < u.heap.size → x ∉ vbl v → u2.heap[x]? = u.heap[x]? := by
  have hb0 := (Below.refl _ u).alloc (Nat.le_refl _) (.cells #[.string s, .slice q.p q.n q.cp, .slice none 0 0, .bool true] 148)
  have h1 := h.step hb0
  obtain ⟨v', u2, hr, ho, hg, h5⟩ := own_apF h1.fo.row ⟨s, q, .slice none 0 0, [], true⟩ ⟨_, _, _, rfl⟩ (g := u.heap.size) (c := 1) (fun j x hj => by rw [box_at]; simpa [Mf.c] using hj) (by omega) 101
  have hv' : ∀ x ∈ vbl v', x ∈ vbl v ∨ x = (u.alloc (.cells #[.string s, .slice q.p q.n q.cp, .slice none 0 0, .bool true] 148)).heap.size := fun x hx => by
    unfold vbl at hx
    rcases h5 with e | e
    · rw [e] at hx; exact .inl hx
    · rw [e] at hx
      exact .inr (by simpa using hx)
  have hkp : ∀ (z : Pt8), Pq z u → (∀ x ∈ gbl z, w.heap.size ≤ x ∧ x ∉ vbl v) → Pq z u2 ∧ ∀ x ∈ gbl z, w.heap.size ≤ x ∧ x ∉ vbl v' := fun z hz hzb => by
    refine ⟨Pq.chg (Pq.below hz hb0) (Chg.grown hg) fun x hx e => ?_, fun x hx => ⟨(hzb x hx).1, fun e => ?_⟩⟩
    · exact (hzb x hx).2 e
    · rcases hv' x e with e2 | e2
      · exact (hzb x hx).2 e2
      · have := Pq.lt hz x hx
        simp at e2
        omega
  refine ⟨v', u2, hr, ⟨⟨h1.fo.b.trans ((Chg.grown hg).toBelow h1.fo.lo h1.fo.b.size), ho, fun x hx => ?_⟩, fun g hg2 => ?_⟩, fun x hx hn => ((Chg.grown hg).block x (Nat.lt_of_lt_of_le hx hb0.size) hn).trans (hb0.block x hx)⟩
  · rcases hv' x hx with e | e
    · exact h.fo.lo x e
    · have := h.fo.b.size
      simp at e
      omega
  · rcases List.mem_append.1 hg2 with e | e
    · have k := h.ok g e
      have k2 := hkp g.q k.2.2.1 k.2.2.2
      exact ⟨k.1, k.2.1, k2.1, k2.2⟩
    · rw [List.mem_singleton.1 e]
      have k2 := hkp q hq hqb
      exact ⟨rfl, rfl, k2.1, k2.2⟩
/-- What a crash makes of a file, if it stays. -/
def mcr (f : Rf) (K : Int × Int) : List Rf := if f.there K.1 K.2 = true then [f.set K.1 K.2] else []
theorem mcr_all (K : ByteArray → Int × Int) : ∀ l : List Rf, ((l.filter fun f => f.there (K f.nm).1 (K f.nm).2).map fun f => f.set (K f.nm).1 (K f.nm).2) = l.flatMap fun f => mcr f (K f.nm)
  | [] => rfl
  | f :: r => by
    rw [List.flatMap_cons, ← mcr_all K r, List.filter_cons]
    unfold mcr
    cases h : f.there (K f.nm).1 (K f.nm).2 <;> simp
def Dx.wl (X : Dx) (v : Value) (fs : List Mf) (L : List Nat) : Dx := ⟨X.m, v, X.rp, X.rg, X.rc, X.n, X.F, fs, X.k, L⟩
/-- What the crash makes of the disk. -/
theorem Co.fin {w0 w u : World} {X : Dx} {v : Value} {gs : List Mf} (hw : Dxo w0 X w) (h : Co w v gs u) (hw0 : w0.heap.size ≤ w.heap.size) :
    Dxw w0 w X (X.wl v gs (gs.flatMap (fun g => gbl g.q) ++ X.L)) (u.setCell ⟨X.m, 0, none⟩ v) := by
  have hX := hw.below h.fo.b
  have hM : ∀ x ∈ gs.flatMap (fun g => gbl g.q), w.heap.size ≤ x ∧ x ∉ vbl v ∧ x < u.heap.size := fun x hx => by
    obtain ⟨g, hg, hx⟩ := List.mem_flatMap.1 hx
    have k := h.ok g hg
    exact ⟨(k.2.2.2 x hx).1, (k.2.2.2 x hx).2, Pq.lt k.2.2.1 x hx⟩
  have hc : Chg [X.m] u (u.setCell ⟨X.m, 0, none⟩ v) := chg_setc X.m 0 u v
  have hml : X.m < w.heap.size := hw.lt _ (List.mem_cons_self ..)
  have hvm : X.m ∉ vbl v := fun e => absurd (h.fo.lo _ e) (Nat.not_le.2 hml)
  have hmM : X.m ∉ gs.flatMap (fun g => gbl g.q) := fun e => absurd (hM _ e).1 (Nat.not_le.2 hml)
  have hLl : ∀ x ∈ X.L, x < w.heap.size := fun x hx => hw.lt x (List.mem_cons_of_mem _ (List.mem_append_right _ hx))
  have hk : Kx (gs.flatMap (fun g => gbl g.q) ++ X.L) u (u.setCell ⟨X.m, 0, none⟩ v) := ⟨hc.size, fun x hx => by
    rcases List.mem_append.1 hx with e | e
    · exact hc.block x (hM x e).2.2 (fun e2 => hmM (List.mem_singleton.1 e2 ▸ e))
    · exact hc.block x (Nat.lt_of_lt_of_le (hLl x e) h.fo.b.size) (fun e2 => hw.m2 (List.mem_singleton.1 e2 ▸ e))⟩
  have hsz := h.fo.b.size
  refine ⟨⟨World.cell?_setCell_same _ _ _ hX.c0, (World.cell?_setCell_other _ _ _ _ (by simp [Dx.wl])).trans hX.c1, (World.cell?_setCell_other _ _ _ _ (by simp [Dx.wl])).trans hX.c2, fun k => ?_, own_keep h.fo.row fun b hb => hc.block b (own_lt h.fo.row b hb) (fun e => hvm (List.mem_singleton.1 e ▸ hb)), fun f hf => ?_, fun hn => ⟨(hX.rp hn).1, List.mem_append_right _ (hX.rp hn).2⟩, fun i hi => ?_, fun x hx => ?_, fun x hx => ?_, hvm, fun e => ?_, fun x hxv hxL => ?_⟩, (Chg.of h.fo.b).trans (hc.mono (M := X.bl) fun x hx => .inl (by rw [List.mem_singleton.1 hx]; exact List.mem_cons_self ..)) (fun x hx => .inl hx), fun x hx => ?_⟩
  · rw [World.frozen?_setCell]; exact hX.fz k
  · have k := h.ok f hf
    refine Mf.ok.kx ⟨⟨k.2.2.1, fun x hx => List.mem_append_left _ (List.mem_flatMap.2 ⟨f, hf, hx⟩)⟩, ?_, fun x hx => ?_, fun o ho => ?_⟩ hk
    · rw [k.1, k.2.1]; exact World.ownsRow_nil _ _ _ _
    · rw [k.1] at hx; simp [vbl, Value.ownBlock] at hx
    · rw [k.2.1] at ho; cases ho
  · exact (World.cell?_of_block (a := ⟨X.rg, i, none⟩) (hk.2 _ (List.mem_append_right _ (hX.rp (Nat.lt_of_le_of_lt (Nat.zero_le _) hi)).2))).trans (hX.rr i hi)
  · have hx : x ∈ X.m :: (vbl v ++ (gs.flatMap (fun g => gbl g.q) ++ X.L)) := hx
    rcases List.mem_cons.1 hx with e | e
    · rw [e]; exact hw.lo _ (List.mem_cons_self ..)
    · rcases List.mem_append.1 e with e | e
      · exact Nat.le_trans hw0 (h.fo.lo x e)
      · rcases List.mem_append.1 e with e | e
        · exact Nat.le_trans hw0 (hM x e).1
        · exact hw.lo x (List.mem_cons_of_mem _ (List.mem_append_right _ e))
  · rw [World.size_setCell]
    have hx : x ∈ X.m :: (vbl v ++ (gs.flatMap (fun g => gbl g.q) ++ X.L)) := hx
    rcases List.mem_cons.1 hx with e | e
    · rw [e]; omega
    · rcases List.mem_append.1 e with e | e
      · exact own_lt h.fo.row x e
      · rcases List.mem_append.1 e with e | e
        · exact (hM x e).2.2
        · have := hLl x e; omega
  · rcases List.mem_append.1 e with e | e
    · exact hmM e
    · exact hw.m2 e
  · rcases List.mem_append.1 hxL with e | e
    · exact (hM x e).2.1 hxv
    · exact absurd (h.fo.lo x hxv) (Nat.not_le.2 (hLl x e))
  · have hx : x ∈ X.m :: (vbl v ++ (gs.flatMap (fun g => gbl g.q) ++ X.L)) := hx
    rcases List.mem_cons.1 hx with e | e
    · rw [e]; exact .inl (List.mem_cons_self ..)
    · rcases List.mem_append.1 e with e | e
      · exact .inr (h.fo.lo x e)
      · rcases List.mem_append.1 e with e | e
        · exact .inr (hM x e).1
        · exact .inl (List.mem_cons_of_mem _ (List.mem_append_right _ e))
end Wi
end Rg
end Go.Proofs.Ytidicdlfjdlpnaa
end
section
namespace Go.Proofs.Ytidicdlfjdlpnaa
open Go.RowKit
namespace Rg
namespace Wi
set_option maxRecDepth 100000
theorem ex_bsF {ρ : Operand → Value} {o : Oper} {x : Operand} {a b c d : Value} {w : World} (ho : o.op = .buildSlice 101 1 #[(0, x)]) (hx : ρ x = .agg #[a, b, c, d]) : (execOp ρ o).run Try.prog w = .ok (.value (.slice (some ⟨w.heap.size, 0, none⟩) 1 1)) (w.alloc (.cells #[a, b, c, d] 148)) := by
  simp only [execOp, ho, List.map_toArray, List.map_cons, List.map_nil, hx]
  kernel_rfl
theorem ex_apF {ρ : Operand → Value} {o : Oper} {x y : Operand} {vv sv v' : Value} {w w2 : World} (ho : o.op = .call { callee := .builtin .append, args := #[x, y], argTypes := #[101, 101] }) (hx : ρ x = vv) (hy : ρ y = sv) (hr : (Builtin.append_ #[101, 101] o.type #[vv, sv]).run Try.prog w = .ok v' w2) : (execOp ρ o).run Try.prog w = .ok (.value v') w2 := by
  unfold execOp
  simp only [ho, resolve, invoke, builtin, Sem.run_bind, Sem.run_pure, Result.andThen_ok, List.map_toArray, List.map_cons, List.map_nil, hx, hy, hr]
theorem set_eq (f : Mf) (a b : Int) (q : Pt8) (s : ByteArray) (hs : s = f.nm) (h : bs q.n q.f = rct f.rf.sf (f.rf.ops.take (f.rf.dn a)) ++ f.rf.tl a b) : (⟨s, q, .slice none 0 0, [], true⟩ : Mf).rf = f.rf.set a b := by
  subst hs
  unfold Rf.set
  rw [← h]
  rfl
theorem Rf.dn_mf (f : Mf) (a : Int) : f.rf.dn a = min a.toNat f.ops.length := by simp [Rf.dn, Mf.rf]
set_option maxHeartbeats 8000000 in
/-- The document's Crash. -/
theorem rcra_any {w0 : World} {X : Dx} {i0 : Nat} (hi0 : i0 ≤ 800000) (hR : X.rd.Ok i0) (a : Option Addr) (len cap : Nat) (zs : Nat → Kv) (hlen : len ≤ 1000000) (w : World) (h : Dxo w0 X w) (hw0 : w0.heap.size ≤ w.heap.size) (hK : 0 < len → Kps w.heap.size w (.slice a len cap) len zs) :
    Calls Try.prog 59 #[PT X.m 0, .slice a len cap] w fun e w' => e = .returned (.tuple #[]) ∧ Dst w0 w X (X.rd.cra fun s => kpz (kup (kbk len zs) len) s) w' := by
  have H : Hid _ := h
  have H0 : Hid _ := hw0
  have HK : Hid _ := hK
  have HR : Hid _ := hR
  have hn64 : X.fs.length ≤ 64 := by have := hR.n; simpa [Dx.rd] using this
  clear h hw0 hK hR
  go_enter Try.func59, Try.ntmps59
  go_wp2
  go_loopw [4, 5] (fun vo v wr => ∃ (i : Nat) (gs : List Mf), v = .int .i64 (i : Int) ∧ i ≤ X.fs.length ∧ Hid (Co w vo gs wr ∧ gs.length ≤ i ∧ gs.map Mf.rf = (X.fs.take i).flatMap fun f => mcr f.rf (kpz (kup (kbk len zs) len) f.nm)))
    (fun _ v _ => X.fs.length - (RowKit.intOf v).toNat)
  case atStart => exact ⟨0, [], rfl, Nat.zero_le _, Co.start w, Nat.le_refl _, rfl⟩
  case round =>
    obtain ⟨i, gs, rfl, hi, hC⟩ := hrel
    obtain ⟨W, rfl⟩ : ∃ W, W = wr := ⟨wr, rfl⟩
    have hX := H.out.below hC.out.1.fo.b
    have c0 := hX.c0
    have fz := hX.fz 0
    by_cases hlt : i < X.fs.length
    · obtain ⟨f, hf⟩ : ∃ f, X.fs[i]? = some f := ⟨_, List.getElem?_eq_getElem hlt⟩
      obtain ⟨g, cp, hv, hcp, k0, k1, k2, k3⟩ := hX.at hf
      have hfm := List.mem_of_getElem? hf
      have hfr : f.rf ∈ X.rd.fs := List.mem_map_of_mem hfm
      have hok := hX.ok f hfm
      have HOK : Hid _ := hok
      obtain ⟨po, co, hov, hco⟩ := own_slice hok.ow
      rw [hv] at c0
      rw [hov] at k2
      have HF : Hid _ := HR.out.ft _ hfr
      have HQ : Hid (∀ o ∈ f.ops, o.q.n ≤ 1048576) := fun o ho => by
        have := HR.out.ob _ hfr o.ro (List.mem_map_of_mem ho)
        simpa [Mo.ro, bs_len] using this
      have HT : Hid (X.fs.take (i + 1) = X.fs.take i ++ [f]) := by show X.fs.take (i + 1) = _; rw [List.take_add_one, hf]; rfl
      have HOV : Hid _ := hov
      have hol : f.ops.length ≤ 800000 := by have := HR.out.ol _ hfr; have h2 : f.rf.ops.length = f.ops.length := by { simp [Mf.rf] }; omega
      obtain ⟨w1, hw1⟩ : ∃ w1, (W.alloc (.cells #[.string f.nm, .slice f.q.p f.q.n f.q.cp, .slice po f.ops.length co, .bool f.old] 148)) = w1 := ⟨_, rfl⟩
      have hb1 : Below W.heap.size W w1 := by rw [← hw1]; exact (Below.refl _ _).alloc (Nat.le_refl _) _
      have hs1 : W.heap.size < w1.heap.size := by rw [← hw1]; simp
      have HB1 : Hid (∀ u, Below w1.heap.size w1 u → ∀ i, u.cell? ⟨W.heap.size, i, none⟩ = (#[.string f.nm, .slice f.q.p f.q.n f.q.cp, .slice po f.ops.length co, .bool f.old] : Array Value)[i]?) := fun u hu i => (hu.cell (p := ⟨W.heap.size, i, none⟩) hs1).trans (by rw [← hw1]; exact box_at ..)
      have H1 : Hid _ := hb1
      have HS1 : Hid _ := hs1
      have HKK : Hid (∀ u, Below w1.heap.size w1 u → 0 < len → Kps w.heap.size u (.slice a len cap) len zs) := fun u hu hl0 => Kps.below (hC.out.1.fo.b.trans ((hb1.mono hC.out.1.fo.b.size).trans (hu.mono (Nat.le_trans hC.out.1.fo.b.size hb1.size)))) (HK.out hl0)
      clear hX hok hf hfm hfr hb1 hs1 hov
      go_wp2
      go_loopw [7, 8, 9] (fun va vb v wr2 => ∃ k : Nat, k ≤ len ∧ v = .int .i64 ((k : Int) - 1) ∧ va = .int .i64 (kpz (kup (kbk len zs) (len - k)) f.nm).1 ∧ vb = .int .i64 (kpz (kup (kbk len zs) (len - k)) f.nm).2 ∧ Hid (Below w1.heap.size w1 wr2))
        (fun _ _ v _ => ((RowKit.intOf v) + 1).toNat)
      case atStart => exact ⟨len, Nat.le_refl _, rfl, by rw [Nat.sub_self]; rfl, by rw [Nat.sub_self]; rfl, Below.refl _ _⟩
      case round =>
        obtain ⟨k, hk, rfl, rfl, rfl, hB⟩ := hrel
        have b0 : wr.cell? ⟨W.heap.size, 0, none⟩ = some (.string f.nm) := HB1.out _ hB.out 0
        cases k with
        | succ m =>
          have em : ((m + 1 : Nat) : Int) - 1 = (m : Int) := by omega
          rw [em]
          rcases HKK.out _ hB.out (by omega) with ⟨e1, e2⟩ | ⟨gb, off, cap', e1, hgb, hcl⟩
          · omega
          · injection e1 with e1 _ e3
            subst e1 e3
            obtain ⟨d0, d1, d2⟩ := hcl m (by omega)
            have hnx : kup (kbk len zs) (len - m) = kup (kbk len zs) (len - (m + 1)) ++ [kbk len zs (len - (m + 1))] := by
              rw [show len - m = (len - (m + 1)) + 1 by omega, kup_succ]
            have hix : kbk len zs (len - (m + 1)) = (m, zs m) := by unfold kbk; rw [show len - 1 - (len - (m + 1)) = m by omega]
            rw [hix] at hnx
            have HNX : Hid _ := hnx
            clear hcl hnx hix
            by_cases c : (zs m).1.1 = f.nm
            · rw [c] at d0
              have HCC : Hid _ := c
              clear c
              go_wp2
              go_region
              all_goals go_wp2
              exact ⟨⟨m, by omega, rfl, by rw [HNX.out, kpz_snoc, if_pos HCC.out], by rw [HNX.out, kpz_snoc, if_pos HCC.out], hB.out.trans ((bdr wr).mono hB.out.size)⟩, by simp [RowKit.intOf]⟩
            · have hne := str_ne c
              have HCC : Hid _ := c
              clear c
              go_wp2
              go_region
              all_goals go_wp2
              exact ⟨⟨m, by omega, rfl, by rw [HNX.out, kpz_snoc, if_neg HCC.out], by rw [HNX.out, kpz_snoc, if_neg HCC.out], hB.out.trans ((bdr wr).mono hB.out.size)⟩, by simp [RowKit.intOf]⟩
        | zero =>
          rw [show (((0 : Nat) : Int) - 1) = -1 from rfl, Nat.sub_zero]
          obtain ⟨ka, hka⟩ : ∃ x, (kpz (kup (kbk len zs) len) f.nm).1 = x := ⟨_, rfl⟩
          obtain ⟨kb, hkb⟩ : ∃ x, (kpz (kup (kbk len zs) len) f.nm).2 = x := ⟨_, rfl⟩
          rw [hka, hkb]
          have HKA : Hid _ := hka
          have HKB : Hid _ := hkb
          obtain ⟨d, hd⟩ : ∃ d, f.rf.dn ka = d := ⟨_, rfl⟩
          have hd1 : d = min ka.toNat f.ops.length := by rw [← hd, Rf.dn_mf]
          have hdI : max 0 (min ka (f.ops.length : Int)) = (d : Int) := by omega
          have hdl : d ≤ f.ops.length := by omega
          have HD : Hid _ := hd
          have b1 : wr.cell? ⟨W.heap.size, 1, none⟩ = some (.slice f.q.p f.q.n f.q.cp) := HB1.out _ hB.out 1
          have b2 : wr.cell? ⟨W.heap.size, 2, none⟩ = some (.slice po f.ops.length co) := HB1.out _ hB.out 2
          clear hka hkb hd hd1 c0 k0 k1 k2 k3
          go_wp2
          go_loopw [10, 11] (fun vb v wr3 => ∃ (k : Nat) (q : Pt8), v = .int .i64 (k : Int) ∧ k ≤ d ∧ vb = .slice q.p q.n q.cp ∧ Hid (Pq q wr3 ∧ bs q.n q.f = rct (bs f.q.n f.q.f) ((f.ops.map Mo.ro).take k) ∧ Below w1.heap.size w1 wr3))
            (fun _ v _ => d - (RowKit.intOf v).toNat)
          case atStart => exact ⟨0, f.q, rfl, Nat.zero_le _, rfl, Pq.below HOK.out.q.1 (H1.out.trans (hB.out.mono H1.out.size)), rfl, hB.out⟩
          case round =>
            clear hB b0 b1 b2
            obtain ⟨k, q, rfl, hk, rfl, hQ⟩ := hrel
            have hB := hQ.out.2.2
            have b0 : wr.cell? ⟨W.heap.size, 0, none⟩ = some (.string f.nm) := HB1.out _ hB 0
            have b2 : wr.cell? ⟨W.heap.size, 2, none⟩ = some (.slice po f.ops.length co) := HB1.out _ hB 2
            have b3 : wr.cell? ⟨W.heap.size, 3, none⟩ = some (.bool f.old) := HB1.out _ hB 3
            have hqn : q.n ≤ 1048576 := by
              rw [← bs_len q.n q.f, hQ.out.2.1]
              exact HF.out k (by rw [show f.rf.ops.length = f.ops.length by simp [Mf.rf]]; omega)
            have hokw := HOK.out.below (H1.out.trans (hB.mono H1.out.size))
            have HOKW : Hid _ := hokw
            by_cases hkd : k < d
            · obtain ⟨o, ho⟩ : ∃ o, f.ops[k]? = some o := ⟨_, List.getElem?_eq_getElem (by omega)⟩
              obtain ⟨g', cp', hv', hcp', o0, o1, o2⟩ := hokw.at ho
              rw [HOV.out] at hv'
              injection hv' with e1 _ e3
              subst e1 e3
              have hom := List.mem_of_getElem? ho
              have hoq := HQ.out o hom
              have HDN : Hid _ := rdone_any q o (by omega) wr hQ.out.1 (hokw.op o hom).1
              have HO : Hid _ := ho
              clear hokw ho hom hB
              go_wp2_with (first
                | (go_at_call 101; refine Calls.mono HDN.out ?_; rintro e w3 ⟨v3, n3, P3, rfl, h3, h4⟩; have H3 : Hid _ := h3; have H4 : Hid _ := h4; clear h3 h4)
                | fail)
              obtain ⟨q3, rfl, hq3, hn3, hf3, -⟩ := H3.out.part
              exact ⟨⟨k + 1, q3, by simp, by omega, rfl, hq3, by rw [hn3, hf3, H4.out, hQ.out.2.1, ← rct_take HO.out], hQ.out.2.2.trans (H3.out.cw.b.mono hQ.out.2.2.size)⟩, by simp [RowKit.intOf]; omega⟩
            · obtain rfl : k = d := by omega
              clear hokw
              have HKL : Hid (k ≤ f.rf.ops.length) := by show _ ≤ _; rw [show f.rf.ops.length = f.ops.length by simp [Mf.rf]]; omega
              have HBW : Hid (Below W.heap.size W wr) := H1.out.trans (hB.mono H1.out.size)
              have HB11 : Hid _ := hB
              clear hB
              by_cases hdn : k < f.ops.length
              · obtain ⟨o, ho⟩ : ∃ o, f.ops[k]? = some o := ⟨_, List.getElem?_eq_getElem hdn⟩
                obtain ⟨g', cp', hv', hcp', o0, o1, o2⟩ := HOKW.out.at ho
                rw [HOV.out] at hv'
                injection hv' with e1 _ e3
                subst e1 e3
                have hom := List.mem_of_getElem? ho
                have hoq := HQ.out o hom
                have hor : f.rf.ops[k]? = some o.ro := by show (f.ops.map Mo.ro)[k]? = _; rw [List.getElem?_map, ho]; rfl
                cases hcut : o.cut with
                | true =>
                  have htl : f.rf.tl ka kb = [] := by
                    unfold Rf.tl
                    rw [HD.out, hor]
                    show (if o.cut = true then [] else _) = _
                    rw [if_pos hcut]
                  have HTLL : Hid ((f.rf.tl ka kb).length = 0) := by show _ = _; rw [htl]; rfl
                  have HCT : Hid (bs q.n q.f = rct f.rf.sf (f.rf.ops.take (f.rf.dn ka)) ++ f.rf.tl ka kb) := by show _ = _; rw [htl, List.append_nil, HD.out]; exact hQ.out.2.1
                  rw [hcut] at o0
                  clear htl hor ho hom
                  cases hold : f.old with
                  | true =>
                    have HTH : Hid (f.rf.there ka kb = true) := by show _ = _; unfold Rf.there; rw [show f.rf.old = true from hold]; rfl
                    rw [hold] at b3
                    go_wp2
                    obtain ⟨v2, u2, h21, h22⟩ := copy_r (u := wr.drew) (Pq.below hQ.out.1 (bdr _)) (by omega) 34
                    obtain ⟨q2, rfl, hq2, hn2, hf2, hg2⟩ := h22.part
                    have hCo : Co w u4 gs u2 := (hC.out.1.step (HBW.out.trans ((bdr wr).mono HBW.out.size))).step h22.cw.b
                    obtain ⟨v4, u4w, h41, h42, h43⟩ := hCo.app f.nm q2 hq2 (fun x hx => ⟨Nat.le_trans hC.out.1.fo.b.size (Nat.le_trans (HBW.out).size (hg2 x hx).1), fun e => by have h8 := own_lt hC.out.1.fo.row x e; have h9 := (HBW.out).size; have h10 := (hg2 x hx).1; have h11 : wr.drew.heap.size = wr.heap.size := rfl; omega⟩) (by have := hC.out.2.1; omega)
                    obtain ⟨Ws, hWs⟩ : ∃ Ws, Ws = Wl [wr.drew, wr.drew.alloc (.cells #[] 5), u2, u2.alloc (.cells #[.string f.nm, .slice q2.p q2.n q2.cp, .slice none 0 0, .bool true] 148)] u4w := ⟨_, rfl⟩
                    have HW0 : Hid (wr.drew = Ws 0 ∧ Ws 1 = (Ws 0).alloc (.cells #[] 5) ∧ wr.heap.size = (Ws 0).heap.size ∧ Ws 3 = (Ws 2).alloc (.cells #[.string f.nm, .slice q2.p q2.n q2.cp, .slice none 0 0, .bool true] 148) ∧ u2.heap.size = (Ws 2).heap.size) := by rw [hWs]; exact ⟨rfl, rfl, rfl, rfl, rfl⟩
                    have HW1 : Hid ((Builtin.append_ #[34, 34] 34 #[.slice (some ⟨wr.heap.size, 0, none⟩) 0 0, .slice q.p q.n q.cp]).run Try.prog (Ws 1) = .ok (.slice q2.p q2.n q2.cp) (Ws 2)) := by rw [hWs]; exact h21
                    have HW3 : Hid ((Builtin.append_ #[101, 101] 101 #[u4, .slice (some ⟨u2.heap.size, 0, none⟩) 1 1]).run Try.prog (Ws 3) = .ok v4 (Ws 4)) := by rw [hWs]; exact h41
                    have HWC : Hid (∀ c, (Ws c).cell? ⟨W.heap.size, 0, none⟩ = some (.string f.nm)) := fun c => by
                      rw [hWs]
                      have hs : W.heap.size < wr.heap.size := Nat.lt_of_lt_of_le HS1.out (HB11.out).size
                      have e0 : wr.drew.cell? ⟨W.heap.size, 0, none⟩ = some (.string f.nm) := HB1.out _ ((HB11.out).trans ((bdr wr).mono (HB11.out).size)) 0
                      have e2 : u2.cell? ⟨W.heap.size, 0, none⟩ = some (.string f.nm) := (h22.cw.b.cell (p := ⟨W.heap.size, 0, none⟩) hs).trans e0
                      have hs2 : W.heap.size < u2.heap.size := Nat.lt_of_lt_of_le hs h22.cw.b.size
                      match c with
                      | 0 => exact e0
                      | 1 => exact (((Below.refl _ wr.drew).alloc (Nat.le_refl _) _).cell (p := ⟨W.heap.size, 0, none⟩) hs).trans e0
                      | 2 => exact e2
                      | 3 => exact (((Below.refl _ u2).alloc (Nat.le_refl _) _).cell (p := ⟨W.heap.size, 0, none⟩) hs2).trans e2
                      | _ + 4 => exact (World.cell?_of_block (a := ⟨W.heap.size, 0, none⟩) (h43 W.heap.size hs2 fun e => absurd (own_lt hC.out.1.fo.row _ e) (Nat.lt_irrefl _))).trans e2
                    have HW4 : Hid (Co w v4 (gs ++ [⟨f.nm, q2, .slice none 0 0, [], true⟩]) (Ws 4)) := by rw [hWs]; exact h42
                    have HSE : Hid ((⟨f.nm, q2, .slice none 0 0, [], true⟩ : Mf).rf = f.rf.set ka kb) := set_eq f ka kb q2 f.nm rfl (by rw [hn2, hf2]; exact HCT.out)
                    clear h21 h22 hq2 hn2 hf2 hg2 hCo h41 h42 h43 hWs
                    refine walk_det (by kernel_rfl) 9 [u4, PT W.heap.size 0, .string f.nm, .slice (some ⟨wr.heap.size, 0, none⟩) 0 0, .slice q.p q.n q.cp, .slice q2.p q2.n q2.cp, .agg #[.string f.nm, .slice q2.p q2.n q2.cp, .slice none 0 0, .bool true], .slice (some ⟨u2.heap.size, 0, none⟩) 1 1, v4] [none, none, none, some 0, none, some 1, none, some 2, some 3] [3, 5, 7, 8] (fun c w => w = Ws c) ?prez0 ?Fz0 ?hprez0 ?hFz0 (by kernel_rfl) ?hWz0 HW0.out.1 ?hopz0 ?hez0
                    case hprez0 => simp only [tk, tz]; rfl
                    case hFz0 => simp only [List.map_cons, List.map_nil, fill, Kind.val, Act.put, sa, sz, ss]; rfl
                    case hWz0 => kernel_rfl
                    case hopz0 =>
                      refine ⟨fun c _ w _ => rfl, fun c _ w _ => ?_, fun c _ w hw => ?_, fun w hw => .inl ⟨_, ?_, rfl⟩, fun c _ w _ => rfl, fun w hw => .inl ⟨_, ?_, rfl⟩, fun c _ w _ => ex_bf rfl rfl rfl rfl, fun w hw => .inl ⟨_, ?_, rfl⟩, fun w hw => .inl ⟨_, ?_, rfl⟩, trivial⟩
                      · go_simp
                      · have h := HWC.out c
                        rw [hw]
                        go_simp
                      · rw [hw, HW0.out.2.1, HW0.out.2.2.1]; exact ex_bs0 rfl
                      · rw [hw]; exact ex_app rfl rfl rfl HW1.out
                      · rw [hw, HW0.out.2.2.2.1, HW0.out.2.2.2.2]; exact ex_bsF rfl rfl
                      · rw [hw]; exact ex_apF rfl rfl rfl HW3.out
                    rintro _ rfl
                    refine rest_set (d := 4) (v := v4) (w' := Ws 4) rfl rfl rfl (rfl) ?_
                    simp only [Act.put, sa, sz, ss]
                    refine rest_nil ?_
                    go_wp2
                    exact ⟨⟨i + 1, gs ++ [⟨f.nm, q2, .slice none 0 0, [], true⟩], by simp, by omega, HW4.out, by have := hC.out.2.1; rw [List.length_append]; simp; omega, by rw [List.map_append, hC.out.2.2, HT.out, List.flatMap_append, List.flatMap_singleton, List.map_singleton, HSE.out]; unfold mcr; rw [show kpz (kup (kbk len zs) len) f.nm = (ka, kb) from Prod.ext HKA.out HKB.out, if_pos HTH.out]⟩, by simp [RowKit.intOf]; omega⟩
                  | false =>
                    rw [hold] at b3
                    by_cases hk0 : 0 < k
                    · have HTH : Hid (f.rf.there ka kb = true) := by show _ = _; unfold Rf.there; rw [HD.out, HTLL.out, decide_eq_true (by omega)]; exact Bool.or_true _
                      go_wp2
                      obtain ⟨v2, u2, h21, h22⟩ := copy_r (u := wr.drew) (Pq.below hQ.out.1 (bdr _)) (by omega) 34
                      obtain ⟨q2, rfl, hq2, hn2, hf2, hg2⟩ := h22.part
                      have hCo : Co w u4 gs u2 := (hC.out.1.step (HBW.out.trans ((bdr wr).mono HBW.out.size))).step h22.cw.b
                      obtain ⟨v4, u4w, h41, h42, h43⟩ := hCo.app f.nm q2 hq2 (fun x hx => ⟨Nat.le_trans hC.out.1.fo.b.size (Nat.le_trans (HBW.out).size (hg2 x hx).1), fun e => by have h8 := own_lt hC.out.1.fo.row x e; have h9 := (HBW.out).size; have h10 := (hg2 x hx).1; have h11 : wr.drew.heap.size = wr.heap.size := rfl; omega⟩) (by have := hC.out.2.1; omega)
                      obtain ⟨Ws, hWs⟩ : ∃ Ws, Ws = Wl [wr.drew, wr.drew.alloc (.cells #[] 5), u2, u2.alloc (.cells #[.string f.nm, .slice q2.p q2.n q2.cp, .slice none 0 0, .bool true] 148)] u4w := ⟨_, rfl⟩
                      have HW0 : Hid (wr.drew = Ws 0 ∧ Ws 1 = (Ws 0).alloc (.cells #[] 5) ∧ wr.heap.size = (Ws 0).heap.size ∧ Ws 3 = (Ws 2).alloc (.cells #[.string f.nm, .slice q2.p q2.n q2.cp, .slice none 0 0, .bool true] 148) ∧ u2.heap.size = (Ws 2).heap.size) := by rw [hWs]; exact ⟨rfl, rfl, rfl, rfl, rfl⟩
                      have HW1 : Hid ((Builtin.append_ #[34, 34] 34 #[.slice (some ⟨wr.heap.size, 0, none⟩) 0 0, .slice q.p q.n q.cp]).run Try.prog (Ws 1) = .ok (.slice q2.p q2.n q2.cp) (Ws 2)) := by rw [hWs]; exact h21
                      have HW3 : Hid ((Builtin.append_ #[101, 101] 101 #[u4, .slice (some ⟨u2.heap.size, 0, none⟩) 1 1]).run Try.prog (Ws 3) = .ok v4 (Ws 4)) := by rw [hWs]; exact h41
                      have HWC : Hid (∀ c, (Ws c).cell? ⟨W.heap.size, 0, none⟩ = some (.string f.nm)) := fun c => by
                        rw [hWs]
                        have hs : W.heap.size < wr.heap.size := Nat.lt_of_lt_of_le HS1.out (HB11.out).size
                        have e0 : wr.drew.cell? ⟨W.heap.size, 0, none⟩ = some (.string f.nm) := HB1.out _ ((HB11.out).trans ((bdr wr).mono (HB11.out).size)) 0
                        have e2 : u2.cell? ⟨W.heap.size, 0, none⟩ = some (.string f.nm) := (h22.cw.b.cell (p := ⟨W.heap.size, 0, none⟩) hs).trans e0
                        have hs2 : W.heap.size < u2.heap.size := Nat.lt_of_lt_of_le hs h22.cw.b.size
                        match c with
                        | 0 => exact e0
                        | 1 => exact (((Below.refl _ wr.drew).alloc (Nat.le_refl _) _).cell (p := ⟨W.heap.size, 0, none⟩) hs).trans e0
                        | 2 => exact e2
                        | 3 => exact (((Below.refl _ u2).alloc (Nat.le_refl _) _).cell (p := ⟨W.heap.size, 0, none⟩) hs2).trans e2
                        | _ + 4 => exact (World.cell?_of_block (a := ⟨W.heap.size, 0, none⟩) (h43 W.heap.size hs2 fun e => absurd (own_lt hC.out.1.fo.row _ e) (Nat.lt_irrefl _))).trans e2
                      have HW4 : Hid (Co w v4 (gs ++ [⟨f.nm, q2, .slice none 0 0, [], true⟩]) (Ws 4)) := by rw [hWs]; exact h42
                      have HSE : Hid ((⟨f.nm, q2, .slice none 0 0, [], true⟩ : Mf).rf = f.rf.set ka kb) := set_eq f ka kb q2 f.nm rfl (by rw [hn2, hf2]; exact HCT.out)
                      clear h21 h22 hq2 hn2 hf2 hg2 hCo h41 h42 h43 hWs
                      refine walk_det (by kernel_rfl) 9 [u4, PT W.heap.size 0, .string f.nm, .slice (some ⟨wr.heap.size, 0, none⟩) 0 0, .slice q.p q.n q.cp, .slice q2.p q2.n q2.cp, .agg #[.string f.nm, .slice q2.p q2.n q2.cp, .slice none 0 0, .bool true], .slice (some ⟨u2.heap.size, 0, none⟩) 1 1, v4] [none, none, none, some 0, none, some 1, none, some 2, some 3] [3, 5, 7, 8] (fun c w => w = Ws c) ?prez1 ?Fz1 ?hprez1 ?hFz1 (by kernel_rfl) ?hWz1 HW0.out.1 ?hopz1 ?hez1
                      case hprez1 => simp only [tk, tz]; rfl
                      case hFz1 => simp only [List.map_cons, List.map_nil, fill, Kind.val, Act.put, sa, sz, ss]; rfl
                      case hWz1 => kernel_rfl
                      case hopz1 =>
                        refine ⟨fun c _ w _ => rfl, fun c _ w _ => ?_, fun c _ w hw => ?_, fun w hw => .inl ⟨_, ?_, rfl⟩, fun c _ w _ => rfl, fun w hw => .inl ⟨_, ?_, rfl⟩, fun c _ w _ => ex_bf rfl rfl rfl rfl, fun w hw => .inl ⟨_, ?_, rfl⟩, fun w hw => .inl ⟨_, ?_, rfl⟩, trivial⟩
                        · go_simp
                        · have h := HWC.out c
                          rw [hw]
                          go_simp
                        · rw [hw, HW0.out.2.1, HW0.out.2.2.1]; exact ex_bs0 rfl
                        · rw [hw]; exact ex_app rfl rfl rfl HW1.out
                        · rw [hw, HW0.out.2.2.2.1, HW0.out.2.2.2.2]; exact ex_bsF rfl rfl
                        · rw [hw]; exact ex_apF rfl rfl rfl HW3.out
                      rintro _ rfl
                      refine rest_set (d := 4) (v := v4) (w' := Ws 4) rfl rfl rfl (rfl) ?_
                      simp only [Act.put, sa, sz, ss]
                      refine rest_nil ?_
                      go_wp2
                      exact ⟨⟨i + 1, gs ++ [⟨f.nm, q2, .slice none 0 0, [], true⟩], by simp, by omega, HW4.out, by have := hC.out.2.1; rw [List.length_append]; simp; omega, by rw [List.map_append, hC.out.2.2, HT.out, List.flatMap_append, List.flatMap_singleton, List.map_singleton, HSE.out]; unfold mcr; rw [show kpz (kup (kbk len zs) len) f.nm = (ka, kb) from Prod.ext HKA.out HKB.out, if_pos HTH.out]⟩, by simp [RowKit.intOf]; omega⟩
                    · obtain rfl : k = 0 := by omega
                      have HTH : Hid (f.rf.there ka kb = false) := by show _ = _; unfold Rf.there; rw [show f.rf.old = false from hold, HD.out, HTLL.out]; rfl
                      go_wp2
                      go_wp2
                      exact ⟨⟨i + 1, gs, by simp, by omega, hC.out.1.step HBW.out, by have := hC.out.2.1; omega, by rw [HT.out, List.flatMap_append, List.flatMap_singleton, ← hC.out.2.2]; unfold mcr; rw [show kpz (kup (kbk len zs) len) f.nm = (ka, kb) from Prod.ext HKA.out HKB.out, if_neg (by rw [HTH.out]; decide), List.append_nil]⟩, by simp [RowKit.intOf]; omega⟩
                | false =>
                  obtain ⟨P, hP⟩ : ∃ P, min kb.toNat o.q.n = P := ⟨_, rfl⟩
                  have hPI : max 0 (min kb (o.q.n : Int)) = (P : Int) := by omega
                  have hPl : P ≤ o.q.n := by omega
                  have htl : f.rf.tl ka kb = bs P o.q.f := by
                    unfold Rf.tl
                    rw [HD.out, hor]
                    show (if o.cut = true then [] else (bs o.q.n o.q.f).take kb.toNat) = _
                    rw [if_neg (by rw [hcut]; decide)]
                    by_cases c : kb.toNat ≤ o.q.n
                    · rw [bs_take o.q.f c, show kb.toNat = P by omega]
                    · rw [List.take_of_length_le (by rw [bs_len]; omega), show o.q.n = P by omega]
                  have HTL : Hid _ := htl
                  have HTLL : Hid ((f.rf.tl ka kb).length = P) := by show _ = _; rw [htl, bs_len]
                  have hpo := (HOKW.out.op o hom).1
                  have HDN : Hid _ := rdone_any q ⟨false, 0, o.q.tk P⟩ (by show q.n + P ≤ _; omega) wr hQ.out.1 ⟨hpo.1.tk hPl, hpo.2.1, Pt8.rs_tk hpo.2.2 hPl⟩
                  have hcq := hpo.1.le
                  rw [hcut] at o0
                  clear htl hor ho hom hpo hP
                  cases hold : f.old with
                  | true =>
                    have HTH : Hid (f.rf.there ka kb = true) := by show _ = _; unfold Rf.there; rw [show f.rf.old = true from hold]; rfl
                    rw [hold] at b3
                    go_wp2_with (first
                      | (go_at_call 101; refine Calls.mono HDN.out ?_; rintro e w3 ⟨v3, n3, P3, rfl, h3, h4⟩; obtain ⟨q3, rfl, hq3, hn3, hf3, -⟩ := h3.part; have H3 : Hid _ := h3; have H4 : Hid _ := h4; have HQ3 : Hid _ := hq3; have HN3 : Hid _ := hn3; have HF3 : Hid _ := hf3; have c33 : w3.cell? ⟨W.heap.size, 3, none⟩ = some (.bool true) := (by { have h33 := HB1.out w3 (HB11.out.trans (h3.cw.b.mono HB11.out.size)) 3; rw [hold] at h33; exact h33 }); clear h3 h4 hq3 hn3 hf3)
                      | fail)
                    have HCT : Hid (bs q3.n q3.f = rct f.rf.sf (f.rf.ops.take (f.rf.dn ka)) ++ f.rf.tl ka kb) := by show _ = _; rw [HN3.out, HF3.out, H4.out, HTL.out, HD.out, hQ.out.2.1]; rfl
                    have HBW3 : Hid (Below W.heap.size W w3) := HBW.out.trans (H3.out.cw.b.mono HBW.out.size)
                    have HB13 : Hid (Below w1.heap.size w1 w3) := HB11.out.trans (H3.out.cw.b.mono HB11.out.size)
                    have hq3n : q3.n ≤ 2097152 := by rw [← bs_len q3.n q3.f, HCT.out, List.length_append, HTLL.out, HD.out]; have h0 : (rct f.rf.sf (f.rf.ops.take _)).length ≤ 1048576 := HF.out _ HKL.out; omega
                    obtain ⟨v2, u2, h21, h22⟩ := copy_r (u := w3.drew) (Pq.below HQ3.out (bdr _)) (by omega) 34
                    obtain ⟨q2, rfl, hq2, hn2, hf2, hg2⟩ := h22.part
                    have hCo : Co w u4 gs u2 := (hC.out.1.step (HBW3.out.trans ((bdr w3).mono HBW3.out.size))).step h22.cw.b
                    obtain ⟨v4, u4w, h41, h42, h43⟩ := hCo.app f.nm q2 hq2 (fun x hx => ⟨Nat.le_trans hC.out.1.fo.b.size (Nat.le_trans (HBW3.out).size (hg2 x hx).1), fun e => by have h8 := own_lt hC.out.1.fo.row x e; have h9 := (HBW3.out).size; have h10 := (hg2 x hx).1; have h11 : w3.drew.heap.size = w3.heap.size := rfl; omega⟩) (by have := hC.out.2.1; omega)
                    obtain ⟨Ws, hWs⟩ : ∃ Ws, Ws = Wl [w3.drew, w3.drew.alloc (.cells #[] 5), u2, u2.alloc (.cells #[.string f.nm, .slice q2.p q2.n q2.cp, .slice none 0 0, .bool true] 148)] u4w := ⟨_, rfl⟩
                    have HW0 : Hid (w3.drew = Ws 0 ∧ Ws 1 = (Ws 0).alloc (.cells #[] 5) ∧ w3.heap.size = (Ws 0).heap.size ∧ Ws 3 = (Ws 2).alloc (.cells #[.string f.nm, .slice q2.p q2.n q2.cp, .slice none 0 0, .bool true] 148) ∧ u2.heap.size = (Ws 2).heap.size) := by rw [hWs]; exact ⟨rfl, rfl, rfl, rfl, rfl⟩
                    have HW1 : Hid ((Builtin.append_ #[34, 34] 34 #[.slice (some ⟨w3.heap.size, 0, none⟩) 0 0, .slice q3.p q3.n q3.cp]).run Try.prog (Ws 1) = .ok (.slice q2.p q2.n q2.cp) (Ws 2)) := by rw [hWs]; exact h21
                    have HW3 : Hid ((Builtin.append_ #[101, 101] 101 #[u4, .slice (some ⟨u2.heap.size, 0, none⟩) 1 1]).run Try.prog (Ws 3) = .ok v4 (Ws 4)) := by rw [hWs]; exact h41
                    have HWC : Hid (∀ c, (Ws c).cell? ⟨W.heap.size, 0, none⟩ = some (.string f.nm)) := fun c => by
                      rw [hWs]
                      have hs : W.heap.size < w3.heap.size := Nat.lt_of_lt_of_le HS1.out (HB13.out).size
                      have e0 : w3.drew.cell? ⟨W.heap.size, 0, none⟩ = some (.string f.nm) := HB1.out _ ((HB13.out).trans ((bdr w3).mono (HB13.out).size)) 0
                      have e2 : u2.cell? ⟨W.heap.size, 0, none⟩ = some (.string f.nm) := (h22.cw.b.cell (p := ⟨W.heap.size, 0, none⟩) hs).trans e0
                      have hs2 : W.heap.size < u2.heap.size := Nat.lt_of_lt_of_le hs h22.cw.b.size
                      match c with
                      | 0 => exact e0
                      | 1 => exact (((Below.refl _ w3.drew).alloc (Nat.le_refl _) _).cell (p := ⟨W.heap.size, 0, none⟩) hs).trans e0
                      | 2 => exact e2
                      | 3 => exact (((Below.refl _ u2).alloc (Nat.le_refl _) _).cell (p := ⟨W.heap.size, 0, none⟩) hs2).trans e2
                      | _ + 4 => exact (World.cell?_of_block (a := ⟨W.heap.size, 0, none⟩) (h43 W.heap.size hs2 fun e => absurd (own_lt hC.out.1.fo.row _ e) (Nat.lt_irrefl _))).trans e2
                    have HW4 : Hid (Co w v4 (gs ++ [⟨f.nm, q2, .slice none 0 0, [], true⟩]) (Ws 4)) := by rw [hWs]; exact h42
                    have HSE : Hid ((⟨f.nm, q2, .slice none 0 0, [], true⟩ : Mf).rf = f.rf.set ka kb) := set_eq f ka kb q2 f.nm rfl (by rw [hn2, hf2]; exact HCT.out)
                    clear h21 h22 hq2 hn2 hf2 hg2 hCo h41 h42 h43 hWs
                    refine walk_det (by kernel_rfl) 9 [u4, PT W.heap.size 0, .string f.nm, .slice (some ⟨w3.heap.size, 0, none⟩) 0 0, .slice q3.p q3.n q3.cp, .slice q2.p q2.n q2.cp, .agg #[.string f.nm, .slice q2.p q2.n q2.cp, .slice none 0 0, .bool true], .slice (some ⟨u2.heap.size, 0, none⟩) 1 1, v4] [none, none, none, some 0, none, some 1, none, some 2, some 3] [3, 5, 7, 8] (fun c w => w = Ws c) ?prez2 ?Fz2 ?hprez2 ?hFz2 (by kernel_rfl) ?hWz2 HW0.out.1 ?hopz2 ?hez2
                    case hprez2 => simp only [tk, tz]; rfl
                    case hFz2 => simp only [List.map_cons, List.map_nil, fill, Kind.val, Act.put, sa, sz, ss]; rfl
                    case hWz2 => kernel_rfl
                    case hopz2 =>
                      refine ⟨fun c _ w _ => rfl, fun c _ w _ => ?_, fun c _ w hw => ?_, fun w hw => .inl ⟨_, ?_, rfl⟩, fun c _ w _ => rfl, fun w hw => .inl ⟨_, ?_, rfl⟩, fun c _ w _ => ex_bf rfl rfl rfl rfl, fun w hw => .inl ⟨_, ?_, rfl⟩, fun w hw => .inl ⟨_, ?_, rfl⟩, trivial⟩
                      · go_simp
                      · have h := HWC.out c
                        rw [hw]
                        go_simp
                      · rw [hw, HW0.out.2.1, HW0.out.2.2.1]; exact ex_bs0 rfl
                      · rw [hw]; exact ex_app rfl rfl rfl HW1.out
                      · rw [hw, HW0.out.2.2.2.1, HW0.out.2.2.2.2]; exact ex_bsF rfl rfl
                      · rw [hw]; exact ex_apF rfl rfl rfl HW3.out
                    rintro _ rfl
                    refine rest_set (d := 4) (v := v4) (w' := Ws 4) rfl rfl rfl (rfl) ?_
                    simp only [Act.put, sa, sz, ss]
                    refine rest_nil ?_
                    go_wp2
                    exact ⟨⟨i + 1, gs ++ [⟨f.nm, q2, .slice none 0 0, [], true⟩], by simp, by omega, HW4.out, by have := hC.out.2.1; rw [List.length_append]; simp; omega, by rw [List.map_append, hC.out.2.2, HT.out, List.flatMap_append, List.flatMap_singleton, List.map_singleton, HSE.out]; unfold mcr; rw [show kpz (kup (kbk len zs) len) f.nm = (ka, kb) from Prod.ext HKA.out HKB.out, if_pos HTH.out]⟩, by simp [RowKit.intOf]; omega⟩
                  | false =>
                    rw [hold] at b3
                    by_cases hk0 : 0 < k
                    · have HTH : Hid (f.rf.there ka kb = true) := by show _ = _; unfold Rf.there; rw [HD.out, HTLL.out, decide_eq_true (by omega)]; exact Bool.or_true _
                      go_wp2_with (first
                        | (go_at_call 101; refine Calls.mono HDN.out ?_; rintro e w3 ⟨v3, n3, P3, rfl, h3, h4⟩; obtain ⟨q3, rfl, hq3, hn3, hf3, -⟩ := h3.part; have H3 : Hid _ := h3; have H4 : Hid _ := h4; have HQ3 : Hid _ := hq3; have HN3 : Hid _ := hn3; have HF3 : Hid _ := hf3; have c33 : w3.cell? ⟨W.heap.size, 3, none⟩ = some (.bool false) := (by { have h33 := HB1.out w3 (HB11.out.trans (h3.cw.b.mono HB11.out.size)) 3; rw [hold] at h33; exact h33 }); clear h3 h4 hq3 hn3 hf3)
                        | fail)
                      have HCT : Hid (bs q3.n q3.f = rct f.rf.sf (f.rf.ops.take (f.rf.dn ka)) ++ f.rf.tl ka kb) := by show _ = _; rw [HN3.out, HF3.out, H4.out, HTL.out, HD.out, hQ.out.2.1]; rfl
                      have HBW3 : Hid (Below W.heap.size W w3) := HBW.out.trans (H3.out.cw.b.mono HBW.out.size)
                      have HB13 : Hid (Below w1.heap.size w1 w3) := HB11.out.trans (H3.out.cw.b.mono HB11.out.size)
                      have hq3n : q3.n ≤ 2097152 := by rw [← bs_len q3.n q3.f, HCT.out, List.length_append, HTLL.out, HD.out]; have h0 : (rct f.rf.sf (f.rf.ops.take _)).length ≤ 1048576 := HF.out _ HKL.out; omega
                      obtain ⟨v2, u2, h21, h22⟩ := copy_r (u := w3.drew) (Pq.below HQ3.out (bdr _)) (by omega) 34
                      obtain ⟨q2, rfl, hq2, hn2, hf2, hg2⟩ := h22.part
                      have hCo : Co w u4 gs u2 := (hC.out.1.step (HBW3.out.trans ((bdr w3).mono HBW3.out.size))).step h22.cw.b
                      obtain ⟨v4, u4w, h41, h42, h43⟩ := hCo.app f.nm q2 hq2 (fun x hx => ⟨Nat.le_trans hC.out.1.fo.b.size (Nat.le_trans (HBW3.out).size (hg2 x hx).1), fun e => by have h8 := own_lt hC.out.1.fo.row x e; have h9 := (HBW3.out).size; have h10 := (hg2 x hx).1; have h11 : w3.drew.heap.size = w3.heap.size := rfl; omega⟩) (by have := hC.out.2.1; omega)
                      obtain ⟨Ws, hWs⟩ : ∃ Ws, Ws = Wl [w3.drew, w3.drew.alloc (.cells #[] 5), u2, u2.alloc (.cells #[.string f.nm, .slice q2.p q2.n q2.cp, .slice none 0 0, .bool true] 148)] u4w := ⟨_, rfl⟩
                      have HW0 : Hid (w3.drew = Ws 0 ∧ Ws 1 = (Ws 0).alloc (.cells #[] 5) ∧ w3.heap.size = (Ws 0).heap.size ∧ Ws 3 = (Ws 2).alloc (.cells #[.string f.nm, .slice q2.p q2.n q2.cp, .slice none 0 0, .bool true] 148) ∧ u2.heap.size = (Ws 2).heap.size) := by rw [hWs]; exact ⟨rfl, rfl, rfl, rfl, rfl⟩
                      have HW1 : Hid ((Builtin.append_ #[34, 34] 34 #[.slice (some ⟨w3.heap.size, 0, none⟩) 0 0, .slice q3.p q3.n q3.cp]).run Try.prog (Ws 1) = .ok (.slice q2.p q2.n q2.cp) (Ws 2)) := by rw [hWs]; exact h21
                      have HW3 : Hid ((Builtin.append_ #[101, 101] 101 #[u4, .slice (some ⟨u2.heap.size, 0, none⟩) 1 1]).run Try.prog (Ws 3) = .ok v4 (Ws 4)) := by rw [hWs]; exact h41
                      have HWC : Hid (∀ c, (Ws c).cell? ⟨W.heap.size, 0, none⟩ = some (.string f.nm)) := fun c => by
                        rw [hWs]
                        have hs : W.heap.size < w3.heap.size := Nat.lt_of_lt_of_le HS1.out (HB13.out).size
                        have e0 : w3.drew.cell? ⟨W.heap.size, 0, none⟩ = some (.string f.nm) := HB1.out _ ((HB13.out).trans ((bdr w3).mono (HB13.out).size)) 0
                        have e2 : u2.cell? ⟨W.heap.size, 0, none⟩ = some (.string f.nm) := (h22.cw.b.cell (p := ⟨W.heap.size, 0, none⟩) hs).trans e0
                        have hs2 : W.heap.size < u2.heap.size := Nat.lt_of_lt_of_le hs h22.cw.b.size
                        match c with
                        | 0 => exact e0
                        | 1 => exact (((Below.refl _ w3.drew).alloc (Nat.le_refl _) _).cell (p := ⟨W.heap.size, 0, none⟩) hs).trans e0
                        | 2 => exact e2
                        | 3 => exact (((Below.refl _ u2).alloc (Nat.le_refl _) _).cell (p := ⟨W.heap.size, 0, none⟩) hs2).trans e2
                        | _ + 4 => exact (World.cell?_of_block (a := ⟨W.heap.size, 0, none⟩) (h43 W.heap.size hs2 fun e => absurd (own_lt hC.out.1.fo.row _ e) (Nat.lt_irrefl _))).trans e2
                      have HW4 : Hid (Co w v4 (gs ++ [⟨f.nm, q2, .slice none 0 0, [], true⟩]) (Ws 4)) := by rw [hWs]; exact h42
                      have HSE : Hid ((⟨f.nm, q2, .slice none 0 0, [], true⟩ : Mf).rf = f.rf.set ka kb) := set_eq f ka kb q2 f.nm rfl (by rw [hn2, hf2]; exact HCT.out)
                      clear h21 h22 hq2 hn2 hf2 hg2 hCo h41 h42 h43 hWs
                      refine walk_det (by kernel_rfl) 9 [u4, PT W.heap.size 0, .string f.nm, .slice (some ⟨w3.heap.size, 0, none⟩) 0 0, .slice q3.p q3.n q3.cp, .slice q2.p q2.n q2.cp, .agg #[.string f.nm, .slice q2.p q2.n q2.cp, .slice none 0 0, .bool true], .slice (some ⟨u2.heap.size, 0, none⟩) 1 1, v4] [none, none, none, some 0, none, some 1, none, some 2, some 3] [3, 5, 7, 8] (fun c w => w = Ws c) ?prez3 ?Fz3 ?hprez3 ?hFz3 (by kernel_rfl) ?hWz3 HW0.out.1 ?hopz3 ?hez3
                      case hprez3 => simp only [tk, tz]; rfl
                      case hFz3 => simp only [List.map_cons, List.map_nil, fill, Kind.val, Act.put, sa, sz, ss]; rfl
                      case hWz3 => kernel_rfl
                      case hopz3 =>
                        refine ⟨fun c _ w _ => rfl, fun c _ w _ => ?_, fun c _ w hw => ?_, fun w hw => .inl ⟨_, ?_, rfl⟩, fun c _ w _ => rfl, fun w hw => .inl ⟨_, ?_, rfl⟩, fun c _ w _ => ex_bf rfl rfl rfl rfl, fun w hw => .inl ⟨_, ?_, rfl⟩, fun w hw => .inl ⟨_, ?_, rfl⟩, trivial⟩
                        · go_simp
                        · have h := HWC.out c
                          rw [hw]
                          go_simp
                        · rw [hw, HW0.out.2.1, HW0.out.2.2.1]; exact ex_bs0 rfl
                        · rw [hw]; exact ex_app rfl rfl rfl HW1.out
                        · rw [hw, HW0.out.2.2.2.1, HW0.out.2.2.2.2]; exact ex_bsF rfl rfl
                        · rw [hw]; exact ex_apF rfl rfl rfl HW3.out
                      rintro _ rfl
                      refine rest_set (d := 4) (v := v4) (w' := Ws 4) rfl rfl rfl (rfl) ?_
                      simp only [Act.put, sa, sz, ss]
                      refine rest_nil ?_
                      go_wp2
                      exact ⟨⟨i + 1, gs ++ [⟨f.nm, q2, .slice none 0 0, [], true⟩], by simp, by omega, HW4.out, by have := hC.out.2.1; rw [List.length_append]; simp; omega, by rw [List.map_append, hC.out.2.2, HT.out, List.flatMap_append, List.flatMap_singleton, List.map_singleton, HSE.out]; unfold mcr; rw [show kpz (kup (kbk len zs) len) f.nm = (ka, kb) from Prod.ext HKA.out HKB.out, if_pos HTH.out]⟩, by simp [RowKit.intOf]; omega⟩
                    · obtain rfl : k = 0 := by omega
                      by_cases hP0 : 0 < P
                      · have HTH : Hid (f.rf.there ka kb = true) := by show _ = _; unfold Rf.there; rw [HD.out, HTLL.out, decide_eq_true (by omega)]; exact Bool.or_true _
                        go_wp2_with (first
                          | (go_at_call 101; refine Calls.mono HDN.out ?_; rintro e w3 ⟨v3, n3, P3, rfl, h3, h4⟩; obtain ⟨q3, rfl, hq3, hn3, hf3, -⟩ := h3.part; have H3 : Hid _ := h3; have H4 : Hid _ := h4; have HQ3 : Hid _ := hq3; have HN3 : Hid _ := hn3; have HF3 : Hid _ := hf3; have c33 : w3.cell? ⟨W.heap.size, 3, none⟩ = some (.bool false) := (by { have h33 := HB1.out w3 (HB11.out.trans (h3.cw.b.mono HB11.out.size)) 3; rw [hold] at h33; exact h33 }); clear h3 h4 hq3 hn3 hf3)
                          | fail)
                        have HCT : Hid (bs q3.n q3.f = rct f.rf.sf (f.rf.ops.take (f.rf.dn ka)) ++ f.rf.tl ka kb) := by show _ = _; rw [HN3.out, HF3.out, H4.out, HTL.out, HD.out, hQ.out.2.1]; rfl
                        have HBW3 : Hid (Below W.heap.size W w3) := HBW.out.trans (H3.out.cw.b.mono HBW.out.size)
                        have HB13 : Hid (Below w1.heap.size w1 w3) := HB11.out.trans (H3.out.cw.b.mono HB11.out.size)
                        have hq3n : q3.n ≤ 2097152 := by rw [← bs_len q3.n q3.f, HCT.out, List.length_append, HTLL.out, HD.out]; have h0 : (rct f.rf.sf (f.rf.ops.take _)).length ≤ 1048576 := HF.out _ HKL.out; omega
                        obtain ⟨v2, u2, h21, h22⟩ := copy_r (u := w3.drew) (Pq.below HQ3.out (bdr _)) (by omega) 34
                        obtain ⟨q2, rfl, hq2, hn2, hf2, hg2⟩ := h22.part
                        have hCo : Co w u4 gs u2 := (hC.out.1.step (HBW3.out.trans ((bdr w3).mono HBW3.out.size))).step h22.cw.b
                        obtain ⟨v4, u4w, h41, h42, h43⟩ := hCo.app f.nm q2 hq2 (fun x hx => ⟨Nat.le_trans hC.out.1.fo.b.size (Nat.le_trans (HBW3.out).size (hg2 x hx).1), fun e => by have h8 := own_lt hC.out.1.fo.row x e; have h9 := (HBW3.out).size; have h10 := (hg2 x hx).1; have h11 : w3.drew.heap.size = w3.heap.size := rfl; omega⟩) (by have := hC.out.2.1; omega)
                        obtain ⟨Ws, hWs⟩ : ∃ Ws, Ws = Wl [w3.drew, w3.drew.alloc (.cells #[] 5), u2, u2.alloc (.cells #[.string f.nm, .slice q2.p q2.n q2.cp, .slice none 0 0, .bool true] 148)] u4w := ⟨_, rfl⟩
                        have HW0 : Hid (w3.drew = Ws 0 ∧ Ws 1 = (Ws 0).alloc (.cells #[] 5) ∧ w3.heap.size = (Ws 0).heap.size ∧ Ws 3 = (Ws 2).alloc (.cells #[.string f.nm, .slice q2.p q2.n q2.cp, .slice none 0 0, .bool true] 148) ∧ u2.heap.size = (Ws 2).heap.size) := by rw [hWs]; exact ⟨rfl, rfl, rfl, rfl, rfl⟩
                        have HW1 : Hid ((Builtin.append_ #[34, 34] 34 #[.slice (some ⟨w3.heap.size, 0, none⟩) 0 0, .slice q3.p q3.n q3.cp]).run Try.prog (Ws 1) = .ok (.slice q2.p q2.n q2.cp) (Ws 2)) := by rw [hWs]; exact h21
                        have HW3 : Hid ((Builtin.append_ #[101, 101] 101 #[u4, .slice (some ⟨u2.heap.size, 0, none⟩) 1 1]).run Try.prog (Ws 3) = .ok v4 (Ws 4)) := by rw [hWs]; exact h41
                        have HWC : Hid (∀ c, (Ws c).cell? ⟨W.heap.size, 0, none⟩ = some (.string f.nm)) := fun c => by
                          rw [hWs]
                          have hs : W.heap.size < w3.heap.size := Nat.lt_of_lt_of_le HS1.out (HB13.out).size
                          have e0 : w3.drew.cell? ⟨W.heap.size, 0, none⟩ = some (.string f.nm) := HB1.out _ ((HB13.out).trans ((bdr w3).mono (HB13.out).size)) 0
                          have e2 : u2.cell? ⟨W.heap.size, 0, none⟩ = some (.string f.nm) := (h22.cw.b.cell (p := ⟨W.heap.size, 0, none⟩) hs).trans e0
                          have hs2 : W.heap.size < u2.heap.size := Nat.lt_of_lt_of_le hs h22.cw.b.size
                          match c with
                          | 0 => exact e0
                          | 1 => exact (((Below.refl _ w3.drew).alloc (Nat.le_refl _) _).cell (p := ⟨W.heap.size, 0, none⟩) hs).trans e0
                          | 2 => exact e2
                          | 3 => exact (((Below.refl _ u2).alloc (Nat.le_refl _) _).cell (p := ⟨W.heap.size, 0, none⟩) hs2).trans e2
                          | _ + 4 => exact (World.cell?_of_block (a := ⟨W.heap.size, 0, none⟩) (h43 W.heap.size hs2 fun e => absurd (own_lt hC.out.1.fo.row _ e) (Nat.lt_irrefl _))).trans e2
                        have HW4 : Hid (Co w v4 (gs ++ [⟨f.nm, q2, .slice none 0 0, [], true⟩]) (Ws 4)) := by rw [hWs]; exact h42
                        have HSE : Hid ((⟨f.nm, q2, .slice none 0 0, [], true⟩ : Mf).rf = f.rf.set ka kb) := set_eq f ka kb q2 f.nm rfl (by rw [hn2, hf2]; exact HCT.out)
                        clear h21 h22 hq2 hn2 hf2 hg2 hCo h41 h42 h43 hWs
                        refine walk_det (by kernel_rfl) 9 [u4, PT W.heap.size 0, .string f.nm, .slice (some ⟨w3.heap.size, 0, none⟩) 0 0, .slice q3.p q3.n q3.cp, .slice q2.p q2.n q2.cp, .agg #[.string f.nm, .slice q2.p q2.n q2.cp, .slice none 0 0, .bool true], .slice (some ⟨u2.heap.size, 0, none⟩) 1 1, v4] [none, none, none, some 0, none, some 1, none, some 2, some 3] [3, 5, 7, 8] (fun c w => w = Ws c) ?prez4 ?Fz4 ?hprez4 ?hFz4 (by kernel_rfl) ?hWz4 HW0.out.1 ?hopz4 ?hez4
                        case hprez4 => simp only [tk, tz]; rfl
                        case hFz4 => simp only [List.map_cons, List.map_nil, fill, Kind.val, Act.put, sa, sz, ss]; rfl
                        case hWz4 => kernel_rfl
                        case hopz4 =>
                          refine ⟨fun c _ w _ => rfl, fun c _ w _ => ?_, fun c _ w hw => ?_, fun w hw => .inl ⟨_, ?_, rfl⟩, fun c _ w _ => rfl, fun w hw => .inl ⟨_, ?_, rfl⟩, fun c _ w _ => ex_bf rfl rfl rfl rfl, fun w hw => .inl ⟨_, ?_, rfl⟩, fun w hw => .inl ⟨_, ?_, rfl⟩, trivial⟩
                          · go_simp
                          · have h := HWC.out c
                            rw [hw]
                            go_simp
                          · rw [hw, HW0.out.2.1, HW0.out.2.2.1]; exact ex_bs0 rfl
                          · rw [hw]; exact ex_app rfl rfl rfl HW1.out
                          · rw [hw, HW0.out.2.2.2.1, HW0.out.2.2.2.2]; exact ex_bsF rfl rfl
                          · rw [hw]; exact ex_apF rfl rfl rfl HW3.out
                        rintro _ rfl
                        refine rest_set (d := 4) (v := v4) (w' := Ws 4) rfl rfl rfl (rfl) ?_
                        simp only [Act.put, sa, sz, ss]
                        refine rest_nil ?_
                        go_wp2
                        exact ⟨⟨i + 1, gs ++ [⟨f.nm, q2, .slice none 0 0, [], true⟩], by simp, by omega, HW4.out, by have := hC.out.2.1; rw [List.length_append]; simp; omega, by rw [List.map_append, hC.out.2.2, HT.out, List.flatMap_append, List.flatMap_singleton, List.map_singleton, HSE.out]; unfold mcr; rw [show kpz (kup (kbk len zs) len) f.nm = (ka, kb) from Prod.ext HKA.out HKB.out, if_pos HTH.out]⟩, by simp [RowKit.intOf]; omega⟩
                      · have HTH : Hid (f.rf.there ka kb = false) := by show _ = _; unfold Rf.there; rw [show f.rf.old = false from hold, HD.out, HTLL.out, decide_eq_false (by omega)]; rfl
                        go_wp2_with (first
                          | (go_at_call 101; refine Calls.mono HDN.out ?_; rintro e w3 ⟨v3, n3, P3, rfl, h3, h4⟩; obtain ⟨q3, rfl, hq3, hn3, hf3, -⟩ := h3.part; have H3 : Hid _ := h3; have H4 : Hid _ := h4; have HQ3 : Hid _ := hq3; have HN3 : Hid _ := hn3; have HF3 : Hid _ := hf3; have c33 : w3.cell? ⟨W.heap.size, 3, none⟩ = some (.bool false) := (by { have h33 := HB1.out w3 (HB11.out.trans (h3.cw.b.mono HB11.out.size)) 3; rw [hold] at h33; exact h33 }); clear h3 h4 hq3 hn3 hf3)
                          | fail)
                        have HCT : Hid (bs q3.n q3.f = rct f.rf.sf (f.rf.ops.take (f.rf.dn ka)) ++ f.rf.tl ka kb) := by show _ = _; rw [HN3.out, HF3.out, H4.out, HTL.out, HD.out, hQ.out.2.1]; rfl
                        have HBW3 : Hid (Below W.heap.size W w3) := HBW.out.trans (H3.out.cw.b.mono HBW.out.size)
                        have HB13 : Hid (Below w1.heap.size w1 w3) := HB11.out.trans (H3.out.cw.b.mono HB11.out.size)
                        have hq3n : q3.n ≤ 2097152 := by rw [← bs_len q3.n q3.f, HCT.out, List.length_append, HTLL.out, HD.out]; have h0 : (rct f.rf.sf (f.rf.ops.take _)).length ≤ 1048576 := HF.out _ HKL.out; omega
                        go_wp2
                        exact ⟨⟨i + 1, gs, by simp, by omega, hC.out.1.step HBW3.out, by have := hC.out.2.1; omega, by rw [HT.out, List.flatMap_append, List.flatMap_singleton, ← hC.out.2.2]; unfold mcr; rw [show kpz (kup (kbk len zs) len) f.nm = (ka, kb) from Prod.ext HKA.out HKB.out, if_neg (by rw [HTH.out]; decide), List.append_nil]⟩, by simp [RowKit.intOf]; omega⟩
              · have htl : f.rf.tl ka kb = [] := by
                  unfold Rf.tl
                  rw [HD.out, List.getElem?_eq_none (by rw [show f.rf.ops.length = f.ops.length by simp [Mf.rf]]; omega)]
                have HTLL : Hid ((f.rf.tl ka kb).length = 0) := by show _ = _; rw [htl]; rfl
                have HCT : Hid (bs q.n q.f = rct f.rf.sf (f.rf.ops.take (f.rf.dn ka)) ++ f.rf.tl ka kb) := by show _ = _; rw [htl, List.append_nil, HD.out]; exact hQ.out.2.1
                clear htl
                cases hold : f.old with
                | true =>
                  have HTH : Hid (f.rf.there ka kb = true) := by show _ = _; unfold Rf.there; rw [show f.rf.old = true from hold]; rfl
                  rw [hold] at b3
                  go_wp2
                  obtain ⟨v2, u2, h21, h22⟩ := copy_r (u := wr.drew) (Pq.below hQ.out.1 (bdr _)) (by omega) 34
                  obtain ⟨q2, rfl, hq2, hn2, hf2, hg2⟩ := h22.part
                  have hCo : Co w u4 gs u2 := (hC.out.1.step (HBW.out.trans ((bdr wr).mono HBW.out.size))).step h22.cw.b
                  obtain ⟨v4, u4w, h41, h42, h43⟩ := hCo.app f.nm q2 hq2 (fun x hx => ⟨Nat.le_trans hC.out.1.fo.b.size (Nat.le_trans (HBW.out).size (hg2 x hx).1), fun e => by have h8 := own_lt hC.out.1.fo.row x e; have h9 := (HBW.out).size; have h10 := (hg2 x hx).1; have h11 : wr.drew.heap.size = wr.heap.size := rfl; omega⟩) (by have := hC.out.2.1; omega)
                  obtain ⟨Ws, hWs⟩ : ∃ Ws, Ws = Wl [wr.drew, wr.drew.alloc (.cells #[] 5), u2, u2.alloc (.cells #[.string f.nm, .slice q2.p q2.n q2.cp, .slice none 0 0, .bool true] 148)] u4w := ⟨_, rfl⟩
                  have HW0 : Hid (wr.drew = Ws 0 ∧ Ws 1 = (Ws 0).alloc (.cells #[] 5) ∧ wr.heap.size = (Ws 0).heap.size ∧ Ws 3 = (Ws 2).alloc (.cells #[.string f.nm, .slice q2.p q2.n q2.cp, .slice none 0 0, .bool true] 148) ∧ u2.heap.size = (Ws 2).heap.size) := by rw [hWs]; exact ⟨rfl, rfl, rfl, rfl, rfl⟩
                  have HW1 : Hid ((Builtin.append_ #[34, 34] 34 #[.slice (some ⟨wr.heap.size, 0, none⟩) 0 0, .slice q.p q.n q.cp]).run Try.prog (Ws 1) = .ok (.slice q2.p q2.n q2.cp) (Ws 2)) := by rw [hWs]; exact h21
                  have HW3 : Hid ((Builtin.append_ #[101, 101] 101 #[u4, .slice (some ⟨u2.heap.size, 0, none⟩) 1 1]).run Try.prog (Ws 3) = .ok v4 (Ws 4)) := by rw [hWs]; exact h41
                  have HWC : Hid (∀ c, (Ws c).cell? ⟨W.heap.size, 0, none⟩ = some (.string f.nm)) := fun c => by
                    rw [hWs]
                    have hs : W.heap.size < wr.heap.size := Nat.lt_of_lt_of_le HS1.out (HB11.out).size
                    have e0 : wr.drew.cell? ⟨W.heap.size, 0, none⟩ = some (.string f.nm) := HB1.out _ ((HB11.out).trans ((bdr wr).mono (HB11.out).size)) 0
                    have e2 : u2.cell? ⟨W.heap.size, 0, none⟩ = some (.string f.nm) := (h22.cw.b.cell (p := ⟨W.heap.size, 0, none⟩) hs).trans e0
                    have hs2 : W.heap.size < u2.heap.size := Nat.lt_of_lt_of_le hs h22.cw.b.size
                    match c with
                    | 0 => exact e0
                    | 1 => exact (((Below.refl _ wr.drew).alloc (Nat.le_refl _) _).cell (p := ⟨W.heap.size, 0, none⟩) hs).trans e0
                    | 2 => exact e2
                    | 3 => exact (((Below.refl _ u2).alloc (Nat.le_refl _) _).cell (p := ⟨W.heap.size, 0, none⟩) hs2).trans e2
                    | _ + 4 => exact (World.cell?_of_block (a := ⟨W.heap.size, 0, none⟩) (h43 W.heap.size hs2 fun e => absurd (own_lt hC.out.1.fo.row _ e) (Nat.lt_irrefl _))).trans e2
                  have HW4 : Hid (Co w v4 (gs ++ [⟨f.nm, q2, .slice none 0 0, [], true⟩]) (Ws 4)) := by rw [hWs]; exact h42
                  have HSE : Hid ((⟨f.nm, q2, .slice none 0 0, [], true⟩ : Mf).rf = f.rf.set ka kb) := set_eq f ka kb q2 f.nm rfl (by rw [hn2, hf2]; exact HCT.out)
                  clear h21 h22 hq2 hn2 hf2 hg2 hCo h41 h42 h43 hWs
                  refine walk_det (by kernel_rfl) 9 [u4, PT W.heap.size 0, .string f.nm, .slice (some ⟨wr.heap.size, 0, none⟩) 0 0, .slice q.p q.n q.cp, .slice q2.p q2.n q2.cp, .agg #[.string f.nm, .slice q2.p q2.n q2.cp, .slice none 0 0, .bool true], .slice (some ⟨u2.heap.size, 0, none⟩) 1 1, v4] [none, none, none, some 0, none, some 1, none, some 2, some 3] [3, 5, 7, 8] (fun c w => w = Ws c) ?prez5 ?Fz5 ?hprez5 ?hFz5 (by kernel_rfl) ?hWz5 HW0.out.1 ?hopz5 ?hez5
                  case hprez5 => simp only [tk, tz]; rfl
                  case hFz5 => simp only [List.map_cons, List.map_nil, fill, Kind.val, Act.put, sa, sz, ss]; rfl
                  case hWz5 => kernel_rfl
                  case hopz5 =>
                    refine ⟨fun c _ w _ => rfl, fun c _ w _ => ?_, fun c _ w hw => ?_, fun w hw => .inl ⟨_, ?_, rfl⟩, fun c _ w _ => rfl, fun w hw => .inl ⟨_, ?_, rfl⟩, fun c _ w _ => ex_bf rfl rfl rfl rfl, fun w hw => .inl ⟨_, ?_, rfl⟩, fun w hw => .inl ⟨_, ?_, rfl⟩, trivial⟩
                    · go_simp
                    · have h := HWC.out c
                      rw [hw]
                      go_simp
                    · rw [hw, HW0.out.2.1, HW0.out.2.2.1]; exact ex_bs0 rfl
                    · rw [hw]; exact ex_app rfl rfl rfl HW1.out
                    · rw [hw, HW0.out.2.2.2.1, HW0.out.2.2.2.2]; exact ex_bsF rfl rfl
                    · rw [hw]; exact ex_apF rfl rfl rfl HW3.out
                  rintro _ rfl
                  refine rest_set (d := 4) (v := v4) (w' := Ws 4) rfl rfl rfl (rfl) ?_
                  simp only [Act.put, sa, sz, ss]
                  refine rest_nil ?_
                  go_wp2
                  exact ⟨⟨i + 1, gs ++ [⟨f.nm, q2, .slice none 0 0, [], true⟩], by simp, by omega, HW4.out, by have := hC.out.2.1; rw [List.length_append]; simp; omega, by rw [List.map_append, hC.out.2.2, HT.out, List.flatMap_append, List.flatMap_singleton, List.map_singleton, HSE.out]; unfold mcr; rw [show kpz (kup (kbk len zs) len) f.nm = (ka, kb) from Prod.ext HKA.out HKB.out, if_pos HTH.out]⟩, by simp [RowKit.intOf]; omega⟩
                | false =>
                  rw [hold] at b3
                  by_cases hk0 : 0 < k
                  · have HTH : Hid (f.rf.there ka kb = true) := by show _ = _; unfold Rf.there; rw [HD.out, HTLL.out, decide_eq_true (by omega)]; exact Bool.or_true _
                    go_wp2
                    obtain ⟨v2, u2, h21, h22⟩ := copy_r (u := wr.drew) (Pq.below hQ.out.1 (bdr _)) (by omega) 34
                    obtain ⟨q2, rfl, hq2, hn2, hf2, hg2⟩ := h22.part
                    have hCo : Co w u4 gs u2 := (hC.out.1.step (HBW.out.trans ((bdr wr).mono HBW.out.size))).step h22.cw.b
                    obtain ⟨v4, u4w, h41, h42, h43⟩ := hCo.app f.nm q2 hq2 (fun x hx => ⟨Nat.le_trans hC.out.1.fo.b.size (Nat.le_trans (HBW.out).size (hg2 x hx).1), fun e => by have h8 := own_lt hC.out.1.fo.row x e; have h9 := (HBW.out).size; have h10 := (hg2 x hx).1; have h11 : wr.drew.heap.size = wr.heap.size := rfl; omega⟩) (by have := hC.out.2.1; omega)
                    obtain ⟨Ws, hWs⟩ : ∃ Ws, Ws = Wl [wr.drew, wr.drew.alloc (.cells #[] 5), u2, u2.alloc (.cells #[.string f.nm, .slice q2.p q2.n q2.cp, .slice none 0 0, .bool true] 148)] u4w := ⟨_, rfl⟩
                    have HW0 : Hid (wr.drew = Ws 0 ∧ Ws 1 = (Ws 0).alloc (.cells #[] 5) ∧ wr.heap.size = (Ws 0).heap.size ∧ Ws 3 = (Ws 2).alloc (.cells #[.string f.nm, .slice q2.p q2.n q2.cp, .slice none 0 0, .bool true] 148) ∧ u2.heap.size = (Ws 2).heap.size) := by rw [hWs]; exact ⟨rfl, rfl, rfl, rfl, rfl⟩
                    have HW1 : Hid ((Builtin.append_ #[34, 34] 34 #[.slice (some ⟨wr.heap.size, 0, none⟩) 0 0, .slice q.p q.n q.cp]).run Try.prog (Ws 1) = .ok (.slice q2.p q2.n q2.cp) (Ws 2)) := by rw [hWs]; exact h21
                    have HW3 : Hid ((Builtin.append_ #[101, 101] 101 #[u4, .slice (some ⟨u2.heap.size, 0, none⟩) 1 1]).run Try.prog (Ws 3) = .ok v4 (Ws 4)) := by rw [hWs]; exact h41
                    have HWC : Hid (∀ c, (Ws c).cell? ⟨W.heap.size, 0, none⟩ = some (.string f.nm)) := fun c => by
                      rw [hWs]
                      have hs : W.heap.size < wr.heap.size := Nat.lt_of_lt_of_le HS1.out (HB11.out).size
                      have e0 : wr.drew.cell? ⟨W.heap.size, 0, none⟩ = some (.string f.nm) := HB1.out _ ((HB11.out).trans ((bdr wr).mono (HB11.out).size)) 0
                      have e2 : u2.cell? ⟨W.heap.size, 0, none⟩ = some (.string f.nm) := (h22.cw.b.cell (p := ⟨W.heap.size, 0, none⟩) hs).trans e0
                      have hs2 : W.heap.size < u2.heap.size := Nat.lt_of_lt_of_le hs h22.cw.b.size
                      match c with
                      | 0 => exact e0
                      | 1 => exact (((Below.refl _ wr.drew).alloc (Nat.le_refl _) _).cell (p := ⟨W.heap.size, 0, none⟩) hs).trans e0
                      | 2 => exact e2
                      | 3 => exact (((Below.refl _ u2).alloc (Nat.le_refl _) _).cell (p := ⟨W.heap.size, 0, none⟩) hs2).trans e2
                      | _ + 4 => exact (World.cell?_of_block (a := ⟨W.heap.size, 0, none⟩) (h43 W.heap.size hs2 fun e => absurd (own_lt hC.out.1.fo.row _ e) (Nat.lt_irrefl _))).trans e2
                    have HW4 : Hid (Co w v4 (gs ++ [⟨f.nm, q2, .slice none 0 0, [], true⟩]) (Ws 4)) := by rw [hWs]; exact h42
                    have HSE : Hid ((⟨f.nm, q2, .slice none 0 0, [], true⟩ : Mf).rf = f.rf.set ka kb) := set_eq f ka kb q2 f.nm rfl (by rw [hn2, hf2]; exact HCT.out)
                    clear h21 h22 hq2 hn2 hf2 hg2 hCo h41 h42 h43 hWs
                    refine walk_det (by kernel_rfl) 9 [u4, PT W.heap.size 0, .string f.nm, .slice (some ⟨wr.heap.size, 0, none⟩) 0 0, .slice q.p q.n q.cp, .slice q2.p q2.n q2.cp, .agg #[.string f.nm, .slice q2.p q2.n q2.cp, .slice none 0 0, .bool true], .slice (some ⟨u2.heap.size, 0, none⟩) 1 1, v4] [none, none, none, some 0, none, some 1, none, some 2, some 3] [3, 5, 7, 8] (fun c w => w = Ws c) ?prez6 ?Fz6 ?hprez6 ?hFz6 (by kernel_rfl) ?hWz6 HW0.out.1 ?hopz6 ?hez6
                    case hprez6 => simp only [tk, tz]; rfl
                    case hFz6 => simp only [List.map_cons, List.map_nil, fill, Kind.val, Act.put, sa, sz, ss]; rfl
                    case hWz6 => kernel_rfl
                    case hopz6 =>
                      refine ⟨fun c _ w _ => rfl, fun c _ w _ => ?_, fun c _ w hw => ?_, fun w hw => .inl ⟨_, ?_, rfl⟩, fun c _ w _ => rfl, fun w hw => .inl ⟨_, ?_, rfl⟩, fun c _ w _ => ex_bf rfl rfl rfl rfl, fun w hw => .inl ⟨_, ?_, rfl⟩, fun w hw => .inl ⟨_, ?_, rfl⟩, trivial⟩
                      · go_simp
                      · have h := HWC.out c
                        rw [hw]
                        go_simp
                      · rw [hw, HW0.out.2.1, HW0.out.2.2.1]; exact ex_bs0 rfl
                      · rw [hw]; exact ex_app rfl rfl rfl HW1.out
                      · rw [hw, HW0.out.2.2.2.1, HW0.out.2.2.2.2]; exact ex_bsF rfl rfl
                      · rw [hw]; exact ex_apF rfl rfl rfl HW3.out
                    rintro _ rfl
                    refine rest_set (d := 4) (v := v4) (w' := Ws 4) rfl rfl rfl (rfl) ?_
                    simp only [Act.put, sa, sz, ss]
                    refine rest_nil ?_
                    go_wp2
                    exact ⟨⟨i + 1, gs ++ [⟨f.nm, q2, .slice none 0 0, [], true⟩], by simp, by omega, HW4.out, by have := hC.out.2.1; rw [List.length_append]; simp; omega, by rw [List.map_append, hC.out.2.2, HT.out, List.flatMap_append, List.flatMap_singleton, List.map_singleton, HSE.out]; unfold mcr; rw [show kpz (kup (kbk len zs) len) f.nm = (ka, kb) from Prod.ext HKA.out HKB.out, if_pos HTH.out]⟩, by simp [RowKit.intOf]; omega⟩
                  · obtain rfl : k = 0 := by omega
                    have HTH : Hid (f.rf.there ka kb = false) := by show _ = _; unfold Rf.there; rw [show f.rf.old = false from hold, HD.out, HTLL.out]; rfl
                    go_wp2
                    go_wp2
                    exact ⟨⟨i + 1, gs, by simp, by omega, hC.out.1.step HBW.out, by have := hC.out.2.1; omega, by rw [HT.out, List.flatMap_append, List.flatMap_singleton, ← hC.out.2.2]; unfold mcr; rw [show kpz (kup (kbk len zs) len) f.nm = (ka, kb) from Prod.ext HKA.out HKB.out, if_neg (by rw [HTH.out]; decide), List.append_nil]⟩, by simp [RowKit.intOf]; omega⟩
    · obtain rfl : i = X.fs.length := by omega
      obtain ⟨p, cp, hv, hcp⟩ := own_slice hX.row
      rw [hv] at c0
      obtain ⟨po, cpo, rfl, hle⟩ := own_slice hC.out.1.fo.row
      have HW : Hid _ := Co.fin H.out hC.out.1 H0.out
      clear hX hv
      go_wp2
      go_end0
      refine ⟨rfl, X.wl (.slice po gs.length cpo) gs (gs.flatMap (fun g => gbl g.q) ++ X.L), ?_, rfl, rfl, HW.out⟩
      show (⟨gs.map Mf.rf, X.k, rff X.F X.n⟩ : Rdk) = _
      rw [hC.out.2.2, List.take_of_length_le (Nat.le_refl _)]
      unfold Rdk.cra
      rw [mcr_all (fun s => kpz (kup (kbk len zs) len) s)]
      show _ = (⟨(X.fs.map Mf.rf).flatMap _, X.k, rff X.F X.n⟩ : Rdk)
      rw [List.flatMap_map]
      rfl
end Wi
end Rg
end Go.Proofs.Ytidicdlfjdlpnaa
end
section
namespace Go.Proofs.Ytidicdlfjdlpnaa
open Go.RowKit
namespace Rg
namespace Wi
set_option maxRecDepth 100000
open Go.Shelf Go.Maps
def Dq.del (D : Dq) (s : ByteArray) : Dq := ⟨D.d, D.mb, D.rb, D.k, D.fs.filter (fun g => decide (g.nm ≠ s)), D.rf⟩
theorem lk_del {fs : List Fq} {s x : ByteArray} : lk (fs.filter (fun g => decide (g.nm ≠ s))) x = if x = s then none else lk fs x := by
  unfold lk
  by_cases e : x = s
  · rw [if_pos e]
    refine List.find?_eq_none.2 (fun g hg hd => ?_)
    have h1 := of_decide_eq_true (List.mem_filter.1 hg).2
    have h2 := of_decide_eq_true hd
    rw [h2] at h1
    exact h1 e
  · rw [if_neg e]
    refine find_keepM fs (fun g _ hd => decide_eq_true ?_)
    have h2 := of_decide_eq_true hd
    rw [h2]
    exact e
theorem DOk.del {w u : World} {D : Dq} {s : ByteArray} (h : DOk w D) (hc : Chg [D.mb] w u) {X : DataW Nat} {n : Nat} (hm : u.ownsMap Try.prog 9 RF D.mb n X) (ha : ∀ x, X.atKey (ky x) .nil = if x = s then .nil else dv (lk D.fs x)) (hh : ∀ x, Maps.has X (ky x) = (!decide (x = s) && (lk D.fs x).isSome)) : DOk u (D.del s) := by
  have key : ∀ y ∈ (D.del s).fs, y ∈ D.fs := fun y hy => (List.mem_filter.1 hy).1
  have hlk : ∀ x, lk (D.del s).fs x = if x = s then none else lk D.fs x := fun x => lk_del
  have hun : ((D.del s).fs.map Fq.nm).Nodup := (List.filter_sublist.map Fq.nm).nodup h.un
  have hh2 : ∀ x, Maps.has X (ky x) = (lk (D.del s).fs x).isSome := fun x => by
    rw [hh, hlk]
    by_cases e2 : x = s
    · rw [if_pos e2, decide_eq_true e2]; rfl
    · rw [if_neg e2, decide_eq_false e2]; rfl
  have hsz := map_size hm hh2 hun
  obtain ⟨n', Y, y1, y2⟩ := h.rm
  have nin : ∀ y ∈ D.fs, ∀ x ∈ y.bl, x ∉ [D.mb] := fun y hy x hx hq => (h.hd y hy x hx).2.1 (List.mem_singleton.1 hq)
  refine ⟨hc.mm h.cel (fun p hp hq => ?_), ⟨X, hsz ▸ ownMap_tight hm, fun x => ?_, hh2, hsz⟩, ⟨n', Y, ownMap_keep y1 (hc.block _ y1.lt (fun hq => h.h3.2.2 (List.mem_singleton.1 hq).symm)), y2⟩, fun y hy => (h.fl y (key y hy)).chg hc (nin y (key y hy)), fun y hy z hz hne x hx => h.ap y (key y hy) z (key z hz) hne x hx, fun y hy x hx => h.hd y (key y hy) x hx, h.h3, hun, h.k1, Nat.le_trans (List.length_filter_le _ _) h.n64⟩
  · obtain rfl := List.mem_singleton.1 hp
    exact h.h3.1 (List.mem_singleton.1 hq)
  · rw [ha, hlk]
    by_cases e2 : x = s
    · rw [if_pos e2, if_pos e2]; rfl
    · rw [if_neg e2, if_neg e2]
theorem Dw.del {w u : World} {D D1 : Dq} {s : ByteArray} (hd : DOk u (D1.del s)) (hc : Chg D.bl w u) (hb : ∀ x ∈ D1.bl, x ∈ D.bl) : Dw w D (D1.del s) u :=
  ⟨hd, hc, fun x hx => .inl (hb x (by
    unfold Dq.bl at hx ⊢
    simp only [List.mem_cons, List.mem_flatMap] at hx ⊢
    rcases hx with e | e | e | ⟨y, hy, e⟩
    · exact .inl e
    · exact .inr (.inl e)
    · exact .inr (.inr (.inl e))
    · exact .inr (.inr (.inr ⟨y, (List.mem_filter.1 hy).1, e⟩))))⟩
set_option maxHeartbeats 1000000 in
theorem Remove_ok_f (D : Dq) (s : ByteArray) (hs : s.size ≤ maxLen) (f : Fq) (w : World) (h : DOk w D) (hk : D.k + 1 < 4611686018427387904) (hno : D.no = false) (hl : lk D.fs s = some f) :
    Calls Try.prog 23 #[PT D.d 0, .string s] w fun e w' => e = .returned (.int .i64 0) ∧ Dw w D (D.tick.del s) w' := by
  have hc0 : Calls Try.prog 72 #[PT D.d 0, .string s] w fun e w' => e = .returned (.tuple #[PT f.g 0, .int .i64 0]) ∧ DOk w' D.tick ∧ Chg D.bl w w' := (counted_f D s hs w h hk).mono fun e w' hh => ⟨by rw [hh.1]; unfold Dq.cnt; rw [hno, hl]; rfl, hh.2⟩
  clear h
  go_enter Try.func23, Try.ntmps23
  go_wp2_with (first
    | (go_at_call 72; refine hc0.mono ?_; rintro e w1 ⟨rfl, h1, hc1⟩; have HD : Hid (DOk w1 D.tick) := h1; obtain ⟨X, x1, x2, x3, cD0, hmd⟩ := ren_pre h1; have cD : w1.cell? ⟨D.d, 0, none⟩ = some (.map (some D.mb)) := cD0; clear cD0 h1)
    | (at_delete; refine wpList_delete_own _ rfl _ _ 39 9 rfl 111 (Maps.string_keyed Try.underlying9) Try.underlying39 RF D.mb _ X rfl x1 _ (ky s) rfl (WideMaps.keyOf_string_mk Try.underlying9 hs) ?_; intro w4 hown4 hturn4)
    | fail)
  go_ret
  refine ⟨rfl, Dw.del (HD.out.del (Chg.grown hturn4.grown) hown4 (fun x => ?_) (fun x => ?_)) (hc1.trans (Chg.grown hturn4.grown) (fun x hx => .inl (by rw [List.mem_singleton.1 hx]; show D.mb ∈ D.bl; unfold Dq.bl; simp))) (fun x hx => hx)⟩
  · by_cases e2 : x = s
    · rw [if_pos e2, e2, Maps.atKey_del_same]
    · rw [if_neg e2, Maps.atKey_del_other (fun e3 => e2 (ky_inj e3)), x2]
  · by_cases e2 : x = s
    · rw [decide_eq_true e2, e2, Maps.has_del_same]
      rfl
    · rw [decide_eq_false e2, Maps.has_del_other (fun e3 => e2 (ky_inj e3)), x3]
      rfl
set_option maxHeartbeats 1000000 in
theorem Remove_no_f (D : Dq) (s : ByteArray) (hs : s.size ≤ maxLen) (w : World) (h : DOk w D) (hk : D.k + 1 < 4611686018427387904) (r : Int) (hr : D.cnt s = .tuple #[.pointer none, .int .i64 r]) (hr0 : r ≠ 0) :
    Calls Try.prog 23 #[PT D.d 0, .string s] w fun e w' => e = .returned (.int .i64 r) ∧ Dw w D D.tick w' := by
  have hc0 : Calls Try.prog 72 #[PT D.d 0, .string s] w fun e w' => e = .returned (.tuple #[.pointer none, .int .i64 r]) ∧ DOk w' D.tick ∧ Chg D.bl w w' := (counted_f D s hs w h hk).mono fun e w' hh => ⟨by rw [hh.1, hr], hh.2⟩
  clear h hr
  go_enter Try.func23, Try.ntmps23
  go_wp2_with (first
    | (go_at_call 72; refine hc0.mono ?_; rintro e w1 ⟨rfl, h1, hc1⟩; have HD : Hid (DOk w1 D.tick) := h1; clear h1)
    | fail)
  go_ret
  exact ⟨rfl, HD.out, hc1, fun x hx => .inl hx⟩
theorem Remove_f (D : Dq) (s : ByteArray) (hs : s.size ≤ maxLen) (w : World) (h : DOk w D) (hk : D.k + 1 < 4611686018427387904) :
    Calls Try.prog 23 #[PT D.d 0, .string s] w fun e w' => if D.no then e = .returned (.int .i64 13) ∧ Dw w D D.tick w' else match lk D.fs s with
      | none => e = .returned (.int .i64 6) ∧ Dw w D D.tick w'
      | some _ => e = .returned (.int .i64 0) ∧ Dw w D (D.tick.del s) w' := by
  cases hno : D.no with
  | true => exact (Remove_no_f D s hs w h hk 13 (by unfold Dq.cnt; rw [hno]; rfl) (by decide)).mono fun _ _ hh => by simpa using hh
  | false =>
    cases hl : lk D.fs s with
    | none => exact (Remove_no_f D s hs w h hk 6 (by unfold Dq.cnt; rw [hno, hl]; rfl) (by decide)).mono fun _ _ hh => by simpa using hh
    | some f => exact (Remove_ok_f D s hs f w h hk hno hl).mono fun _ _ hh => by simpa using hh
end Wi
end Rg
end Go.Proofs.Ytidicdlfjdlpnaa
end
section
namespace Go.Proofs.Ytidicdlfjdlpnaa
open Go.RowKit
namespace Rg
namespace Wi
set_option maxRecDepth 100000
theorem rem_a {w0 u : World} {d : Nat} {A : Ad} {L : List Nat} (h : Da w0 d A L u) (hk : A.k < 1000000000) (s : ByteArray) (hs : s.size ≤ 281474976710656) :
    Calls Try.prog 23 #[PT d 0, .string s] u fun e u' => e = .returned (.int .i64 (A.rm s).1) ∧ Da w0 d (A.rm s).2 L u' ∧ Kx L u u' := by
  obtain ⟨D, h1, rfl, rfl, h4⟩ := h
  have hk : D.k < 1000000000 := hk
  refine (Remove_f D s (Nat.le_trans hs (by decide)) u h1.dk (by omega)).mono fun e u' hh => ?_
  have hno : D.ab.no = D.no := rfl
  unfold Ad.rm
  by_cases c1 : D.no = true
  · rw [if_pos c1] at hh
    rw [if_pos (hno.trans c1)]
    exact ⟨hh.1, Da.dw h1 h4 hh.2 rfl rfl⟩
  · rw [if_neg c1] at hh
    rw [if_neg (by rw [hno]; exact c1), Dq.lk_ab]
    cases hl : lk D.fs s with
    | none =>
      rw [hl] at hh
      exact ⟨hh.1, Da.dw h1 h4 hh.2 rfl rfl⟩
    | some f =>
      rw [hl] at hh
      refine ⟨hh.1, Da.dw h1 h4 hh.2 rfl ?_⟩
      show (⟨D.k + 1, (D.fs.filter (fun g => decide (g.nm ≠ s))).map Fq.ab, D.rf⟩ : Ad) = ⟨D.k + 1, (D.fs.map Fq.ab).filter (fun g => decide (g.nm ≠ s)), D.rf⟩
      rw [List.filter_map]
      rfl
set_option maxHeartbeats 2000000 in
theorem Rename_no_f (D : Dq) (s t : ByteArray) (w : World) (h : DOk w D) (hk : D.k + 1 < 4611686018427387904) (hno : D.no = true) :
    Calls Try.prog 22 #[PT D.d 0, .string s, .string t] w fun e w' => e = .returned (.int .i64 13) ∧ Dw w D D.tick w' := by
  have hc0 : Calls Try.prog 66 #[PT D.d 0] w fun e w' => e = .returned (.int .i64 13) ∧ DOk w' D.tick ∧ Chg D.bl w w' := (count_f D w h hk).mono fun e w' hh => ⟨by rw [hh.1, hno]; rfl, hh.2⟩
  clear h
  go_enter Try.func22, Try.ntmps22
  go_wp2_with (first
    | (go_at_call 66; refine hc0.mono ?_; rintro e w1 ⟨rfl, h1, hc1⟩; have HD : Hid (DOk w1 D.tick) := h1; clear h1)
    | go_in)
  go_ret
  exact ⟨rfl, HD.out, hc1, fun x hx => .inl hx⟩
set_option maxHeartbeats 2000000 in
theorem Rename_arg_f (D : Dq) (s t : ByteArray) (hn : nmd t = false) (w : World) (h : DOk w D) (hk : D.k + 1 < 4611686018427387904) (hno : D.no = false) :
    Calls Try.prog 22 #[PT D.d 0, .string s, .string t] w fun e w' => e = .returned (.int .i64 2) ∧ Dw w D D.tick w' := by
  have hc0 : Calls Try.prog 66 #[PT D.d 0] w fun e w' => e = .returned (.int .i64 0) ∧ DOk w' D.tick ∧ Chg D.bl w w' := (count_f D w h hk).mono fun e w' hh => ⟨by rw [hh.1, hno]; rfl, hh.2⟩
  clear h
  go_enter Try.func22, Try.ntmps22
  go_wp2_with (first
    | (go_at_call 66; refine hc0.mono ?_; rintro e w1 ⟨rfl, h1, hc1⟩; have HD : Hid (DOk w1 D.tick) := h1; clear h1)
    | (go_at_call 67; refine (named_any t w1).mono ?_; rw [hn]; rintro e w2 ⟨rfl, hb2⟩)
    | go_in)
  go_ret
  exact ⟨rfl, HD.out.below hb2, hc1.below hb2, fun x hx => .inl hx⟩
theorem quiet_f_miss (D : Dq) (s : ByteArray) (hs : s.size ≤ maxLen) (w : World) (h : DOk w D) (hl : lk D.fs s = none) : Calls Try.prog 74 #[PT D.d 0, .string s] w fun e w' => e = .returned (.tuple #[.pointer none, .int .i64 6]) ∧ Below w.heap.size w w' :=
  quiet_miss D.d D.mb D.rb _ s w h.cel (fun u hu => by rw [h.look s hs (hu.block _ (h.blt _ (by unfold Dq.bl; simp))), hl]; rfl)
set_option maxHeartbeats 2000000 in
theorem Rename_miss_f (D : Dq) (s t : ByteArray) (hs : s.size ≤ maxLen) (hn : nmd t = true) (w : World) (h : DOk w D) (hk : D.k + 1 < 4611686018427387904) (hno : D.no = false) (hl : lk D.fs s = none) :
    Calls Try.prog 22 #[PT D.d 0, .string s, .string t] w fun e w' => e = .returned (.int .i64 6) ∧ Dw w D D.tick w' := by
  have hc0 : Calls Try.prog 66 #[PT D.d 0] w fun e w' => e = .returned (.int .i64 0) ∧ DOk w' D.tick ∧ Chg D.bl w w' := (count_f D w h hk).mono fun e w' hh => ⟨by rw [hh.1, hno]; rfl, hh.2⟩
  clear h
  go_enter Try.func22, Try.ntmps22
  go_wp2_with (first
    | (go_at_call 66; refine hc0.mono ?_; rintro e w1 ⟨rfl, h1, hc1⟩; have HD : Hid (DOk w1 D.tick) := h1; clear h1)
    | (go_at_call 67; refine (named_is hn w1).mono ?_; rintro e w2 ⟨rfl, hb2⟩)
    | (go_at_call 74; refine (quiet_f_miss D.tick s hs w2 (HD.out.below hb2) hl).mono ?_; rintro e w3 ⟨rfl, hb3⟩)
    | go_in)
  go_ret
  exact ⟨rfl, HD.out.below (bel_on hb2 hb3), hc1.below (bel_on hb2 hb3), fun x hx => .inl hx⟩
/-- Rename, whole. -/
theorem rn_a {w0 u : World} {d : Nat} {A : Ad} {L : List Nat} (h : Da w0 d A L u) (hk : A.k < 1000000000) (s t : ByteArray) (hs : s.size ≤ 281474976710656) (ht : t.size ≤ 281474976710656) :
    Calls Try.prog 22 #[PT d 0, .string s, .string t] u fun e u' => e = .returned (.int .i64 (A.rn s t).1) ∧ Da w0 d (A.rn s t).2 L u' ∧ Kx L u u' := by
  have h0 := h
  obtain ⟨D, h1, e1, e2, h4⟩ := h0
  have hk1 : D.k + 1 < 4611686018427387904 := by have : D.ab.k = A.k := by { rw [e2] }; have : D.k = A.k := this; omega
  have hms : s.size ≤ maxLen := Nat.le_trans hs (by decide)
  have hno : A.no = D.no := by rw [← e2]; rfl
  have tk : D.tick.ab = A.tick := by rw [← e2]; rfl
  unfold Ad.rn
  cases c1 : A.no with
  | true =>
    rw [if_pos rfl, ← e1]
    exact (Rename_no_f D s t u h1.dk hk1 (by rw [← hno]; exact c1)).mono fun e u' hh => ⟨hh.1, Da.dw h1 h4 hh.2 rfl tk⟩
  | false =>
    have c1' : D.no = false := by rw [← hno]; exact c1
    rw [if_neg (by decide)]
    cases c2 : nmd t with
    | false =>
      rw [if_pos rfl, ← e1]
      exact (Rename_arg_f D s t c2 u h1.dk hk1 c1').mono fun e u' hh => ⟨hh.1, Da.dw h1 h4 hh.2 rfl tk⟩
    | true =>
      rw [if_neg (by decide)]
      cases hl : A.lk s with
      | none =>
        have hl' : lk D.fs s = none := by
          rw [← e2, Dq.lk_ab] at hl
          simpa using hl
        rw [← e1]
        exact (Rename_miss_f D s t hms c2 u h1.dk hk1 c1' hl').mono fun e u' hh => ⟨hh.1, Da.dw h1 h4 hh.2 rfl tk⟩
      | some f =>
        dsimp only
        by_cases c3 : f.ops = []
        · rw [if_neg (fun e => e c3)]
          exact ren_ok_a h hk s t hs ht c2 c1 f hl c3
        · rw [if_pos c3]
          exact ren_busy_a h hk s t hs c2 c1 f hl c3
end Wi
end Rg
end Go.Proofs.Ytidicdlfjdlpnaa
end
section
namespace Go.Proofs.Ytidicdlfjdlpnaa
open Go.RowKit
namespace Rg
namespace Wi
set_option maxRecDepth 100000
theorem ints_set {P : Nat → Nat} {n i : Nat} (x : Nat) (h : i < n) : (ints .u8 P n).set i (Z8 x) = ints .u8 (fun j => if j = i then x else P j) n := by
  apply List.ext_getElem?
  intro j
  by_cases hj : j < n
  · rw [ints_get _ _ hj]
    by_cases e : j = i
    · subst e
      rw [List.getElem?_set_self (by rw [ints_len]; exact h), if_pos rfl]
    · rw [List.getElem?_set_ne (fun x => e x.symm), ints_get _ _ hj, if_neg e]
  · rw [List.getElem?_eq_none (by rw [List.length_set, ints_len]; omega), List.getElem?_eq_none (by rw [ints_len]; omega)]
/-- A file with one of its bits turned. -/
def Fq.flp (f : Fq) (c : Nat) : Fq := ⟨f.nm, f.g, f.s, f.u, f.n, fun k => if k = c / 8 then fx (f.P (c / 8)) (c % 8) else f.P k, f.ops, f.fr⟩
set_option maxHeartbeats 2000000 in
theorem Spoil_miss_f (D : Dq) (s : ByteArray) (c : Int) (hs : s.size ≤ maxLen) (w : World) (h : DOk w D) (hl : lk D.fs s = none) :
    Calls Try.prog 25 #[PT D.d 0, .string s, .int .i64 c] w fun e w' => e = .returned (.int .i64 6) ∧ Below w.heap.size w w' := by
  have HQ : Hid _ := quiet_f_miss D s hs w h hl
  clear h
  go_enter Try.func25, Try.ntmps25
  go_wp2_with (first
    | (go_at_call 74; refine Calls.mono HQ.out ?_; rintro e w3 ⟨rfl, hb3⟩)
    | fail)
  go_ret
  exact ⟨rfl, hb3⟩
set_option maxHeartbeats 2000000 in
theorem Spoil_busy_f (D : Dq) (s : ByteArray) (c : Int) (hs : s.size ≤ maxLen) (f : Fq) (w : World) (h : DOk w D) (hl : lk D.fs s = some f) (ho : 0 < f.ops.length) :
    Calls Try.prog 25 #[PT D.d 0, .string s, .int .i64 c] w fun e w' => e = .returned (.int .i64 10) ∧ Below w.heap.size w w' := by
  have HQ : Hid _ := quiet_f_busy D s hs f w h hl ho
  clear h
  go_enter Try.func25, Try.ntmps25
  go_wp2_with (first
    | (go_at_call 74; refine Calls.mono HQ.out ?_; rintro e w3 ⟨rfl, hb3⟩)
    | fail)
  go_ret
  exact ⟨rfl, hb3⟩
set_option maxHeartbeats 2000000 in
theorem Spoil_neg_f (D : Dq) (s : ByteArray) (c : Int) (hs : s.size ≤ maxLen) (f : Fq) (w : World) (h : DOk w D) (hl : lk D.fs s = some f) (ho : f.ops.length = 0) (hc : c < 0) :
    Calls Try.prog 25 #[PT D.d 0, .string s, .int .i64 c] w fun e w' => e = .returned (.int .i64 2) ∧ Below w.heap.size w w' := by
  have HQ : Hid _ := quiet_f_hit D s hs f w h hl ho
  clear h
  go_enter Try.func25, Try.ntmps25
  go_wp2_with (first
    | (go_at_call 74; refine Calls.mono HQ.out ?_; rintro e w3 ⟨rfl, hb3⟩)
    | fail)
  go_ret
  exact ⟨rfl, hb3⟩
set_option maxHeartbeats 2000000 in
theorem Spoil_far_f (D : Dq) (s : ByteArray) (c : Nat) (hs : s.size ≤ maxLen) (f : Fq) (w : World) (h : DOk w D) (hl : lk D.fs s = some f) (ho : f.ops.length = 0) (hc : f.n ≤ c / 8) :
    Calls Try.prog 25 #[PT D.d 0, .string s, .int .i64 (c : Int)] w fun e w' => e = .returned (.int .i64 2) ∧ Below w.heap.size w w' := by
  have HQ : Hid _ := quiet_f_hit D s hs f w h hl ho
  have hF := h.fl f (lk_mem hl).1
  have hn1 := hF.n1
  obtain ⟨p, cp, hsv, hle⟩ := own_slice hF.fi.row
  have HF : Hid _ := hF
  have hc8 : f.n * 8 ≤ c := by omega
  clear h hF hc
  go_enter Try.func25, Try.ntmps25
  go_wp2_with (first
    | (go_at_call 74; refine Calls.mono HQ.out ?_; rintro e w3 ⟨rfl, hb3⟩; have c0 : w3.cell? ⟨f.g, 0, none⟩ = some f.s := (HF.out.cel.below hb3).get 0 rfl 0 rfl; rw [hsv] at c0)
    | fail)
  go_ret
  exact ⟨rfl, hb3⟩
set_option maxHeartbeats 2000000 in
theorem Spoil_ok_f (D : Dq) (s : ByteArray) (c : Nat) (hs : s.size ≤ maxLen) (f : Fq) (w : World) (h : DOk w D) (hl : lk D.fs s = some f) (ho : f.ops.length = 0) (hc : c / 8 < f.n) :
    Calls Try.prog 25 #[PT D.d 0, .string s, .int .i64 (c : Int)] w fun e w' => e = .returned (.int .i64 0) ∧ Dw w D (D.swap f (f.flp c)) w' := by
  have HQ : Hid _ := quiet_f_hit D s hs f w h hl ho
  have hfm := (lk_mem hl).1
  have hF := h.fl f hfm
  have hn1 := hF.n1
  obtain ⟨p, cp, hsv, hle⟩ := own_slice hF.fi.row
  have hrow := hF.fi.row
  rw [hsv] at hrow
  obtain ⟨gs, rfl⟩ := own_some hrow (by omega)
  have HF : Hid _ := hF
  have HD : Hid _ := h
  have HO : Hid _ := ho
  have HM : Hid _ := hfm
  have hc8 : c < f.n * 8 := by omega
  obtain ⟨j, hj⟩ : ∃ j, c / 8 = j := ⟨_, rfl⟩
  obtain ⟨r, hr⟩ : ∃ r, c % 8 = r := ⟨_, rfl⟩
  have hr8 : r < 8 := by omega
  have hjI : ((c : Int) / 8) = (j : Int) := by omega
  have hrI : ((c : Int) % 8) = (r : Int) := by omega
  have hjn : j < f.n := by omega
  have HJ : Hid _ := hj
  have HRR : Hid _ := hr
  clear h hF hc hrow hfm ho hl hj hr
  go_enter Try.func25, Try.ntmps25
  go_wp2_with (first
    | (go_at_call 74; refine Calls.mono HQ.out ?_; rintro e w3 ⟨rfl, hb3⟩; have c0 : w3.cell? ⟨f.g, 0, none⟩ = some f.s := (HF.out.cel.below hb3).get 0 rfl 0 rfl; rw [hsv] at c0
       have hr3 := (HF.out.below hb3).fi.row
       rw [hsv] at hr3
       have b5 : w3.cell? ⟨gs, j, none⟩ = some (Z8 (f.P j)) := by { rw [hr3.cellAt j (by omega), ints_get _ _ hjn] }
       have z5 : w3.frozen? ⟨gs, j, none⟩ = false := hr3.frozenAt _
       clear hr3)
    | fail)
  go_region
  rw [fx_eq]
  go_wp2
  go_ret
  refine ⟨rfl, ?_⟩
  have hb : Below w3.heap.size (w3.setCell ⟨gs, j, none⟩ (.int .u8 ((fx (f.P j) r : Nat) : Int))) (w3.setCell ⟨gs, j, none⟩ (.int .u8 ((fx (f.P j) r : Nat) : Int))).drew := ⟨rfl, rfl, rfl, Nat.le_refl _, fun _ _ => rfl⟩
  have hF3 := HF.out.below hb3
  have hD3 := HD.out.below hb3
  have hr3 := hF3.fi.row
  rw [hsv] at hr3
  have hst := (hr3.stored j (Z8 (fx (f.P j) r))).1
  rw [ints_set _ hjn] at hst
  have hgs : gs ∈ vbl f.s := by rw [hsv]; simp [vbl, Value.ownBlock]
  have hvs : ∀ x ∈ vbl f.s, x = gs := fun x hx => by rw [hsv] at hx; simpa [vbl, Value.ownBlock] using hx
  have hcg : Chg [gs] w3 (w3.setCell ⟨gs, j, none⟩ (Z8 (fx (f.P j) r))) := chg_setc gs j w3 _
  have hF' : FOk (w3.setCell ⟨gs, j, none⟩ (Z8 (fx (f.P j) r))) (f.flp c) := by
    refine ⟨hcg.mm hF3.cel fun p hp => ?_, ⟨?_, ?_, fun o hoo => ?_⟩, hF3.ap, fun i hi => ?_, hF3.n1, hF3.m1⟩
    · rw [List.mem_singleton.1 hp]
      exact fun e => hF3.ap.gs (by rw [show f.g = gs from List.mem_singleton.1 e]; exact hgs)
    · show World.ownsRow _ 0 5 1 f.s f.n (ints .u8 (fun k => if k = c / 8 then fx (f.P (c / 8)) (c % 8) else f.P k) f.n)
      rw [hsv, HJ.out, HRR.out]
      exact hst
    · exact own_keep hF3.fi.und fun b hm => hcg.block b (own_lt hF3.fi.und b hm) (fun e => hF3.ap.su gs hgs (List.mem_singleton.1 e ▸ hm))
    · have : f.ops = [] := List.eq_nil_of_length_eq_zero HO.out
      have hoo : o ∈ f.ops := hoo
      rw [this] at hoo; cases hoo
    · have hi : i < f.ops.length := hi
      rw [HO.out] at hi; omega
  have hfb : ∀ x ∈ (f.flp c).bl, x ∈ f.bl := fun x hx => hx
  have hgb : gs ∈ f.bl := List.mem_cons_of_mem _ (by unfold fbl; simp [hgs])
  have hD' : DOk (w3.setCell ⟨gs, j, none⟩ (Z8 (fx (f.P j) r))) (D.swap f (f.flp c)) := hD3.swap HM.out rfl rfl hF' (hcg.mono fun x hx => .inl (by rw [List.mem_singleton.1 hx]; exact hgb)) fun x hx => .inl (hfb x hx)
  have hw : Dw w D (D.swap f (f.flp c)) (w3.setCell ⟨gs, j, none⟩ (Z8 (fx (f.P j) r))) := ⟨hD', (Chg.of hb3).trans hcg fun x hx => .inl (by rw [List.mem_singleton.1 hx]; exact Dq.fbl HM.out gs hgb), fun x hx => by
    rcases Dq.swap_bl hx with e | e
    · exact .inl e
    · exact .inl (Dq.fbl HM.out x (hfb x e))⟩
  exact Dw.step _ _ hw (bdr _)
def Ad.spo (A : Ad) (s : ByteArray) (c : Int) : Int × Ad := match A.lk s with
  | none => (6, A)
  | some f => if f.ops ≠ [] then (10, A) else if c < 0 ∨ f.sf.length ≤ c.toNat / 8 then (2, A) else (0, A.swap s ⟨f.nm, flp f.sf c.toNat, [], f.fr⟩)
/-- Spoil, whole. -/
theorem spo_a {w0 u : World} {d : Nat} {A : Ad} {L : List Nat} (h : Da w0 d A L u) (s : ByteArray) (hs : s.size ≤ 281474976710656) (c : Int) (hc : c < 9223372036854775808) :
    Calls Try.prog 25 #[PT d 0, .string s, .int .i64 c] u fun e u' => e = .returned (.int .i64 (A.spo s c).1) ∧ Da w0 d (A.spo s c).2 L u' ∧ Kx L u u' := by
  have h0 := h
  obtain ⟨D, h1, rfl, rfl, h4⟩ := h
  have hms : s.size ≤ maxLen := Nat.le_trans hs (by decide)
  unfold Ad.spo
  rw [Dq.lk_ab]
  cases hl : lk D.fs s with
  | none => exact (Spoil_miss_f D s c hms u h1.dk hl).mono fun e u' hh => ⟨hh.1, h0.step hh.2, h0.kx hh.2⟩
  | some f =>
    simp only [Option.map_some]
    by_cases c1 : f.ops = []
    · have c1' : f.ab.ops = [] := by unfold Fq.ab; simp [c1]
      have c1l : f.ops.length = 0 := by rw [c1]; rfl
      have hsl : f.ab.sf.length = f.n := bs_len ..
      rw [if_neg (fun e => e c1')]
      by_cases c2 : c < 0
      · rw [if_pos (.inl c2)]
        exact (Spoil_neg_f D s c hms f u h1.dk hl c1l c2).mono fun e u' hh => ⟨hh.1, h0.step hh.2, h0.kx hh.2⟩
      · obtain ⟨m, rfl⟩ : ∃ m : Nat, c = m := ⟨c.toNat, by omega⟩
        rw [Int.toNat_natCast]
        by_cases c3 : f.ab.sf.length ≤ m / 8
        · rw [if_pos (.inr c3)]
          exact (Spoil_far_f D s m hms f u h1.dk hl c1l (by omega)).mono fun e u' hh => ⟨hh.1, h0.step hh.2, h0.kx hh.2⟩
        · rw [if_neg (by omega)]
          refine (Spoil_ok_f D s m hms f u h1.dk hl c1l (by omega)).mono fun e u' hh => ⟨hh.1, Da.dw h1 h4 hh.2 rfl ?_⟩
          rw [Dq.swap_ab, (lk_mem hl).2]
          have e1 : (f.flp m).ab = ⟨f.ab.nm, flp f.ab.sf m, [], f.ab.fr⟩ := by
            unfold Fq.ab Fq.flp
            rw [c1, flp_bs f.P (by omega)]
            rfl
          rw [e1]
    · have c1' : f.ab.ops ≠ [] := by unfold Fq.ab; simp [c1]
      rw [if_pos c1']
      exact (Spoil_busy_f D s c hms f u h1.dk hl (List.length_pos_iff.2 c1)).mono fun e u' hh => ⟨hh.1, h0.step hh.2, h0.kx hh.2⟩
theorem Rl.spo {A : Ad} {R : Rdk} (h : Rl A R) (s : ByteArray) (c : Int) : (A.spo s c).1 = (R.spo s c).1 ∧ Rl (A.spo s c).2 (R.spo s c).2 := by
  unfold Ad.spo Rdk.spo
  rw [h.lk]
  cases e : R.lk s with
  | none => exact ⟨rfl, h⟩
  | some f =>
    have hm := Rdk.mem e
    simp only [Option.map_some]
    by_cases c1 : f.ops = []
    · have c1' : f.ab.ops = [] := by show rops f.sf f.ops = []; rw [c1]; rfl
      rw [if_neg (show ¬(f.ab.ops ≠ []) from fun e => e c1'), if_neg (show ¬(f.ops ≠ []) from fun e => e c1), show f.ab.sf = f.sf from rfl]
      by_cases c2 : c < 0 ∨ f.sf.length ≤ c.toNat / 8
      · rw [if_pos c2, if_pos c2]; exact ⟨rfl, h⟩
      · rw [if_neg c2, if_neg c2]
        refine ⟨rfl, ?_⟩
        have hp := h.put (s := s) (f := ⟨f.nm, flp f.sf c.toNat, [], f.old⟩) hm.2 (fun _ => h.ol f hm.1 c1) (fun i _ => by simp [rct, flp]; exact h.ft f hm.1 0 (Nat.zero_le _))
        exact ⟨h.k, h.rf, hp.fs, hp.st, hp.ol, hp.ft⟩
    · have c1' : f.ab.ops ≠ [] := fun e => c1 (List.eq_nil_of_length_eq_zero (by rw [← f.len_ab, e]; rfl))
      rw [if_pos (show f.ab.ops ≠ [] from c1'), if_pos (show f.ops ≠ [] from c1)]; exact ⟨rfl, h⟩
end Wi
end Rg
end Go.Proofs.Ytidicdlfjdlpnaa
end
section
namespace Go.Proofs.Ytidicdlfjdlpnaa
open Go.RowKit
namespace Rg
namespace Wi
set_option maxRecDepth 100000
set_option maxHeartbeats 2000000 in
theorem same_ints {p p' : Option Addr} {n c c' g o g' o' : Nat} {F : Nat → Int} (hn : n ≤ 100000) (w : World) (hp : 0 < n → p = some ⟨g, o, none⟩) (hp' : 0 < n → p' = some ⟨g', o', none⟩) (hg : 0 < n → g < w.heap.size ∧ g' < w.heap.size) (h1 : ∀ i, i < n → w.cell? ⟨g, o + i, none⟩ = some (.int .i64 (F i))) (h2 : ∀ i, i < n → w.cell? ⟨g', o' + i, none⟩ = some (.int .i64 (F i))) :
    Calls Try.prog 16 #[.slice p n c, .slice p' n c'] w fun e w' => e = .returned (.bool true) ∧ Below w.heap.size w w' := by
  have H1 : Hid _ := h1
  have H2 : Hid _ := h2
  clear h1 h2
  go_enter Try.func16, Try.ntmps16
  go_wp2
  go_loopw [5] (fun v wr => ∃ i : Nat, v = .int .i64 (i : Int) ∧ i ≤ n ∧ Below w.heap.size w wr)
    (fun v _ => n - (RowKit.intOf v).toNat)
  case atStart => exact ⟨0, rfl, Nat.zero_le _, Below.refl _ _⟩
  case round =>
    obtain ⟨i, rfl, hi, hb⟩ := hrel
    by_cases hlt : i < n
    · obtain rfl := hp (by omega)
      obtain rfl := hp' (by omega)
      obtain ⟨g1, g2⟩ := hg (by omega)
      have c1 := (hb.cell (p := ⟨g, o + i, none⟩) g1).trans (H1.out i hlt)
      have c2 := (hb.cell (p := ⟨g', o' + i, none⟩) g2).trans (H2.out i hlt)
      clear hp hp' hg
      go_wp2
      go_region
      all_goals go_wp2
      exact ⟨⟨i + 1, by simp, by omega, hb.trans ((bdr wr).mono hb.size)⟩, by simp [RowKit.intOf]; omega⟩
    · obtain rfl : i = n := by omega
      clear hp hp' hg
      go_wp2
      go_ret
      exact ⟨rfl, hb⟩
set_option maxHeartbeats 2000000 in
theorem same_texts {p p' : Option Addr} {n c c' g o g' o' : Nat} {F : Nat → ByteArray} (hn : n ≤ 100000) (w : World) (hp : 0 < n → p = some ⟨g, o, none⟩) (hp' : 0 < n → p' = some ⟨g', o', none⟩) (hg : 0 < n → g < w.heap.size ∧ g' < w.heap.size) (h1 : ∀ i, i < n → w.cell? ⟨g, o + i, none⟩ = some (.string (F i))) (h2 : ∀ i, i < n → w.cell? ⟨g', o' + i, none⟩ = some (.string (F i))) :
    Calls Try.prog 30 #[.slice p n c, .slice p' n c'] w fun e w' => e = .returned (.bool true) ∧ Below w.heap.size w w' := by
  have H1 : Hid _ := h1
  have H2 : Hid _ := h2
  clear h1 h2
  go_enter Try.func30, Try.ntmps30
  go_wp2
  go_loopw [5] (fun v wr => ∃ i : Nat, v = .int .i64 (i : Int) ∧ i ≤ n ∧ Below w.heap.size w wr)
    (fun v _ => n - (RowKit.intOf v).toNat)
  case atStart => exact ⟨0, rfl, Nat.zero_le _, Below.refl _ _⟩
  case round =>
    obtain ⟨i, rfl, hi, hb⟩ := hrel
    by_cases hlt : i < n
    · obtain rfl := hp (by omega)
      obtain rfl := hp' (by omega)
      obtain ⟨g1, g2⟩ := hg (by omega)
      have c1 := (hb.cell (p := ⟨g, o + i, none⟩) g1).trans (H1.out i hlt)
      have c2 := (hb.cell (p := ⟨g', o' + i, none⟩) g2).trans (H2.out i hlt)
      clear hp hp' hg
      go_wp2
      go_region
      all_goals go_wp2
      exact ⟨⟨i + 1, by simp, by omega, hb.trans ((bdr wr).mono hb.size)⟩, by simp [RowKit.intOf]; omega⟩
    · obtain rfl : i = n := by omega
      clear hp hp' hg
      go_wp2
      go_ret
      exact ⟨rfl, hb⟩
theorem bx_nat (z k : Int) : ∃ y : Nat, bits .xor .u8 z k = (y : Int) := by
  have h : 0 ≤ bits .xor .u8 z k := by
    unfold bits
    exact Int.emod_nonneg _ (by decide)
  exact ⟨(bits .xor .u8 z k).toNat, by omega⟩
/-- Cells of one kind, at least c of them. -/
def Rmk (g c : Nat) (e : TypeId) (G : Value → Prop) (u : World) : Prop := ∃ cur, u.heap[g]? = some (.cells cur e (0, 0)) ∧ c ≤ cur.size ∧ ∀ x ∈ cur.toList, G x
theorem Rmk.at {g c i : Nat} {e : TypeId} {G : Value → Prop} {u : World} (h : Rmk g c e G u) (hi : i < c) : ∃ x, u.cell? ⟨g, i, none⟩ = some x ∧ G x ∧ u.frozen? ⟨g, i, none⟩ = false := by
  obtain ⟨cur, h1, h2, h3⟩ := h
  refine ⟨cur[i]'(by omega), ?_, h3 _ (by simp), frozen_of_row u g i cur e h1⟩
  unfold World.cell?
  dsimp only
  rw [h1]
  exact Array.getElem?_eq_getElem (by omega)
theorem Rmk.set {g c i : Nat} {e : TypeId} {G : Value → Prop} {u : World} {x : Value} (h : Rmk g c e G u) (hx : G x) : Rmk g c e G (u.setCell ⟨g, i, none⟩ x) := by
  obtain ⟨cur, h1, h2, h3⟩ := h
  refine ⟨cur.setIfInBounds i x, heap_setCell_same u g i cur e x h1, by simpa using h2, fun y hy => ?_⟩
  rw [Array.toList_setIfInBounds] at hy
  rcases List.mem_or_eq_of_mem_set hy with e | e
  · exact h3 y e
  · rw [e]; exact hx
set_option maxHeartbeats 2000000 in
theorem over_bytes {g n c : Nat} (hc : c ≤ 9223372036854775807) (hle : n ≤ c) (w : World) (h : Rmk g c 5 Is8 w) :
    Calls Try.prog 53 #[.slice (some ⟨g, 0, none⟩) n c] w fun e w' => e = .returned (.tuple #[]) ∧ Chg [g] w w' := by
  have H : Hid _ := h
  clear h
  go_enter Try.func53, Try.ntmps53
  go_wp2
  go_loopw [3] (fun v wr => ∃ i : Nat, v = .int .i64 (i : Int) ∧ i ≤ c ∧ Hid (Chg [g] w wr ∧ Rmk g c 5 Is8 wr))
    (fun v _ => c - (RowKit.intOf v).toNat)
  case atStart => exact ⟨0, rfl, Nat.zero_le _, Chg.refl _ _, H.out⟩
  case round =>
    obtain ⟨i, rfl, hi, hC⟩ := hrel
    by_cases hlt : i < c
    · obtain ⟨x, hx, ⟨z, rfl⟩, hf⟩ := hC.out.2.at hlt
      obtain ⟨y, hy⟩ := bx_nat (z : Int) 90
      go_wp2
      go_roundw
      case rel => exact ⟨i + 1, by simp, by omega, hC.out.1.trans (chg_setc _ _ _ _) fun x hx => .inl hx, hC.out.2.set ⟨y, rfl⟩⟩
      case measure => simp [RowKit.intOf]; omega
    · obtain rfl : i = c := by omega
      go_wp2
      go_end0
      exact ⟨rfl, hC.out.1⟩
end Wi
end Rg
end Go.Proofs.Ytidicdlfjdlpnaa
end
section
namespace Go.Proofs.Ytidicdlfjdlpnaa
open Go.RowKit
namespace Rg
namespace Wi
set_option maxRecDepth 100000
def GS (i : Nat) (x : Value) : Prop := ∃ s : ByteArray, x = .string s ∧ s.size ≤ 1000 + i
theorem GS.up {i : Nat} {x : Value} (h : GS i x) : GS (i + 1) x := by
  obtain ⟨s, e, h⟩ := h
  exact ⟨s, e, by omega⟩
theorem Rmk.mono {g c : Nat} {e : TypeId} {G G' : Value → Prop} {u : World} (h : Rmk g c e G u) (hg : ∀ x, G x → G' x) : Rmk g c e G' u := by
  obtain ⟨cur, h1, h2, h3⟩ := h
  exact ⟨cur, h1, h2, fun x hx => hg x (h3 x hx)⟩
set_option maxHeartbeats 2000000 in
theorem over_texts {g n c : Nat} (hc : c ≤ 9223372036854775807) (hle : n ≤ c) (w : World) (h : Rmk g c 9 (GS 0) w) :
    Calls Try.prog 63 #[.slice (some ⟨g, 0, none⟩) n c] w fun e w' => e = .returned (.tuple #[]) ∧ Chg [g] w w' := by
  have H : Hid _ := h
  clear h
  go_enter Try.func63, Try.ntmps63
  go_wp2
  go_loopw [3] (fun v wr => ∃ i : Nat, v = .int .i64 (i : Int) ∧ i ≤ c ∧ Hid (Chg [g] w wr ∧ Rmk g c 9 (GS 1) wr ∧ ∀ j, i ≤ j → j < c → ∃ s : ByteArray, wr.cell? ⟨g, j, none⟩ = some (.string s) ∧ s.size ≤ 1000))
    (fun v _ => c - (RowKit.intOf v).toNat)
  case atStart => exact ⟨0, rfl, Nat.zero_le _, Chg.refl _ _, Rmk.mono (show Rmk g c 9 (GS 0) w from H.out) fun x hx => hx.up, fun j _ hj => by
    obtain ⟨x, hx, ⟨z, rfl, hz⟩, _⟩ := Rmk.at (show Rmk g c 9 (GS 0) w from H.out) hj
    exact ⟨z, hx, hz⟩⟩
  case round =>
    obtain ⟨i, rfl, hi, hC⟩ := hrel
    by_cases hlt : i < c
    · have hf : wr.frozen? ⟨g, i, none⟩ = false := by
        obtain ⟨_, _, _, hf⟩ := hC.out.2.1.at hlt
        exact hf
      obtain ⟨z, hx, hz⟩ := hC.out.2.2 i (Nat.le_refl _) hlt
      have hz2 : z.size + 1 ≤ 281474976711657 := by omega
      go_wp2
      go_roundw
      case rel => exact ⟨i + 1, by simp, by omega, hC.out.1.trans (chg_setc _ _ _ _) fun x hx => .inl hx, hC.out.2.1.set ⟨_, rfl, by rw [ByteArray.size_append]; have h1 : (⟨#[33]⟩ : ByteArray).size = 1 := rfl; omega⟩, fun j hj1 hj2 => by
        obtain ⟨y, hy, hys⟩ := hC.out.2.2 j (by omega) hj2
        exact ⟨y, (World.cell?_setCell_other wr _ _ _ (by intro e; injection e with _ e2; omega)).trans hy, hys⟩⟩
      case measure => simp [RowKit.intOf]; omega
    · obtain rfl : i = c := by omega
      go_wp2
      go_end0
      exact ⟨rfl, hC.out.1⟩
/-- The bytes that are lent, and what stands behind them. -/
def lf (n k : Nat) (f : Nat → Nat) (j : Nat) : Nat := if j < n then f j else if j < n + k then 160 + j % 90 else 0
theorem lf_step (n k : Nat) (f : Nat → Nat) (j : Nat) : (if j = n + k then 160 + (n + k) % 90 else lf n k f j) = lf n (k + 1) f j := by
  unfold lf
  by_cases e : j = n + k
  · subst e
    rw [if_pos rfl, if_neg (by omega), if_pos (by omega)]
  · rw [if_neg e]
    by_cases c : j < n
    · rw [if_pos c, if_pos c]
    · rw [if_neg c, if_neg c]
      by_cases c2 : j < n + k
      · rw [if_pos c2, if_pos (by omega)]
      · rw [if_neg c2, if_neg (by omega)]
theorem lf_zero (n : Nat) (f : Nat → Nat) : splice (madeCells #[Value.int .u8 0] (n + 3)).toList 0 (ints .u8 f n) = ints .u8 (lf n 0 f) (n + 3) := by
  apply List.ext_getElem?
  intro j
  unfold splice
  rw [List.take_zero, List.nil_append, Nat.zero_add, ints_len, toList_madeCells_one]
  by_cases h : j < n
  · rw [List.getElem?_append_left (by rw [ints_len]; exact h), ints_get _ _ h, ints_get _ _ (by omega)]
    unfold lf
    rw [if_pos h]
  · rw [List.getElem?_append_right (by rw [ints_len]; omega), ints_len, List.getElem?_drop]
    by_cases h2 : j < n + 3
    · rw [ints_get _ _ h2, List.getElem?_replicate, if_pos (by omega)]
      unfold lf
      rw [if_neg h, if_neg (by omega)]
      rfl
    · rw [List.getElem?_eq_none (by rw [List.length_replicate]; omega), List.getElem?_eq_none (by rw [ints_len]; omega)]
theorem info_b5 : (Try.prog.info? 5).map (·.size) = some 1 := by kernel_rfl
set_option maxHeartbeats 4000000 in
theorem lent_any {q : Pt8} (hqn : q.n ≤ 1048576000) (w : World) (hq : Pq q w) :
    Calls Try.prog 32 #[.slice q.p q.n q.cp] w fun e w' => e = .returned (.slice (some ⟨w.heap.size, 0, none⟩) q.n (q.n + 3)) ∧ w.heap.size < w'.heap.size ∧ Below w.heap.size w w' ∧ w'.heap[w.heap.size]? = some (.cells (ints .u8 (lf q.n 3 q.f) (q.n + 3)).toArray 5 (0, 0)) := by
  have HQ : Hid _ := hq
  have hle := hq.1.le
  obtain ⟨i0, hi, hz0, hz1, hz2⟩ := info_byte
  have hmk := run_make_row (P := Try.prog) 34 5 i0 (.int .u8 0) Try.underlying34 hi hz0 hz1 rfl .i64 .i64 (q.n + 3) (by rw [hz2]; omega) (by omega) w
  have eI : (((q.n + 3 : Nat)) : Int) = (q.n : Int) + 3 := by omega
  rw [eI] at hmk
  have hnew : Hid ((w.alloc (.cells (madeCells #[.int .u8 0] (q.n + 3)) 5)).heap[w.heap.size]? = some (.cells (madeCells #[.int .u8 0] (q.n + 3)).toList.toArray 5 (0, 0))) := heap_alloc_new w _
  have HLEN : Hid ((madeCells #[Value.int .u8 0] (q.n + 3)).toList.length = q.n + 3) := by show _ = _; simp [madeCells]
  have HB : Hid (Below w.heap.size w (w.alloc (.cells (madeCells #[.int .u8 0] (q.n + 3)) 5))) := (Below.refl _ w).alloc (Nat.le_refl _) _
  clear hq hi hz0 hz1 hz2
  go_enter Try.func32, Try.ntmps32
  go_wp2_with (first
    | (refine wpList_copy_splice rfl _ _ 34 34 rfl 5 Try.underlying34 info_b5 (some ⟨w.heap.size, 0, none⟩) q.p (q.n + 3) (q.n + 3) q.n q.cp rfl rfl w.heap.size 0 (madeCells #[.int .u8 0] (q.n + 3)).toList 5 hnew.out (ints .u8 q.f q.n) (by rw [ints_len]; exact (Nat.min_eq_left (by omega)).symm) (fun _ => ⟨rfl, ⟨q.gb, q.o, none⟩, ?_, fun j v hj => ?_⟩) (by rw [ints_len, HLEN.out]; omega) ?_ w.heap.size w HB.out (Nat.le_refl _) ?_)
    | fail)
  · exact HQ.out.1.at (by rw [ints_len] at *; omega)
  · have hlt : j < q.n := by have := (List.getElem?_eq_some_iff.1 hj).1; rwa [ints_len] at this
    rw [ints_get _ _ hlt] at hj
    rw [← Option.some.inj hj, show (⟨q.gb, q.o, none⟩ : Addr).add j = ⟨q.gb, q.o + j, none⟩ by unfold Addr.add; split <;> simp_all]
    exact (HB.out.cell (p := ⟨q.gb, q.o + j, none⟩) (HQ.out.2.2.lt (by omega))).trans (HQ.out.2.2.at_ j hlt)
  · intro v hv
    unfold ints at hv
    obtain ⟨k, _, rfl⟩ := List.mem_map.1 hv
    rfl
  · rintro w2 h2 hb2
    have h2' : Hid (w2.heap[w.heap.size]? = some (.cells (ints .u8 (lf q.n 0 q.f) (q.n + 3)).toArray 5 (0, 0))) := by show _ = _; rw [← lf_zero]; exact h2.out
    clear h2
    clear hmk eI
    have HB2 : Hid _ := hb2
    clear hb2
    go_wp2
    go_loopw [4] (fun v wr => ∃ k : Nat, k ≤ 3 ∧ v = .int .i64 (((q.n + k : Nat)) : Int) ∧ Hid (Below w.heap.size w wr ∧ w.heap.size < wr.heap.size ∧ wr.heap[w.heap.size]? = some (.cells (ints .u8 (lf q.n k q.f) (q.n + 3)).toArray 5 (0, 0))))
      (fun v _ => q.n + 3 - (RowKit.intOf v).toNat)
    case atStart => exact ⟨0, by decide, by simp, HB2.out, (Array.getElem?_eq_some_iff.1 h2'.out).1, h2'.out⟩
    case round =>
      obtain ⟨k, hk, rfl, hC⟩ := hrel
      by_cases hlt : k < 3
      · obtain ⟨i, hi⟩ : ∃ i, q.n + k = i := ⟨_, rfl⟩
        obtain ⟨r, hr⟩ : ∃ r, i % 90 = r := ⟨_, rfl⟩
        have hrI : (i : Int) % 90 = (r : Int) := by omega
        have hr9 : r < 90 := by omega
        have hin : i < q.n + 3 := by omega
        have c5 : wr.cell? ⟨w.heap.size, i, none⟩ = some (Z8 (lf q.n k q.f i)) := by
          unfold World.cell?
          dsimp only
          rw [hC.out.2.2]
          show (ints .u8 (lf q.n k q.f) (q.n + 3)).toArray[i]? = _
          rw [List.getElem?_toArray, ints_get _ _ hin]
        have z5 : wr.frozen? ⟨w.heap.size, i, none⟩ = false := frozen_of_row _ _ _ _ _ hC.out.2.2
        have HI : Hid _ := hi
        have HRR : Hid _ := hr
        rw [hi]
        clear hi hr
        go_wp2
        have ev : Value.int .u8 (160 + (r : Int)) = Z8 (160 + r) := rfl
        have hbb : Below w.heap.size wr (wr.setCell ⟨w.heap.size, i, none⟩ (.int .u8 (160 + (r : Int)))) := (chg_setc w.heap.size i wr (.int .u8 (160 + (r : Int)))).toBelow (fun x hx => by rw [List.mem_singleton.1 hx]; exact Nat.le_refl _) (Nat.le_of_lt hC.out.2.1)
        refine ⟨⟨k + 1, by omega, congrArg (Value.int .i64) (by have := HI.out; omega), hC.out.1.trans hbb, Nat.lt_of_lt_of_le hC.out.2.1 hbb.size, ?_⟩, by simp [RowKit.intOf]; omega⟩
        have h5 := heap_setCell_same wr w.heap.size i _ 5 (.int .u8 (160 + (r : Int))) hC.out.2.2
        rw [ev] at h5
        rw [List.setIfInBounds_toArray, ints_set _ hin] at h5
        have hl : (fun j => if j = i then 160 + r else lf q.n k q.f j) = lf q.n (k + 1) q.f := funext fun j => by rw [← lf_step, HI.out, HRR.out]
        rw [hl] at h5
        exact h5
      · obtain rfl : k = 3 := by omega
        have e3 : ((q.n + 3 : Nat) : Int) = (q.n : Int) + 3 := by omega
        rw [e3]
        clear e3
        go_wp2
        go_ret
        exact ⟨rfl, hC.out.2.1, hC.out.1, hC.out.2.2⟩
end Wi
end Rg
end Go.Proofs.Ytidicdlfjdlpnaa
end
section
namespace Go.Proofs.Ytidicdlfjdlpnaa
open Go.RowKit
namespace Rg
namespace Wi
set_option maxRecDepth 100000
/-- The part that lies at a block's beginning. -/
def qb (g n c : Nat) (f : Nat → Nat) : Pt8 := ⟨g, 0, n, c, some ⟨g, 0, none⟩, f⟩
theorem qb_ok {g n c : Nat} {f : Nat → Nat} {u : World} (hc : n ≤ c) {N : Nat} (hN : n ≤ N) (h : u.heap[g]? = some (.cells (ints .u8 f N).toArray 5 (0, 0))) : Pq (qb g n c f) u := by
  refine ⟨⟨⟨fun _ => by simp [qb], fun (e : 0 = n) => ⟨some ⟨g, 0, none⟩, c, by unfold qb; rw [← e]⟩⟩, hc⟩, fun e => (by cases e), fun _ => (Array.getElem?_eq_some_iff.1 h).1, fun k hk => ?_⟩
  have hk : k < n := hk
  show u.cell? ⟨g, 0 + k, none⟩ = some (Z8 (f k))
  rw [Nat.zero_add]
  unfold World.cell?
  dsimp only
  rw [h]
  show (ints .u8 f N).toArray[k]? = _
  rw [List.getElem?_toArray, ints_get _ _ (by omega)]
set_option maxHeartbeats 4000000 in
theorem kept_any {q : Pt8} (hqn : q.n ≤ 1048576000) (g : Nat) (w : World) (hq : Pq q w) (hg : w.heap[g]? = some (.cells (ints .u8 (lf q.n 3 q.f) (q.n + 3)).toArray 5 (0, 0))) :
    Calls Try.prog 40 #[.slice (some ⟨g, 0, none⟩) q.n (q.n + 3), .slice q.p q.n q.cp] w fun e w' => e = .returned (.bool true) ∧ Below w.heap.size w w' := by
  have HQ : Hid _ := hq
  have HG : Hid (w.heap[g]? = some (.cells (ints .u8 (lf q.n 3 q.f) (q.n + 3)).toArray 5 (0, 0))) := hg
  have hgl := (Array.getElem?_eq_some_iff.1 hg).1
  have hle := hq.1.le
  clear hq hg
  have eT : ((q.n : Int) + 3).toNat = q.n + 3 := by omega
  have eN : 0 ≤ (q.n : Int) + 3 := by omega
  have eL : (q.n : Int) + 3 ≤ ((q.n + 3 : Nat) : Int) := by omega
  go_enter Try.func40, Try.ntmps40
  go_wp2
  refine walk_det (by kernel_rfl) 18 [.slice (some ⟨g, 0, none⟩) q.n (q.n + 3), .int .i64 (q.n : Int), .slice q.p q.n q.cp, .int .i64 (q.n : Int), .bool true, .bool true, .slice (some ⟨g, 0, none⟩) q.n (q.n + 3), .slice (some ⟨g, 0, none⟩) q.n (q.n + 3), .int .i64 ((q.n : Int) + 3), .slice (some ⟨g, 0, none⟩) (q.n + 3) (q.n + 3), .slice q.p q.n q.cp, .slice (some ⟨w.heap.size, 0, none⟩) q.n (q.n + 3), .slice q.p q.n q.cp, .int .i64 (q.n : Int), .int .i64 ((q.n : Int) + 3), .slice (some ⟨w.heap.size, 0, none⟩) (q.n + 3) (q.n + 3), .bool true, .bool true] [none, none, none, none, none, none, none, none, none, none, none, some 0, none, none, none, none, some 1, none] [11, 16] (fun c u => match c with | 0 => u = w.drew | 1 => Below w.heap.size w u ∧ u.heap[w.heap.size]? = some (.cells (ints .u8 (lf q.n 3 q.f) (q.n + 3)).toArray 5 (0, 0)) | _ => Below w.heap.size w u) ?prez ?Fz ?hprez ?hFz (by kernel_rfl) ?hWz rfl ?hopz ?hez
  case hprez => simp only [tk, tz]; rfl
  case hFz => simp only [List.map_cons, List.map_nil, fill, Kind.val, Act.put, sa, sz, ss]; rfl
  case hWz => kernel_rfl
  case hopz =>
    refine ⟨fun c _ w _ => rfl, fun c _ w _ => ?_, fun c _ w _ => rfl, fun c _ w _ => ?_, fun c _ w _ => ?_, fun c _ w _ => rfl, fun c _ w _ => rfl, fun c _ w _ => rfl, fun c _ w _ => ?_, fun c _ w _ => ?_, fun c _ w _ => rfl, fun u hu => .inr ⟨32, #[.slice q.p q.n q.cp], ?_, ?_⟩, fun c _ w _ => rfl, fun c _ w _ => ?_, fun c _ w _ => ?_, fun c _ w _ => ?_, fun u hu => .inr ⟨29, #[.slice (some ⟨g, 0, none⟩) (q.n + 3) (q.n + 3), .slice (some ⟨w.heap.size, 0, none⟩) (q.n + 3) (q.n + 3)], ?_, ?_⟩, fun c _ w _ => ?_, trivial⟩
    all_goals first
      | (go_simp; done)
      | (go_simp; simp; done)
      | (refine exec_call rfl (fun _ _ => rfl) rfl (by simp only [List.map_toArray, List.map_cons, List.map_nil]; rfl); done)
      | skip
    · subst hu
      refine Calls.mono (lent_any hqn _ (Pq.below HQ.out (bdr _))) ?_
      rintro e w2 ⟨rfl, h1, h2, h3⟩
      exact ⟨rfl, (bdr _).trans h2, h3⟩
    · have hqI : (q.n : Int) + 3 ≤ 9223372036854775807 := by omega
      have hq0 : -9223372036854775808 ≤ (q.n : Int) + 3 := by omega
      clear eT eN eL
      go_simp
      rw [IntKind.wrap_i64]
      omega
    · obtain ⟨h1, h2⟩ := hu
      have hg2 : u.heap[g]? = some (.cells (ints .u8 (lf q.n 3 q.f) (q.n + 3)).toArray 5 (0, 0)) := (h1.block g hgl).trans HG.out
      refine Calls.mono (same_q (q := qb g (q.n + 3) (q.n + 3) (lf q.n 3 q.f)) (r := qb w.heap.size (q.n + 3) (q.n + 3) (lf q.n 3 q.f)) ?_ ?_ rfl fun i _ => rfl) ?_
      · have := qb_ok (c := q.n + 3) (Nat.le_refl _) (Nat.le_refl _) hg2
        exact ⟨this.1, this.2.2⟩
      · have := qb_ok (c := q.n + 3) (Nat.le_refl _) (Nat.le_refl _) h2
        exact ⟨this.1, this.2.2⟩
      · rintro e w2 ⟨rfl, h3⟩
        exact ⟨rfl, h1.trans (h3.mono h1.size)⟩
  intro w' hb
  have HB : Hid (Below w.heap.size w w') := hb
  clear hb
  refine rest_set (d := 4) (v := .bool true) (w' := w') rfl rfl rfl (rfl) ?_
  simp only [Act.put, sa, sz, ss]
  refine rest_nil ?_
  go_wp2
  go_ret
  exact ⟨rfl, HB.out⟩
end Wi
end Rg
end Go.Proofs.Ytidicdlfjdlpnaa
end
section
namespace Go.Proofs.Ytidicdlfjdlpnaa
open Go.RowKit
namespace Rg
namespace Wi
set_option maxRecDepth 100000
section
variable {w0 u u' : World} {d : Nat} {A : Ad} {L : List Nat}
theorem Da.chg {M : List Nat} (h : Da w0 d A L u) (hc : Chg M u u') (hM : ∀ x ∈ M, x ∈ L) (hlo : ∀ x ∈ M, w0.heap.size ≤ x) : Da w0 d A L u' := by
  obtain ⟨D, h1, h2, h3, h4⟩ := h
  exact ⟨D, ⟨h1.b.trans (hc.toBelow hlo h1.b.size), h1.dk.chg hc fun x hx => (h4 x (hM x hx)).2, h1.lo⟩, h2, h3, fun x hx => ⟨Nat.lt_of_lt_of_le (h4 x hx).1 hc.size, (h4 x hx).2⟩⟩
/-- A block that is new is none of the disk's. -/
theorem Da.fresh (h : Da w0 d A L u) (hc : Chg L u u') (hlo : ∀ x ∈ L, w0.heap.size ≤ x) (M : List Nat) (hM : ∀ x ∈ M, x ∈ L ∨ (u.heap.size ≤ x ∧ x < u'.heap.size)) : Da w0 d A M u' := by
  obtain ⟨D, h1, h2, h3, h4⟩ := h
  refine ⟨D, ⟨h1.b.trans (hc.toBelow hlo h1.b.size), h1.dk.chg hc fun x hx => (h4 x hx).2, h1.lo⟩, h2, h3, fun x hx => ?_⟩
  rcases hM x hx with e | ⟨e1, e2⟩
  · exact ⟨Nat.lt_of_lt_of_le (h4 x e).1 hc.size, (h4 x e).2⟩
  · exact ⟨e2, fun hm => absurd (h1.dk.blt x hm) (Nat.not_lt.2 e1)⟩
end
theorem Cr.app2 {w u : World} {v : Value} {n : Nat} {P : Nat → Nat} (h : Cr w v n P u) {q : Pt8} (hq : Pq q u) (hb : n + q.n ≤ 2097152) (ty : TypeId) :
    ∃ v' u2, (Builtin.append_ #[34, 34] ty #[v, .slice q.p q.n q.cp]).run Try.prog u = .ok v' u2 ∧ Cr w v' (n + q.n) (ct P n q.f) u2 ∧ Chg (vbl v) u u2 := by
  obtain ⟨v', u2, h1, h2, h3, h4, h5⟩ := own_app8 h.cw.own h.rm h.cw.size hq.1 hq.2.1 hq.2.2 hb ty
  exact ⟨v', u2, h1, ⟨h.cw.on (Chg.grown h3) h2, h5⟩, Chg.grown h3⟩
theorem Cr.take {w0 w : World} {p : Option Addr} {n c k : Nat} {P : Nat → Nat} (h : Cr w0 (.slice p n c) n P w) (hk : k ≤ n) : Cr w0 (.slice p k c) k P w :=
  ⟨⟨h.cw.b, own_take h.cw.own hk⟩, fun g hg => h.rm g (by rw [obs p n k c c]; exact hg)⟩
set_option maxHeartbeats 2000000 in
/-- What an operation of the program's disk makes of a row of one's own. -/
theorem upon_r {w0 : World} (st : Nat) (q : Pt8) {v : Value} {n : Nat} {P : Nat → Nat} (hst : st ≤ n) (hbd : st + q.n ≤ 2097152) (w : World) (h : Cr w0 v n P w) (hq : Pq q w) :
    Calls Try.prog 102 #[.agg #[.int .i64 (st : Int), .slice q.p q.n q.cp], v] w fun e w' => ∃ v', e = .returned v' ∧ Cr w0 v' (st + q.n) (ct P st q.f) w' := by
  obtain ⟨p, c, rfl, hle⟩ := own_slice h.cw.own
  obtain ⟨w1, hw1⟩ : ∃ w1, (w.alloc (.cells #[.int .i64 (st : Int), .slice q.p q.n q.cp] 120)) = w1 := ⟨_, rfl⟩
  have hb1 : Below w.heap.size w w1 := by rw [← hw1]; exact (Below.refl _ _).alloc (Nat.le_refl _) _
  have hb2 : Below w.heap.size w w1.drew := hb1.trans ((bdr w1).mono hb1.size)
  have HB : Hid (∀ i, w1.drew.cell? ⟨w.heap.size, i, none⟩ = (#[.int .i64 (st : Int), .slice q.p q.n q.cp] : Array Value)[i]?) := fun i => by rw [← hw1]; exact box_at ..
  obtain ⟨v', u2, h1, h2, h3⟩ := ((h.step hb2).take hst).app2 (Pq.below hq hb2) hbd 34
  have hs1 : w.heap.size < w1.drew.heap.size := by rw [← hw1]; simp
  have HB2 : Hid (∀ i, u2.cell? ⟨w.heap.size, i, none⟩ = (#[.int .i64 (st : Int), .slice q.p q.n q.cp] : Array Value)[i]?) := fun i => (h3.cell (p := ⟨w.heap.size, i, none⟩) hs1 (fun e => absurd (own_lt (own_take h.cw.own hst) _ e) (Nat.lt_irrefl _))).trans (HB.out i)
  have H1 : Hid _ := h1
  have H2 : Hid _ := h2
  have hstc : (st : Int) ≤ (c : Int) := by omega
  clear h1 h2 h3 hb1 hb2 h hq hs1
  go_enter Try.func102, Try.ntmps102
  go_wp2
  obtain ⟨Ws, hWs⟩ : ∃ Ws, Ws = Wl [w1.drew] u2 := ⟨_, rfl⟩
  have HW : Hid (w1.drew = Ws 0 ∧ u2 = Ws 1) := by rw [hWs]; exact ⟨rfl, rfl⟩
  have HC : Hid (∀ c i, (Ws c).cell? ⟨w.heap.size, i, none⟩ = (#[.int .i64 (st : Int), .slice q.p q.n q.cp] : Array Value)[i]?) := fun c i => by
    rw [hWs]
    match c with
    | 0 => exact HB.out i
    | _ + 1 => exact HB2.out i
  clear hWs
  refine walk_det (by kernel_rfl) 7 [.slice p n c, PT w.heap.size 0, .int .i64 (st : Int), .slice p st c, PT w.heap.size 1, .slice q.p q.n q.cp, v'] [none, none, none, none, none, none, some 0] [6] (fun c w => w = Ws c) ?prez ?Fz ?hprez ?hFz (by kernel_rfl) ?hWz HW.out.1 ?hopz ?hez
  case hprez => simp only [tk, tz]; rfl
  case hFz => simp only [List.map_cons, List.map_nil, fill, Kind.val, Act.put, sa, sz, ss]; rfl
  case hWz => kernel_rfl
  case hopz =>
    refine ⟨fun c _ w _ => rfl, fun c _ w _ => ?_, fun c _ u hu => ?_, fun c _ w _ => ?_, fun c _ w _ => ?_, fun c _ u hu => ?_, fun u hu => .inl ⟨_, ?_, rfl⟩, trivial⟩
    · go_simp
    · have h0 : (Ws c).cell? ⟨w.heap.size, 0, none⟩ = some (.int .i64 (st : Int)) := HC.out c 0
      rw [hu]
      go_simp
    · cases p <;> go_simp
    · go_simp
    · have h0 : (Ws c).cell? ⟨w.heap.size, 1, none⟩ = some (.slice q.p q.n q.cp) := HC.out c 1
      rw [hu]
      go_simp
    · rw [hu, ← HW.out.1, ← HW.out.2]; exact ex_app rfl rfl rfl H1.out
  rintro _ rfl
  refine rest_set (d := 4) (v := v') (w' := Ws 1) rfl rfl rfl (rfl) ?_
  simp only [Act.put, sa, sz, ss]
  refine rest_nil ?_
  go_wp2
  go_ret
  rw [← HW.out.2]
  exact ⟨_, rfl, H2.out⟩
end Wi
end Rg
end Go.Proofs.Ytidicdlfjdlpnaa
end
section
namespace Go.Proofs.Ytidicdlfjdlpnaa
open Go.RowKit
namespace Rg
namespace Wi
set_option maxRecDepth 100000
theorem made_r {w w1 : World} (hb : Below w.heap.size w w1) (c : Nat) (hc : c ≤ 2097152) : ∃ w2, (Instr.makeSlice 34 (.int .i64 0) (.int .i64 (c : Int))).run Try.prog w1 = .ok (.slice (some ⟨w1.heap.size, 0, none⟩) 0 c) w2 ∧ Cr w (.slice (some ⟨w1.heap.size, 0, none⟩) 0 c) 0 (fun _ => 0) w2 := by
  obtain ⟨i0, hi, hz0, hz1, hz2⟩ := info_byte
  have hr := run_make (P := Try.prog) w1 34 5 i0 (.int .u8 0) Try.underlying34 hi hz0 .i64 .i64 0 c (by omega) (by omega) (by rw [hz2]; omega) (by omega)
  obtain ⟨w2, h1, h2, h3⟩ := made_own hb c hc
  rw [h1] at hr
  injection hr with _ hr
  refine ⟨w2, h1, h2, fun g hg => ?_⟩
  injection hg with hg
  subst hg
  rw [hr]
  refine ⟨_, World.alloc_heap_new w1 _, fun x hx => ?_⟩
  have e : (madeCells (Value.int .u8 0).cells ((c : Int).toNat * i0.size)).toList = List.replicate (c * 1) (Value.int .u8 0) := by rw [hz1]; exact toList_madeCells_one _ _
  rw [e] at hx
  exact ⟨0, (List.mem_replicate.1 hx).2⟩
def cfe : Nat → Bool := fun i => i == 1 || i == 2 || i == 7
/-- What holds while a content is begun. -/
structure Jc (w : World) (f : Fq) (d : Nat → Bool) (ε : Nat → Value) (u : World) : Prop where
  b : Below w.heap.size w u
  n : d 1 = true → ε 1 = .int .i64 (f.N : Int)
  m : d 2 = true → d 7 = false → Cr w (ε 2) 0 (fun _ => 0) u
  r : d 7 = true → Cr w (ε 7) f.n f.P u
  o : d 7 = true → d 2 = true
set_option maxHeartbeats 4000000 in
theorem content_r (f : Fq) (w : World) (h : FOk w f) : Calls Try.prog 65 #[PT f.g 0] w fun e w' => ∃ v, e = .returned v ∧ Cr w v f.N f.C w' := by
  obtain ⟨q, eq, hq1, hq2, hq3, hq4, hq5, _⟩ := own_part h.fi.row
  have HQ : Hid (Pq q w ∧ q.n = f.n ∧ q.f = f.P) := ⟨⟨hq1, hq2, hq5⟩, hq3, hq4⟩
  have H : Hid _ := h
  have hn1 := h.n1
  have hN1 := h.N1
  have hm1 := h.m1
  obtain ⟨pu, cu, hu, hcu⟩ := own_slice h.fi.und
  have HC : Hid (∀ u, Below w.heap.size w u → u.cell? ⟨f.g, 0, none⟩ = some (.slice q.p q.n q.cp) ∧ u.cell? ⟨f.g, 1, none⟩ = some (.slice pu f.ops.length cu)) := fun u hu2 => by
    have hc := h.cel.below hu2
    rw [eq, hu] at hc
    exact ⟨hc.get 0 rfl 0 rfl, hc.get 0 rfl 1 rfl⟩
  have HU : Hid _ := hu
  clear hq1 hq2 hq5 hq3 hq4 h eq hu
  go_enter Try.func65, Try.ntmps65
  go_wp2
  refine walk_mix (by kernel_rfl) 8 [PT f.g 0, undef, undef, PT f.g 0, PT f.g 0, PT f.g 0, .slice q.p q.n q.cp, undef] cfe (fun d ε u => Jc w f d ε u) ?prez (fun ε => (⟨#[PT f.g 0, undef, .slice none 0 0, undef, undef, undef, PT f.g 0, ε 1, ε 2, PT f.g 0, PT f.g 0, PT f.g 0, .slice q.p q.n q.cp, ε 7, undef, undef, undef, undef, undef, undef, undef, undef, undef, undef, undef, undef, undef, undef], []⟩ : Act)) ?hprez (fun ε => ?hFz) rfl (fun ε => by kernel_rfl) (fun ε => ?hWz) ?h0z ?hqz ?hez ?hendz
  case hprez => simp only [tk, tz]; rfl
  case hFz =>
    rw [show vsOf cfe [PT f.g 0, undef, undef, PT f.g 0, PT f.g 0, PT f.g 0, .slice q.p q.n q.cp, undef] 8 ε = [PT f.g 0, ε 1, ε 2, PT f.g 0, PT f.g 0, PT f.g 0, .slice q.p q.n q.cp, ε 7] from rfl]
    simp only [List.map_cons, List.map_nil, fill, Kind.val, Act.put, sa, sz, ss]
  case hWz => kernel_rfl
  case h0z => exact ⟨fun _ => undef, bdr w, (fun e => by cases e), (fun e => by cases e), (fun e => by cases e), (fun e => by cases e)⟩
  case hqz =>
    refine ⟨?_, ?_, ?_, ?_, ?_, ?_, ?_, ?_, trivial⟩
    · exact fun _ d ε u hJ => rfl
    · exact fun h => absurd h (by decide)
    · exact fun h => absurd h (by decide)
    · exact fun _ d ε u hJ => rfl
    · exact fun _ d ε u hJ => by clear hJ; go_simp
    · exact fun _ d ε u hJ => by clear hJ; go_simp
    · exact fun _ d ε u hJ => by (have hc := (HC.out u hJ.b).1); clear hJ; go_simp
    · exact fun h => absurd h (by decide)
  case hez =>
    rintro k ok hok hk d ε u hd hdep hJ
    have hk3 : k = 1 ∨ k = 2 ∨ k = 7 := by simpa [cfe, or_assoc] using hk
    rcases hk3 with rfl | rfl | rfl
    · injection hok with hok
      subst hok
      refine .inr ⟨68, #[PT f.g 0], exec_call rfl (fun _ _ => rfl) rfl (by simp only [List.map_toArray, List.map_cons, List.map_nil]; rfl), Calls.mono (size_f f u (H.out.below hJ.b)) ?_⟩
      rintro e w5 ⟨rfl, h5⟩
      refine ⟨_, rfl, hJ.b.trans (h5.mono hJ.b.size), fun _ => by rw [upd_same], fun e e2 => ?_, fun e => ?_, fun e => ?_⟩
      · rw [upd_ne _ _ (by decide)] at e e2 ⊢
        exact (hJ.m e e2).step h5
      · rw [upd_ne _ _ (by decide)] at e ⊢
        exact (hJ.r e).step h5
      · rw [upd_ne _ _ (by decide)] at e ⊢
        exact hJ.o e
    · injection hok with hok
      subst hok
      have h1 := hdep 1 rfl (by kernel_rfl)
      have h7 : d 7 = false := by cases e : d 7 with | false => rfl | true => exact absurd (hJ.o e) (by rw [hd]; decide)
      obtain ⟨w2, hr, hc⟩ := made_r hJ.b f.N (by omega)
      refine .inl ⟨_, w2, ex_mkS0 rfl rfl (hJ.n h1) hr, hc.cw.b, fun _ => by rw [upd_ne _ _ (by decide)]; exact hJ.n h1, fun _ _ => by rw [upd_same]; exact hc, fun e => ?_, fun _ => upd_same _ _ _⟩
      rw [upd_ne _ _ (by decide), h7] at e; cases e
    · injection hok with hok
      subst hok
      have h2 := hdep 2 rfl (by kernel_rfl)
      have hc0 := hJ.m h2 hd
      obtain ⟨v, u', hr, hc⟩ := hc0.app (q := q) (Pq.below HQ.out.1 hJ.b) (by have := HQ.out.2.1; omega) 34
      refine .inl ⟨v, u', ex_app rfl rfl rfl hr, hc.cw.b, fun e => ?_, fun _ e => ?_, fun _ => ?_, fun _ => ?_⟩
      · rw [upd_ne _ _ (by decide)] at e ⊢
        exact hJ.n e
      · rw [upd_same] at e; cases e
      · rw [upd_same]
        have h9 := hc.cg (P2 := q.f) fun j _ => ct_zero _ _ _
        rw [Nat.zero_add, HQ.out.2.1, HQ.out.2.2] at h9
        exact h9
      · rw [upd_ne _ _ (by decide)]; exact h2
  case hendz =>
    rintro d ε u hall hJ
    have hc := hJ.r (hall 7 (by decide) rfl)
    have HCR : Hid _ := hc
    obtain ⟨v0, hv0⟩ : ∃ v0, ε 7 = v0 := ⟨_, rfl⟩
    rw [hv0] at hc
    have HJB : Hid _ := hJ.b
    have c1 := (HC.out u hJ.b).2
    have HC0 : Hid (Cr w v0 f.n f.P u) := hc
    clear hc hJ HCR
    refine rest_set (d := 3) (v := v0) (w' := u) rfl rfl rfl (by rw [← hv0]; rfl) ?_
    simp only [Act.put, sa, sz, ss]
    refine rest_nil ?_
    clear c1
    have c1 := (HC.out u HC0.out.cw.b).2
    go_wp2
    clear c1 hv0
    go_loopw [3, 19] (fun vb v wr => ∃ i : Nat, v = .int .i64 (i : Int) ∧ i ≤ f.ops.length ∧ Hid (Cr w vb (rN f.n (opF f.ops) i) (rP f.P (opF f.ops) i) wr))
      (fun _ v _ => f.ops.length - (RowKit.intOf v).toNat)
    case atStart => exact ⟨0, rfl, Nat.zero_le _, HC0.out⟩
    case round =>
      obtain ⟨i, rfl, hi, hC⟩ := hrel
      by_cases hlt : i < f.ops.length
      · obtain ⟨gu, cu', eu, -, hgl, -, h4⟩ := H.out.und (by omega)
        rw [HU.out] at eu
        injection eu with e1 _ e3
        subst e1 e3
        obtain ⟨d0, d1⟩ := h4 i hlt
        rw [Nat.mul_comm] at d0 d1
        obtain ⟨o, hoo⟩ : ∃ o, opF f.ops i = o := ⟨_, rfl⟩
        have hvl := H.out.vl i hlt
        have hok : Pq (opF f.ops i).q w := H.out.fi.opk _ (opF_mem hlt)
        rw [hoo] at d0 d1 hvl hok
        have d0 := (hC.out.cw.b.cell (p := ⟨gu, i * 2, none⟩) hgl).trans d0
        have d1 := (hC.out.cw.b.cell (p := ⟨gu, i * 2 + 1, none⟩) hgl).trans d1
        obtain ⟨w5, hw5⟩ : ∃ w5, (wr.alloc (.cells #[.int .i64 (o.st : Int), .slice o.q.p o.q.n o.q.cp] 120)) = w5 := ⟨_, rfl⟩
        have hb5 : Below wr.heap.size wr w5 := by rw [← hw5]; exact (Below.refl _ _).alloc (Nat.le_refl _) _
        have b0 : w5.cell? ⟨wr.heap.size, 0, none⟩ = some (.int .i64 (o.st : Int)) := by rw [← hw5]; exact box_at ..
        have b1 : w5.cell? ⟨wr.heap.size, 1, none⟩ = some (.slice o.q.p o.q.n o.q.cp) := by rw [← hw5]; exact box_at ..
        have HUP : Hid _ := upon_r o.st o.q hvl.1 (by have := hvl.2.1; omega) w5 (hC.out.step hb5) (Pq.below (Pq.below hok hC.out.cw.b) hb5)
        have HOO : Hid _ := hoo
        clear h4 hvl hok hb5 hoo
        go_wp2_with (first
          | (go_at_call 102; refine Calls.mono HUP.out ?_; rintro e w6 ⟨v6, rfl, h6⟩; have H6 : Hid _ := h6; clear h6)
          | fail)
        exact ⟨⟨i + 1, by simp, by omega, by (have h7 := H6.out); rw [← HOO.out] at h7; exact h7⟩, by simp [RowKit.intOf]; omega⟩
      · obtain rfl : i = f.ops.length := by omega
        go_wp2
        go_ret
        exact ⟨_, rfl, hC.out⟩
end Wi
end Rg
end Go.Proofs.Ytidicdlfjdlpnaa
end
section
namespace Go.Proofs.Ytidicdlfjdlpnaa
open Go.RowKit
namespace Rg
namespace Wi
set_option maxRecDepth 100000
theorem find_f_hit (D : Dq) (s : ByteArray) (hs : s.size ≤ maxLen) (f : Fq) (w : World) (h : DOk w D) (hl : lk D.fs s = some f) : Calls Try.prog 64 #[PT D.d 0, .string s] w fun e w' => e = .returned (.tuple #[PT f.g 0, .int .i64 0]) ∧ Below w.heap.size w w' :=
  find_hit D.d D.mb D.rb f.g _ s w h.cel (fun u hu => by rw [h.look s hs (hu.block _ (h.blt _ (by unfold Dq.bl; simp))), hl]; rfl)
theorem find_f_miss (D : Dq) (s : ByteArray) (hs : s.size ≤ maxLen) (w : World) (h : DOk w D) (hl : lk D.fs s = none) : Calls Try.prog 64 #[PT D.d 0, .string s] w fun e w' => e = .returned (.tuple #[.pointer none, .int .i64 6]) ∧ Below w.heap.size w w' :=
  find_miss D.d D.mb D.rb _ s w h.cel (fun u hu => by rw [h.look s hs (hu.block _ (h.blt _ (by unfold Dq.bl; simp))), hl]; rfl)
set_option maxHeartbeats 2000000 in
theorem Read_r_miss (D : Dq) (s : ByteArray) (hs : s.size ≤ maxLen) (w : World) (h : DOk w D) (hl : lk D.fs s = none) :
    Calls Try.prog 18 #[PT D.d 0, .string s] w fun e w' => e = .returned (.tuple #[.slice none 0 0, .int .i64 6]) ∧ Below w.heap.size w w' := by
  have HQ : Hid _ := find_f_miss D s hs w h hl
  clear h
  go_enter Try.func18, Try.ntmps18
  go_wp2_with (first
    | (go_at_call 64; refine Calls.mono HQ.out ?_; rintro e w3 ⟨rfl, hb3⟩)
    | fail)
  go_ret2
  exact ⟨rfl, hb3⟩
set_option maxHeartbeats 2000000 in
theorem Read_r_hit (D : Dq) (s : ByteArray) (hs : s.size ≤ maxLen) (f : Fq) (w : World) (h : DOk w D) (hl : lk D.fs s = some f) :
    Calls Try.prog 18 #[PT D.d 0, .string s] w fun e w' => ∃ v, e = .returned (.tuple #[v, .int .i64 0]) ∧ Cr w v f.N f.C w' := by
  have HQ : Hid _ := find_f_hit D s hs f w h hl
  have HF : Hid _ := h.fl f (lk_mem hl).1
  clear h
  go_enter Try.func18, Try.ntmps18
  go_wp2_with (first
    | (go_at_call 64; refine Calls.mono HQ.out ?_; rintro e w3 ⟨rfl, hb3⟩)
    | (go_at_call 65; refine Calls.mono (content_r f _ (HF.out.below hb3)) ?_; rintro e w4 ⟨v4, rfl, h4⟩; have H4 : Hid _ := h4; clear h4)
    | fail)
  go_ret2
  exact ⟨_, rfl, ⟨hb3.trans (H4.out.cw.b.mono hb3.size), own_base H4.out.cw.own hb3.size⟩, H4.out.rm⟩
/-- Read of any disk, the room behind what is told bytes too. -/
theorem read_r {w0 u : World} {d : Nat} {A : Ad} {L : List Nat} (h : Da w0 d A L u) (s : ByteArray) (hs : s.size ≤ 281474976710656) :
    Calls Try.prog 18 #[PT d 0, .string s] u fun e u' => match A.lk s with
      | some f => ∃ v P, e = .returned (.tuple #[v, .int .i64 0]) ∧ Cr u v f.cn.length P u' ∧ bs f.cn.length P = f.cn
      | none => e = .returned (.tuple #[.slice none 0 0, .int .i64 6]) ∧ Below u.heap.size u u' := by
  obtain ⟨D, h1, rfl, rfl, h4⟩ := h
  have hms : s.size ≤ maxLen := Nat.le_trans hs (by decide)
  rw [Dq.lk_ab]
  cases hl : lk D.fs s with
  | none => exact Read_r_miss D s hms u h1.dk hl
  | some f =>
    have hF := h1.dk.fl f (lk_mem hl).1
    refine (Read_r_hit D s hms f u h1.dk hl).mono fun e u' hh => ?_
    obtain ⟨v, e1, e2⟩ := hh
    have hc : bs f.N f.C = f.ab.cn := Fq.cn_ab hF
    have hn : f.ab.cn.length = f.N := by rw [← hc, bs_len]
    show ∃ v P, _ ∧ Cr u v f.ab.cn.length P u' ∧ bs f.ab.cn.length P = f.ab.cn
    rw [hn]
    exact ⟨v, f.C, e1, e2, hc⟩
end Wi
end Rg
end Go.Proofs.Ytidicdlfjdlpnaa
end
section
namespace Go.Proofs.Ytidicdlfjdlpnaa
open Go.RowKit
namespace Rg
namespace Wi
set_option maxRecDepth 100000
/-- Both disks beside each other; E: blocks beside both that no call touches. -/
structure Dd (w0 : World) (d i : Nat) (A : Ad) (X : Dx) (E : List Nat) (u : World) : Prop where
  da : Da w0 d A (X.bl ++ E) u
  dx : Dxo w0 X u
  rl : Rl A X.rd
  ok : X.rd.Ok i
  n : X.n ≤ 4096
  e1 : ∀ x ∈ E, x ∉ X.bl
  e2 : ∀ x ∈ E, x < u.heap.size
section
variable {w0 u u' : World} {d i : Nat} {A A' : Ad} {X : Dx} {E : List Nat}
theorem Dd.step (h : Dd w0 d i A X E u) (hb : Below u.heap.size u u') : Dd w0 d i A X E u' := ⟨h.da.step hb, h.dx.below hb, h.rl, h.ok, h.n, h.e1, fun x hx => Nat.lt_of_lt_of_le (h.e2 x hx) hb.size⟩
theorem Dd.k (h : Dd w0 d i A X E u) : A.k ≤ i := by rw [h.rl.k]; exact h.ok.k
theorem Dd.ol (h : Dd w0 d i A X E u) : ∀ f ∈ A.fs, f.ops.length ≤ i := fun f hf => by
  obtain ⟨g, hg, rfl⟩ := List.mem_map.1 (h.rl.fs.mem_iff.1 hf)
  rw [g.len_ab]
  exact h.ok.ol g hg
/-- Blocks beside both disks come in. -/
theorem Dd.more {M : List Nat} (h : Dd w0 d i A X E u) (hb : Below u.heap.size u u') (hM : ∀ x ∈ M, u.heap.size ≤ x ∧ x < u'.heap.size) : Dd w0 d i A X (M ++ E) u' := by
  have h1 := h.da.add hb hM
  refine ⟨h1.sub fun x hx => ?_, h.dx.below hb, h.rl, h.ok, h.n, fun x hx e => ?_, fun x hx => ?_⟩
  · rcases List.mem_append.1 hx with e | e
    · exact List.mem_append_right _ (List.mem_append_left _ e)
    · rcases List.mem_append.1 e with e | e
      · exact List.mem_append_left _ e
      · exact List.mem_append_right _ (List.mem_append_right _ e)
  · rcases List.mem_append.1 hx with e3 | e3
    · exact absurd (h.dx.lt x e) (Nat.not_lt.2 (hM x e3).1)
    · exact h.e1 x e3 e
  · rcases List.mem_append.1 hx with e3 | e3
    · exact (hM x e3).2
    · exact Nat.lt_of_lt_of_le (h.e2 x e3) hb.size
theorem Dd.less {M : List Nat} (h : Dd w0 d i A X E u) (hM : ∀ x ∈ M, x ∈ E) : Dd w0 d i A X M u :=
  ⟨h.da.sub fun x hx => (List.mem_append.1 hx).elim (List.mem_append_left _) fun e => List.mem_append_right _ (hM x e), h.dx, h.rl, h.ok, h.n, fun x hx => h.e1 x (hM x hx), fun x hx => h.e2 x (hM x hx)⟩
/-- Blocks beside both are written. -/
theorem Dd.chg {M : List Nat} (h : Dd w0 d i A X E u) (hc : Chg M u u') (hM : ∀ x ∈ M, x ∈ E) (hlo : ∀ x ∈ M, w0.heap.size ≤ x) : Dd w0 d i A X E u' :=
  ⟨h.da.chg hc (fun x hx => List.mem_append_right _ (hM x hx)) hlo, h.dx.kx ⟨hc.size, fun x hx => hc.block x (h.dx.lt x hx) fun e => h.e1 x (hM x e) hx⟩, h.rl, h.ok, h.n, h.e1, fun x hx => Nat.lt_of_lt_of_le (h.e2 x hx) hc.size⟩
/-- The program's call, then the document's. -/
theorem Dd.both {R' : Rdk} {u1 u2 : World} (h : Dd w0 d i A X E u) (h1 : Da w0 d A' (X.bl ++ E) u1) (hk : Kx (X.bl ++ E) u u1) (h2 : Dst w0 u1 X R' u2) (hr : Rl A' R') (ho : R'.Ok (i + 1)) : ∃ X', X'.m = X.m ∧ X'.n = X.n ∧ Dd w0 d (i + 1) A' X' E u2 ∧ Kx E u u2  ∧ X'.rd = R' := by
  obtain ⟨X', rfl, hm, hn, hx, hc, hb⟩ := h2
  have hd := h.dx.kx (hk.sub fun x hx => List.mem_append_left _ hx)
  have he : ∀ x ∈ E, x < u1.heap.size := fun x hx => Nat.lt_of_lt_of_le (h.e2 x hx) hk.1
  have hke : Kx E u1 u2 := ⟨hc.size, fun x hx => hc.block x (he x hx) (h.e1 x hx)⟩
  refine ⟨X', hm, hn, ⟨?_, hx, hr, ho, by rw [hn]; exact h.n, fun x hxE e => ?_, fun x hx => Nat.lt_of_lt_of_le (he x hx) hc.size⟩, (hk.sub fun x hx => List.mem_append_right _ hx).trans hke, rfl⟩
  · have hs : Da w0 d A' (X.bl ++ E) u2 := h1.chg hc (fun x hx => List.mem_append_left _ hx) hd.lo
    obtain ⟨D, q1, q2, q3, q4⟩ := h1
    refine ⟨D, ⟨q1.b.trans (hc.toBelow hd.lo q1.b.size), q1.dk.chg hc fun x hx => (q4 x (List.mem_append_left _ hx)).2, q1.lo⟩, q2, q3, fun x hxx => ?_⟩
    rcases List.mem_append.1 hxx with e | e
    · refine ⟨hx.lt x e, fun hm2 => ?_⟩
      rcases hb x e with e3 | e3
      · exact (q4 x (List.mem_append_left _ e3)).2 hm2
      · exact absurd (q1.dk.blt x hm2) (Nat.not_lt.2 e3)
    · exact ⟨Nat.lt_of_lt_of_le (he x e) hc.size, (q4 x (List.mem_append_right _ e)).2⟩
  · rcases hb x e with e3 | e3
    · exact h.e1 x hxE e3
    · exact absurd (he x hxE) (Nat.not_lt.2 e3)
end
end Wi
end Rg
end Go.Proofs.Ytidicdlfjdlpnaa
end
section
namespace Go.Proofs.Ytidicdlfjdlpnaa
open Go.RowKit
namespace Rg
namespace Wi
set_option maxRecDepth 100000
/-- The names that the program tells are the document's, in their order. -/
theorem names_same {A : Ad} {R : Rdk} (h : Rl A R) {ss : List (List UInt8)} (hp : ss.Perm (A.fs.map fun f => f.nm.data.toList)) : ss.mergeSort (fun x y => decide (x ≤ y)) = R.fs.map fun f => f.nm.data.toList := by
  have h1 : (ss.mergeSort (fun x y => decide (x ≤ y))).Perm (R.fs.map fun f => f.nm.data.toList) := by
    refine (List.mergeSort_perm _ _).trans (hp.trans ?_)
    refine (h.fs.map _).trans (List.Perm.of_eq ?_)
    rw [List.map_map]
    rfl
  have h2 : (ss.mergeSort (fun x y => decide (x ≤ y))).Pairwise fun a b => decide (a ≤ b) = true := by
    refine List.pairwise_mergeSort (fun a b c x y => decide_eq_true (List.le_trans (of_decide_eq_true (p := a ≤ b) x) (of_decide_eq_true (p := b ≤ c) y))) (fun a b => ?_) ss
    rcases List.le_total a b with x | x
    · simp [x]
    · simp [x]
  have h3 : (R.fs.map fun f => f.nm.data.toList).Pairwise fun a b => decide (a ≤ b) = true := by
    rw [List.pairwise_map]
    refine h.st.imp fun {a b} hab => ?_
    unfold blt at hab
    exact decide_eq_true (List.le_of_lt (of_decide_eq_true hab))
  exact List.Perm.eq_of_pairwise (le := fun (a b : List UInt8) => decide (a ≤ b) = true) (fun a b _ _ x y => List.le_antisymm (of_decide_eq_true (p := a ≤ b) x) (of_decide_eq_true (p := b ≤ a) y)) h2 h3 h1
end Wi
end Rg
end Go.Proofs.Ytidicdlfjdlpnaa
end
section
namespace Go.Proofs.Ytidicdlfjdlpnaa
open Go.RowKit
namespace Rg
namespace Wi
set_option maxRecDepth 100000
open Go.Shelf Go.Maps Go.Sort
attribute [local go_sem] Oper.semAt_some
/-- Texts told, or none. -/
def Gp (pre : List (List UInt8)) (c : Value) : Prop := c = .string ⟨#[]⟩ ∨ c ∈ pre.map encStr
structure Ip (w : World) (b : Nat) (pre : List (List UInt8)) (W : World) : Prop where
  ex : ∃ v, Boxed W b 51 v ∧ W.ownsRow w.heap.size 9 1 v pre.length (pre.map encStr) ∧ Rmt 9 (Gp pre) W v
  b : Below w.heap.size w W
theorem Ip.own {w : World} {b B : Nat} (hB : w.heap.size ≤ B) : OwnFrom B (Ip w b) := fun s W W' row hs hg hr => by
  obtain ⟨⟨v, h1, h2, h3⟩, hb⟩ := hs
  have hne : ∀ k cur t, W.heap[k]? = some (.cells cur t (0, 0)) → some k ≠ row := fun k cur t hk e => by
    obtain ⟨_, o, ho, hc⟩ := hr k e.symm
    rw [hk] at ho
    cases ho
    cases hc
  have hv : ∀ k, v.ownBlock = some k → W'.heap[k]? = W.heap[k]? := fun k hk => by
    obtain ⟨cur, hcur, _⟩ := h3 k hk
    exact hg.block k (Array.getElem?_eq_some_iff.1 hcur).1 (hne k cur 9 hcur)
  refine ⟨⟨v, h1.kept hg (hne b _ _ h1), own_keep h2 fun k hk => hv k (by unfold vbl at hk; simpa using hk), h3.keep fun k hk => hv k (by unfold vbl at hk; simpa using hk)⟩, hb.grown hg hb.size fun k e => Nat.le_trans hB (hr k e).1⟩
theorem wpl_appIn {F : Fence} {n : Nat} {P : Program} {w u : World} {ops : Array Oper} {rest : List Oper} {o : Oper} {a : Act} {Q : Exit → Act → World → Prop} (hgd : o.guard = none) (s x : Operand) (t : TypeId)
    (ho : o.op = .call { callee := .builtin .append, args := #[s, x], argTypes := #[t, t] }) (v y v' : Value) (hs : a.eval s = v) (hx : a.eval x = y)
    (hr : (Builtin.append_ #[t, t] o.type #[v, y]).run P w = .ok v' u) (h : wpListIn F n P ops Q rest (a.put o.dst v') u) : wpListIn F n P ops Q (o :: rest) a w :=
  wpListIn_plain hgd fun _ hK => by
    unfold Oper.wpIn
    refine ⟨fun f hf => ?_, ?_⟩
    · simp [Oper.about, ho, resolve, Target.leads, Sem.run_pure] at hf
    · rw [Oper.semAt_plain F _ _ (fun c e => by rw [ho] at e; cases e)]
      unfold execOp
      simp only [ho, resolve, invoke, builtin, Sem.run_bind, Sem.run_pure, Result.andThen_ok, List.map_toArray, List.map_cons, List.map_nil, hs, hx, hr]
      exact hK _ _ h
theorem Ip.app {w W : World} {pre : List (List UInt8)} (x : List UInt8) (h : Ip w w.heap.size pre W) (hlt : pre.length < 1000) :
    ∃ v p c w3, Boxed W w.heap.size 51 v ∧ (Builtin.append_ #[51, 51] 51 #[v, .slice (some ⟨W.heap.size, 0, none⟩) 1 1]).run Try.prog (W.alloc (.cells #[encStr x] 9)) = .ok (.slice p (pre.length + 1) c) w3 ∧ Boxed w3 w.heap.size 51 v ∧
      KeepsOthers W (w3.setCell ⟨w.heap.size, 0, none⟩ (.slice p (pre.length + 1) c)) ∧ Ip w w.heap.size (pre ++ [x]) (w3.setCell ⟨w.heap.size, 0, none⟩ (.slice p (pre.length + 1) c)) := by
  obtain ⟨⟨v, hv, hrow, hrm⟩, hb⟩ := h
  obtain ⟨i0, hi, hz0, hz1, hz2⟩ := info_str
  have hb0 : Below W.heap.size W (W.alloc (.cells #[encStr x] 9)) := (Below.refl _ W).alloc (Nat.le_refl _) _
  have hrow2 : (W.alloc (.cells #[encStr x] 9)).ownsRow w.heap.size 9 1 v pre.length (pre.map encStr) := own_keep hrow fun k hk => hb0.block k (own_lt hrow k hk)
  have hrm2 : Rmt 9 (Gp (pre ++ [x])) (W.alloc (.cells #[encStr x] 9)) v := fun g hg => by
    obtain ⟨cur, h1, h2⟩ := hrm g hg
    refine ⟨cur, (hb0.block g (Array.getElem?_eq_some_iff.1 h1).1).trans h1, fun y hy => ?_⟩
    rcases h2 y hy with e | e
    · exact .inl e
    · exact .inr (by rw [List.map_append]; exact List.mem_append_left _ e)
  obtain ⟨v', w3, hr, ho, hg, h5, h6⟩ := app_room (P := Try.prog) (G := Gp (pre ++ [x])) (W.alloc (.cells #[encStr x] 9)) w.heap.size 51 51 9 i0 (.string ⟨#[]⟩) 1 16 Try.underlying51 hi hz0 hz1 hz2 rfl (by decide) (fun y hy => .inl (by simpa [Value.cells] using hy)) v pre.length (pre.map encStr) hrow2 hrm2 ⟨W.heap.size, 0, none⟩ 1 1 [encStr x] rfl (fun j u hj => by
    rw [show (⟨W.heap.size, 0, none⟩ : Addr).add j = ⟨W.heap.size, j, none⟩ by unfold Addr.add; split <;> simp_all]
    rw [box_at]
    simpa using hj) (fun y hy => by rw [List.mem_singleton.1 hy]; rfl) (fun y hy => .inr (by rw [List.mem_singleton.1 hy]; simp)) (by unfold maxLen; omega) (by omega) (Nat.le_trans hb.size hb0.size)
  obtain ⟨p, c, rfl, _⟩ := own_slice ho
  have ha := hv.appended (tmp := .cells #[encStr x] 9) (show (51 : TypeId) ≠ 9 by decide) hrow hb.size (Nat.le_refl _) ho hg
  have hne := ha.1.not_row (show (51 : TypeId) ≠ 9 by decide) ho
  refine ⟨v, p, c, w3, hv, hr, ha.1, ha.2.2.2.1, ⟨⟨_, ha.2.1, ?_, h6.keep fun k hk => heap_setCell_other w3 ⟨w.heap.size, 0, none⟩ k _ fun e => hne ?_⟩, hb.trans ha.2.2.2.2⟩⟩
  · rw [List.length_append, List.map_append]
    exact ha.2.2.1
  · unfold vbl at hk
    rw [show k = w.heap.size from e] at hk
    exact (Option.mem_toList.1 hk).symm
set_option maxHeartbeats 2000000 in
theorem appseq_r (gf : Nat) (lb : Array Value) (hFg : Fence.wide.fn gf) (eg : ∀ args w, (callFunc gf args).run Try.prog w = .ok (.enter gf args) w) (S Sp : List (List UInt8) → Prop) (N : Nat) (hN : N ≤ 1000) (n : Nat) (hn : 3 ≤ n) (w : World) (hseq : SeqStopsK Fence.wide (n - 1) Try.prog gf lb (fun x => #[encStr x]) KeepsWalks S Sp N w) :
    CallsIn Fence.wide n Try.prog 117 #[.slice none 0 0, .func (.func gf) #[] lb] w fun e w' => ∃ (v : Value) (ss : List (List UInt8)), e = .returned v ∧ S ss ∧ w'.ownsRow w.heap.size 9 1 v ss.length (ss.map encStr) ∧ Rmt 9 (Gp ss) w' v ∧ Below w.heap.size w w' := by
  have hro : Fence.wide.round = none := rfl
  refine callsIn_of_wp_marks Try.func117 rfl trivial ?_ hro
  simp only [Try.ntmps117, List.size_toArray, List.length_cons, List.length_nil, Nat.reduceAdd, Nat.reduceSub, Array.replicate_succ, Array.replicate_zero, List.push_toArray, List.append_toArray, List.nil_append, List.cons_append]
  gi_wp2
  have hb0 : Below w.heap.size w (w.alloc (.cells #[.slice none 0 0] 51)) := (Below.refl _ w).alloc (Nat.le_refl _) _
  refine wpIn_rangeFunc_ownF hro (by omega) (gf := gf) (lb := lb) rfl hFg eg hseq KeepsWalks.trans (fun W l o o' _ hl _ hw => KeepsWalks.putObj o' hl hw) hb0 (fun _ => rfl)
    (Ip w w.heap.size) (fun _ _ _ => False) (Ip.own hb0.size) (fun _ _ _ _ _ h _ _ => h)
    ⟨⟨_, Boxed.new w 51 _, World.ownsRow_nil _ _ _ _, Rmt.nil _ _ _⟩, hb0⟩
    (fun x => { tmps := #[.slice none 0 0, .func (.func gf) #[] lb, .pointer (some ⟨w.heap.size, 0, none⟩), undef, .slice none 0 0, encStr x, .func (.func gf) #[] lb, encStr x, undef, undef, undef, undef, undef], defers := [] }) ?assign ?body ?done ?stop
  case assign =>
    intro l x W K' hK'
    gi_wp2
    exact hK'
  case body =>
    rintro l pre x W hI hlt
    obtain ⟨v, p, c, w3, hv, hr, h3, hko, hI2⟩ := hI.app x (by omega)
    have c0 := hv.cell
    have c3 := h3.cell
    have f3 := h3.frozen
    have HR : Hid _ := hr
    have HK : Hid _ := hko
    have HI : Hid _ := hI2
    clear hr hko hI2 hI hv h3
    gi_wp2_with (first
      | (gi_at_builtin; refine wpl_appIn rfl _ _ 51 rfl v (.slice (some ⟨W.heap.size, 0, none⟩) 1 1) (.slice p (pre.length + 1) c) rfl rfl HR.out ?_)
      | fail)
    exact ⟨HK.out, HK.out.walks, HI.out⟩
  case done =>
    rintro D xs W hD hS ⟨⟨v, hv, hrow, hrm⟩, hb⟩ hKd
    have c0 := hv.cell
    obtain ⟨p, c, rfl, hle⟩ := own_slice hrow
    gi_wp2
    refine ⟨by simp, .inl ⟨_, _, rfl, run_takeDeferred hKd, ?_⟩⟩
    refine ⟨_, results_tmp rfl _ _ _, _, xs, rfl, hS, ?_⟩
    have hDb : w.heap.size < D := Nat.lt_of_lt_of_le (by simp) hD
    obtain ⟨⟨v', hv', hrow', hrm'⟩, hb'⟩ := (Ip.own (b := w.heap.size) hb0.size).putObj (.deferred none) ⟨⟨_, hv, hrow, hrm⟩, hb⟩ hD hKd rfl
    have e1 : (W.putObj D (.deferred none)).heap[w.heap.size]? = W.heap[w.heap.size]? := World.putObj_heap_other (by omega)
    have e2 : v' = .slice p xs.length c := by
      have h1 : W.heap[w.heap.size]? = some (.cells #[v'] 51 (0, 0)) := e1.symm.trans hv'
      rw [show W.heap[w.heap.size]? = _ from hv] at h1
      injection h1 with h1
      injection h1 with h1
      simpa using h1.symm
    subst e2
    exact ⟨hrow', hrm', hb'⟩
  case stop =>
    rintro D c pre W _ _ hf _
    exact hf.elim
end Wi
end Rg
end Go.Proofs.Ytidicdlfjdlpnaa
end
section
namespace Go.Proofs.Ytidicdlfjdlpnaa
open Go.RowKit
namespace Rg
namespace Wi
set_option maxRecDepth 100000
open Go.Shelf Go.Maps Go.Sort
attribute [local go_sem] Oper.semAt_some
theorem collect_r (gf : Nat) (lb : Array Value) (hFg : Fence.wide.fn gf) (eg : ∀ args w, (callFunc gf args).run Try.prog w = .ok (.enter gf args) w) (S Sp : List (List UInt8) → Prop) (N : Nat) (hN : N ≤ 1000) (w : World) (hseq : SeqStopsK Fence.wide 2 Try.prog gf lb (fun x => #[encStr x]) KeepsWalks S Sp N w) :
    CallsIn Fence.wide 4 Try.prog 106 #[.func (.func gf) #[] lb] w fun e w' => ∃ (v : Value) (ss : List (List UInt8)), e = .returned v ∧ S ss ∧ w'.ownsRow w.heap.size 9 1 v ss.length (ss.map encStr) ∧ Rmt 9 (Gp ss) w' v ∧ Below w.heap.size w w' := by
  have hro : Fence.wide.round = none := rfl
  refine callsIn_of_wp Try.func106 rfl trivial ?_ hro
  simp only [Try.ntmps106, List.size_toArray, List.length_cons, List.length_nil, Nat.reduceAdd, Nat.reduceSub, Array.replicate_succ, Array.replicate_zero, List.push_toArray, List.append_toArray, List.nil_append, List.cons_append]
  gi_wp2_with (first
    | (gi_at_call 117; refine (appseq_r gf lb hFg eg S Sp N hN 3 (by decide) _ hseq).mono ?_; rintro e w2 ⟨v, ss, rfl, hS, hrow, hrm, hb⟩)
    | (refine ⟨trivial, ?_⟩; gi_at_call 117; refine (appseq_r gf lb hFg eg S Sp N hN 3 (by decide) _ hseq).mono ?_; rintro e w2 ⟨v, ss, rfl, hS, hrow, hrm, hb⟩))
  go_ret
  exact ⟨v, ss, rfl, hS, hrow, hrm, hb⟩
theorem sorted_r (gf : Nat) (lb : Array Value) (hFg : Fence.wide.fn gf) (eg : ∀ args w, (callFunc gf args).run Try.prog w = .ok (.enter gf args) w) (S Sp : List (List UInt8) → Prop) (N : Nat) (hN : N ≤ 1000) (hSN : ∀ ss, S ss → ss.length ≤ 1000) (w : World) (hseq : SeqStopsK Fence.wide 2 Try.prog gf lb (fun x => #[encStr x]) KeepsWalks S Sp N w) :
    CallsIn Fence.wide 5 Try.prog 79 #[.func (.func gf) #[] lb] w fun e w' => ∃ (v : Value) (ss : List (List UInt8)), e = .returned v ∧ S ss ∧ w'.ownsRow w.heap.size 9 1 v ss.length ((ss.mergeSort (fun x y => decide (x ≤ y))).map encStr) ∧ Rmt 9 (Gp ss) w' v ∧ Below w.heap.size w w' := by
  have hro : Fence.wide.round = none := rfl
  refine callsIn_of_wp Try.func79 rfl trivial ?_ hro
  simp only [Try.ntmps79, List.size_toArray, List.length_cons, List.length_nil, Nat.reduceAdd, Nat.reduceSub, Array.replicate_succ, Array.replicate_zero, List.push_toArray, List.append_toArray, List.nil_append, List.cons_append]
  gi_wp2_with (first
    | (gi_at_call 106; refine (collect_r gf lb hFg eg S Sp N hN _ hseq).mono ?_; rintro e W ⟨v, ss, rfl, hS, hrow, hrm, hb⟩)
    | (refine ⟨trivial, ?_⟩; gi_at_call 106; refine (collect_r gf lb hFg eg S Sp N hN _ hseq).mono ?_; rintro e W ⟨v, ss, rfl, hS, hrow, hrm, hb⟩))
  have hl := hSN ss hS
  rcases hrow.2 with ⟨rfl, hz⟩ | ⟨gb, cap, cur, rfl, hbase, hgb, r1, r2, r3, r4⟩
  · obtain rfl : ss = [] := List.eq_nil_of_length_eq_zero hz
    gi_wp2_with (first
      | (gi_at_call 107; refine ((sorts79 4).2 none 0 W).mono ?_; rintro e w' ⟨rfl, rfl⟩)
      | (refine ⟨trivial, ?_⟩; gi_at_call 107; refine ((sorts79 4).2 none 0 W).mono ?_; rintro e w' ⟨rfl, rfl⟩))
    go_ret
    exact ⟨_, [], rfl, hS, by simpa using hrow, hrm, hb⟩
  · have hgl : gb < W.heap.size := (Array.getElem?_eq_some_iff.1 hgb).1
    have cS := (sorts79 4).1 gb 0 cap ss W (holds_of_block hgb (by simpa using r4)) hgl (by omega)
    gi_wp2_with (first
      | (gi_at_call 107; refine cS.mono ?_; rintro e w' ⟨rfl, nn, os, rfl⟩)
      | (refine ⟨trivial, ?_⟩; gi_at_call 107; refine cS.mono ?_; rintro e w' ⟨rfl, nn, os, rfl⟩))
    go_ret
    refine ⟨_, ss, rfl, hS, ownsRow_sorted (by simp) hbase hgb r1 r2 r3, fun g hg => ?_, hb.grown (grownBy_sorted _) hb.size (fun j hj => by cases hj; exact hbase)⟩
    obtain rfl : gb = g := by simpa [Value.ownBlock] using hg
    refine ⟨_, heap_sorted _ hgb, fun y hy => ?_⟩
    obtain ⟨cur2, hcur2, hG⟩ := hrm gb rfl
    rw [hgb] at hcur2
    injection hcur2 with hcur2
    injection hcur2 with hcur2
    subst hcur2
    obtain ⟨k, hk⟩ := List.getElem?_of_mem hy
    rw [Array.getElem?_toList] at hk
    unfold putCells at hk
    rw [Array.getElem?_mapIdx] at hk
    obtain ⟨x, hx, rfl⟩ := Option.map_eq_some_iff.1 hk
    split
    · rename_i hin
      have hin2 : k < (ss.mergeSort fun x y => decide (x ≤ y)).length := by simpa using hin.2
      refine .inr (List.mem_map_of_mem ?_)
      rw [Nat.sub_zero, getElem!_pos _ k (by simpa using hin2), List.getElem_toArray]
      exact List.mem_mergeSort.1 (List.getElem_mem hin2)
    · exact hG x (by rw [Array.mem_toList_iff]; exact Array.mem_of_getElem? hx)
end Wi
end Rg
end Go.Proofs.Ytidicdlfjdlpnaa
end
section
namespace Go.Proofs.Ytidicdlfjdlpnaa
open Go.RowKit
namespace Rg
namespace Wi
set_option maxRecDepth 100000
open Go.Shelf Go.Maps Go.Sort
attribute [local go_sem] Oper.semAt_some
theorem keys_r {H : Type} (b nn : Nat) (D0 : DataW H) (R : Value → Option (DataW H × List MemPlace)) (w : World) (hown : w.ownsMap Try.prog 9 R b nn D0) :
    SeqStopsK Fence.wide 2 Try.prog 108 #[.pointer (some ⟨w.heap.size, 0, none⟩)] (fun x => #[encStr x]) KeepsWalks (fun ss => ss.Perm (strKeys D0) ∧ ∀ x, x ∈ ss ↔ has D0 (.string x) = true) (fun pre => pre.Nodup ∧ ∀ x ∈ pre, has D0 (.string x) = true) (Maps.size D0) (w.alloc (.cells #[.map (some b)] 39)) := by
  have hbl := hown.lt
  exact AnyZ.keys_stops (ρ := Try.keys80_ren) { Try.keys80 with } Fence.wide 2 trivial rfl (by omega) w.heap.size b nn D0 _ (by simp) (by simp) (by
    obtain ⟨es, clock, hb, Ft, hs, hD⟩ := hown
    exact ⟨es, clock, (Below.heap_alloc _ _ b hbl).trans hb, Ft, hs, hD⟩)
set_option maxHeartbeats 2000000 in
theorem Names_r (D : Dq) (w : World) (h : DOk w D) : Calls Try.prog 26 #[PT D.d 0] w fun e w' => ∃ (v : Value) (ss : List (List UInt8)), e = .returned v ∧ ss.Perm (D.fs.map fun f => f.nm.data.toList) ∧ w'.ownsRow w.heap.size 9 1 v ss.length ((ss.mergeSort (fun x y => decide (x ≤ y))).map encStr) ∧ Rmt 9 (Gp ss) w' v ∧ Below w.heap.size w w' := by
  obtain ⟨X, x1, x2, x3, x4⟩ := h.mp
  have hn := h.n64
  have hpp := names_perm x1 x3 h.un
  have hpre : ∀ u, Below w.heap.size w u → u.ownsMap Try.prog 9 RF D.mb D.fs.length X ∧ u.cell? ⟨D.d, 0, none⟩ = some (.map (some D.mb)) := fun u hb => ⟨ownMap_keep x1 (hb.block _ x1.lt), (((h.below hb).cel.blk _ (List.mem_cons_self ..)).2 0 _ rfl).1⟩
  have hp : Hid _ := hpp
  have HP : Hid _ := hpre
  have hcel := h.cel
  have hX64 : Hid ((strKeys X).length ≤ 64) := by show _ ≤ _; rw [hpp.length_eq, List.length_map]; exact h.n64
  have hXs : Hid (Maps.size X ≤ 1000) := by show _ ≤ _; rw [x4]; omega
  clear h hpp hpre x1 x2 x3 x4
  refine (callsIn_wide (n := 7)).1 ?_
  have hro : Fence.wide.round = none := rfl
  refine callsIn_of_wp Try.func26 rfl trivial ?_ hro
  simp only [Try.ntmps26, List.size_toArray, List.length_cons, List.length_nil, Nat.reduceAdd, Nat.reduceSub, Array.replicate_succ, Array.replicate_zero, List.push_toArray, List.append_toArray, List.nil_append, List.cons_append]
  gi_wp2_with (first
    | (gi_at_call 75; refine (callsIn_wide.2 (made_ok D.d D.mb D.rb _ w hcel)).mono ?_; rintro e w1 ⟨rfl, hb1⟩; have HX1 : Hid (w1.ownsMap Try.prog 9 RF D.mb D.fs.length X) := (HP.out w1 hb1).1; have cD : w1.cell? ⟨D.d, 0, none⟩ = some (.map (some D.mb)) := (HP.out w1 hb1).2)
    | (refine ⟨trivial, ?_⟩; gi_at_call 75; refine (callsIn_wide.2 (made_ok D.d D.mb D.rb _ w hcel)).mono ?_; rintro e w1 ⟨rfl, hb1⟩; have HX1 : Hid (w1.ownsMap Try.prog 9 RF D.mb D.fs.length X) := (HP.out w1 hb1).1; have cD : w1.cell? ⟨D.d, 0, none⟩ = some (.map (some D.mb)) := (HP.out w1 hb1).2)
    | (gi_at_call 80; refine (callsIn_wide.2 (callsIn_wide.1 (maps_Keys_80 (some D.mb) w1))).mono ?_; rintro e w2 ⟨rfl, rfl⟩)
    | (refine ⟨trivial, ?_⟩; gi_at_call 80; refine (callsIn_wide.2 (callsIn_wide.1 (maps_Keys_80 (some D.mb) w1))).mono ?_; rintro e w2 ⟨rfl, rfl⟩)
    | (gi_at_call 79; refine (callsIn_wide.2 (callsIn_wide.1 (sorted_r 108 _ trivial (enters_of Try.func108 (by kernel_rfl) rfl) _ _ (Maps.size X) hXs.out (fun ss hs => by rw [hs.1.length_eq]; have := hX64.out; omega) _ (keys_r D.mb D.fs.length X RF w1 HX1.out)))).mono ?_; rintro e w3 ⟨v, ss, rfl, hS, hrow, hrm, hb3⟩)
    | (refine ⟨trivial, ?_⟩; gi_at_call 79; refine (callsIn_wide.2 (callsIn_wide.1 (sorted_r 108 _ trivial (enters_of Try.func108 (by kernel_rfl) rfl) _ _ (Maps.size X) hXs.out (fun ss hs => by rw [hs.1.length_eq]; have := hX64.out; omega) _ (keys_r D.mb D.fs.length X RF w1 HX1.out)))).mono ?_; rintro e w3 ⟨v, ss, rfl, hS, hrow, hrm, hb3⟩))
  have hb2 := (Below.refl _ w1).alloc (Nat.le_refl _) (.cells #[.map (some D.mb)] 39)
  go_ret
  exact ⟨v, ss, rfl, hS.1.trans hp.out, own_base hrow (Nat.le_trans hb1.size hb2.size), hrm, hb1.trans ((hb2.trans (hb3.mono hb2.size)).mono hb1.size)⟩
end Wi
end Rg
end Go.Proofs.Ytidicdlfjdlpnaa
end
section
namespace Go.Proofs.Ytidicdlfjdlpnaa
open Go.RowKit
namespace Rg
namespace Wi
set_option maxRecDepth 100000
/-- All names are short. -/
def Rn (R : Rdk) : Prop := ∀ f ∈ R.fs, f.nm.size ≤ 64
theorem Rn.put {R : Rdk} {k : Nat} {s : ByteArray} {f : Rf} (h : Rn R) (hs : s.size ≤ 64) (hf : f.nm = s) : Rn ⟨rpu R.fs s f, k, R.rf⟩ := fun g hg => by
  obtain ⟨a, ha, rfl⟩ := List.mem_map.1 (show g ∈ R.fs.map fun x => if x.nm = s then f else x from hg)
  split
  · rw [hf]; exact hs
  · exact h a ha
theorem Rn.lk {R : Rdk} {s : ByteArray} {f : Rf} (h : Rn R) (e : R.lk s = some f) : s.size ≤ 64 := by
  have hm := Rdk.mem e
  rw [← hm.2]
  exact h f hm.1
theorem nmd_size {s : ByteArray} (h : nmd s = true) : s.size ≤ 64 := (of_decide_eq_true h).2.1
section
variable {R : Rdk} (h : Rn R)
include h
theorem Rn.app (s : ByteArray) (b : List Nat) : Rn (R.app s b).2 := by
  unfold Rdk.app
  split
  · exact h
  · split
    · exact h
    · rename_i hn
      have hs := nmd_size (s := s) (by simpa using hn)
      split
      · rename_i f e
        split
        · exact h
        · exact h.put hs (Rdk.mem e).2
      · split
        · exact h
        · split
          · exact h
          · intro g hg
            rcases List.mem_cons.1 ((lay_perm Rf.nm _ R.fs).mem_iff.1 hg) with e | e
            · rw [e]; exact hs
            · exact h g e
theorem Rn.cut (s : ByteArray) (c : Int) : Rn (R.cut s c).2 := by
  unfold Rdk.cut
  split
  · exact h
  · split
    · exact h
    · rename_i f e
      split
      · exact h.put (h.lk e) (Rdk.mem e).2
      · exact h
theorem Rn.syn (s : ByteArray) : Rn (R.syn s).2 := by
  unfold Rdk.syn
  split
  · exact h
  · split
    · exact h
    · rename_i f e
      exact h.put (h.lk e) (Rdk.mem e).2
theorem Rn.rem (s : ByteArray) : Rn (R.rem s).2 := by
  unfold Rdk.rem
  split
  · exact h
  · split
    · exact h
    · exact fun g hg => h g (List.mem_filter.1 hg).1
theorem Rn.ren (s t : ByteArray) : Rn (R.ren s t).2 := by
  unfold Rdk.ren
  split
  · exact h
  · split
    · exact h
    · rename_i hn
      have ht := nmd_size (s := t) (by simpa using hn)
      split
      · exact h
      · split
        · exact h
        · split
          · exact h
          · intro g hg
            rcases List.mem_cons.1 ((lay_perm Rf.nm _ _).mem_iff.1 hg) with e | e
            · rw [e]; exact ht
            · exact h g (List.mem_filter.1 (List.mem_filter.1 e).1).1
theorem Rn.spo (s : ByteArray) (c : Int) : Rn (R.spo s c).2 := by
  unfold Rdk.spo
  split
  · exact h
  · rename_i f e
    split
    · exact h
    · split
      · exact h
      · exact h.put (h.lk e) (Rdk.mem e).2
theorem Rn.cra (K : ByteArray → Int × Int) : Rn (R.cra K) := fun g hg => by
  obtain ⟨a, ha, rfl⟩ := List.mem_map.1 hg
  exact h a (List.mem_filter.1 ha).1
end
theorem Rdk.Ok.cra {R : Rdk} {i : Nat} (h : R.Ok i) (K : ByteArray → Int × Int) (hk : (R.cra K).fs.Pairwise (fun a b => blt a.nm b.nm = true)) (hf : ∀ f ∈ (R.cra K).fs, f.fit) : (R.cra K).Ok (i + 1) := by
  refine ⟨by have := h.k; (show R.k ≤ i + 1); omega, ?_, hk, hf, fun g hg => ?_, fun g hg o ho => ?_⟩
  · show ((R.fs.filter _).map _).length ≤ 64
    rw [List.length_map]
    exact Nat.le_trans (List.length_filter_le _ _) h.n
  · obtain ⟨a, ha, rfl⟩ := List.mem_map.1 hg
    exact Nat.zero_le _
  · obtain ⟨a, ha, rfl⟩ := List.mem_map.1 hg
    cases ho
/-- The room of the names. -/
theorem gp_gs {pre : List (List UInt8)} (h : ∀ x ∈ pre, x.length ≤ 64) : ∀ c, Gp pre c → GS 0 c := fun c hc => by
  rcases hc with e | e
  · exact ⟨⟨#[]⟩, e, by decide⟩
  · obtain ⟨x, hx, rfl⟩ := List.mem_map.1 e
    exact ⟨_, rfl, by have := h x hx; show x.toArray.size ≤ _; simp; omega⟩
end Wi
end Rg
end Go.Proofs.Ytidicdlfjdlpnaa
end
section
namespace Go.Proofs.Ytidicdlfjdlpnaa
open Go.RowKit
namespace Rg
namespace Wi
set_option maxRecDepth 100000
open Go.Shelf Go.Maps Go.Sort
theorem enc_nm (s : ByteArray) : encStr s.data.toList = .string s := by unfold encStr; rfl
/-- Names beside the document's disk. -/
theorem names_dd {w0 u : World} {d i : Nat} {A : Ad} {X : Dx} {E : List Nat} (h : Dd w0 d i A X E u) (hr : Rn X.rd) :
    Calls Try.prog 26 #[PT d 0] u fun e u' => ∃ v, e = .returned v ∧ u'.ownsRow u.heap.size 9 1 v X.fs.length (X.fs.map fun f => .string f.nm) ∧ Rmt 9 (GS 0) u' v ∧ Below u.heap.size u u' := by
  obtain ⟨D, h1, rfl, hA, -⟩ := h.da
  refine (Names_r D u h1.dk).mono fun e u' hh => ?_
  obtain ⟨v, ss, rfl, hp, hrow, hrm, hb⟩ := hh
  have hp2 : ss.Perm (A.fs.map fun f => f.nm.data.toList) := by
    rw [← hA]
    refine hp.trans (List.Perm.of_eq ?_)
    unfold Dq.ab
    rw [List.map_map]
    rfl
  have hs := names_same h.rl hp2
  have hl : ss.length = X.fs.length := by rw [hp2.length_eq, List.length_map, h.rl.len]; simp [Dx.rd]
  rw [hs, hl] at hrow
  have e1 : (X.rd.fs.map fun f => f.nm.data.toList).map encStr = X.fs.map fun f => Value.string f.nm := by
    show ((X.fs.map Mf.rf).map _).map _ = _
    rw [List.map_map, List.map_map]
    exact List.map_congr_left fun f _ => enc_nm f.nm
  rw [e1] at hrow
  refine ⟨v, rfl, hrow, fun g hg => ?_, hb⟩
  obtain ⟨cur, h3, h4⟩ := hrm g hg
  refine ⟨cur, h3, fun x hx => gp_gs (fun y hy => ?_) x (h4 x hx)⟩
  have hm : y ∈ ss.mergeSort (fun x y => decide (x ≤ y)) := List.mem_mergeSort.2 hy
  rw [hs] at hm
  obtain ⟨f, hf, rfl⟩ := List.mem_map.1 hm
  have := hr f hf
  simpa using this
end Wi
end Rg
end Go.Proofs.Ytidicdlfjdlpnaa
end
section
namespace Go.Proofs.Ytidicdlfjdlpnaa
open Go.RowKit
namespace Rg
namespace Wi
set_option maxRecDepth 100000
set_option maxHeartbeats 2000000 in
theorem over_bnil (w : World) : Calls Try.prog 53 #[.slice none 0 0] w fun e w' => e = .returned (.tuple #[]) ∧ Chg [] w w' := by
  go_enter Try.func53, Try.ntmps53
  go_wp2
  go_loopw [3] (fun v wr => v = .int .i64 0 ∧ Hid (Chg [] w wr))
    (fun _ _ => 0)
  case atStart => exact ⟨rfl, Chg.refl _ _⟩
  case round =>
    obtain ⟨rfl, hC⟩ := hrel
    go_wp2
    go_end0
    exact ⟨rfl, hC.out⟩
set_option maxHeartbeats 2000000 in
theorem over_tnil (w : World) : Calls Try.prog 63 #[.slice none 0 0] w fun e w' => e = .returned (.tuple #[]) ∧ Chg [] w w' := by
  go_enter Try.func63, Try.ntmps63
  go_wp2
  go_loopw [3] (fun v wr => v = .int .i64 0 ∧ Hid (Chg [] w wr))
    (fun _ _ => 0)
  case atStart => exact ⟨rfl, Chg.refl _ _⟩
  case round =>
    obtain ⟨rfl, hC⟩ := hrel
    go_wp2
    go_end0
    exact ⟨rfl, hC.out⟩
/-- A row of one's own is written over. -/
theorem over_row8 {u : World} {B n : Nat} {v : Value} {xs : List Value} (h : u.ownsRow B 5 1 v n xs) (hr : Rm8 u v) : Calls Try.prog 53 #[v] u fun e u' => e = .returned (.tuple #[]) ∧ Chg (vbl v) u u' := by
  rcases h.2 with ⟨h1, h2⟩ | ⟨g, cap, cur, h1, h2, h3, h4, h5, h6, h7⟩
  · subst h1
    exact over_bnil u
  · subst h1
    obtain ⟨cur2, k1, k2⟩ := hr g rfl
    have e : cur2 = cur := by rw [h3] at k1; injection k1 with k1; injection k1 with k1; exact k1.symm
    subst e
    exact over_bytes h5 h4 u ⟨cur2, k1, by omega, k2⟩
theorem over_rowS {u : World} {B n : Nat} {v : Value} {xs : List Value} (h : u.ownsRow B 9 1 v n xs) (hr : Rmt 9 (GS 0) u v) : Calls Try.prog 63 #[v] u fun e u' => e = .returned (.tuple #[]) ∧ Chg (vbl v) u u' := by
  rcases h.2 with ⟨h1, h2⟩ | ⟨g, cap, cur, h1, h2, h3, h4, h5, h6, h7⟩
  · subst h1
    exact over_tnil u
  · subst h1
    obtain ⟨cur2, k1, k2⟩ := hr g rfl
    have e : cur2 = cur := by rw [h3] at k1; injection k1 with k1; injection k1 with k1; exact k1.symm
    subst e
    exact over_texts h5 h4 u ⟨cur2, k1, by omega, k2⟩
/-- Two rows of the same texts. -/
theorem same_rowS {u : World} {B B' n n' : Nat} {v v' : Value} {l : List ByteArray} (h : u.ownsRow B 9 1 v n (l.map .string)) (h' : u.ownsRow B' 9 1 v' n' (l.map .string)) (hn : l.length ≤ 100000) :
    Calls Try.prog 30 #[v, v'] u fun e u' => e = .returned (.bool true) ∧ Below u.heap.size u u' := by
  have el : n = l.length := by have := h.1; simpa using this.symm
  have el' : n' = l.length := by have := h'.1; simpa using this.symm
  subst el el'
  have key : ∀ {B : Nat} {v : Value}, u.ownsRow B 9 1 v l.length (l.map .string) → ∃ p c g, v = .slice p l.length c ∧ (0 < l.length → p = some ⟨g, 0, none⟩) ∧ (0 < l.length → g < u.heap.size) ∧ ∀ i, i < l.length → u.cell? ⟨g, 0 + i, none⟩ = some (.string (l.getD i ⟨#[]⟩)) := fun {B v} h => by
    rcases h.2 with ⟨h1, h2⟩ | ⟨g, cap, cur, h1, h2, h3, h4, h5, h6, h7⟩
    · refine ⟨none, 0, 0, by rw [h1, h2], fun e => by omega, fun e => by omega, fun i hi => by omega⟩
    · subst h1
      refine ⟨_, cap, g, rfl, fun _ => rfl, fun _ => (Array.getElem?_eq_some_iff.1 h3).1, fun i hi => ?_⟩
      rw [Nat.zero_add]
      have := World.ownsRow.cells h (g := g) rfl i (.string (l.getD i ⟨#[]⟩)) (by rw [List.getElem?_map, List.getElem?_eq_getElem hi, List.getD_eq_getElem?_getD, List.getElem?_eq_getElem hi]; rfl)
      simpa [Go.WideShapes.add_plain] using this
  obtain ⟨p, c, g, rfl, k1, k2, k3⟩ := key h
  obtain ⟨p', c', g', rfl, k1', k2', k3'⟩ := key h'
  exact same_texts (F := fun i => l.getD i ⟨#[]⟩) hn u k1 k1' (fun e => ⟨k2 e, k2' e⟩) k3 k3'
theorem ops_a {w0 u : World} {d : Nat} {A : Ad} {L : List Nat} (h : Da w0 d A L u) : Calls Try.prog 28 #[PT d 0] u fun e u' => e = .returned (.int .i64 (A.k : Int)) ∧ Below u.heap.size u u' := by
  obtain ⟨D, h1, rfl, rfl, h4⟩ := h
  exact Ops_f D u h1.dk
end Wi
end Rg
end Go.Proofs.Ytidicdlfjdlpnaa
end
