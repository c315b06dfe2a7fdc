/- Texts of the proof, joined. -/
import Derived.Test.YtahghpkjkfaieaaGreatDoorP7
set_option maxRecDepth 100000
section
namespace Go.Proofs.YtahghpkjkfaieaaGreatDoor
open Go.RowKit
namespace Rg
namespace Wi
theorem call13 : CO 13 := by intro args w; go_simp
theorem call50 : CO 50 := by intro args w; go_simp
abbrev zkc : List Value := [Value.int .i64 0, U 0, U 0, U 0, U 0, U 0, U 0, U 0, U 0, U 0, U 0, U 0, U 0, Value.bool false, U 0, U 0, Value.bool false]
abbrev e1c : List Value := [Value.int .i64 3, Value.int .i64 1, Value.string ⟨#[97]⟩, Value.string ⟨#[]⟩, Value.string ⟨#[]⟩, Value.slice none 0 0, Value.slice none 0 0, Value.int .i64 0, Value.slice none 0 0, Value.slice none 0 0, Value.slice none 0 0]
set_option maxRecDepth 100000
theorem Mm_swp {w : World} {a c : Nat × List Value} {l : List (Nat × List Value)} (h : Mm w (a :: c :: l)) : Mm w (c :: a :: l) :=
  ⟨fun p hp => h.blk p (by rcases List.mem_cons.1 hp with e | e; · rw [e]; simp
                           · rcases List.mem_cons.1 e with e | e
                             · rw [e]; simp
                             · simp [e]), by
    have h0 := h.nd
    rw [List.pairwise_cons, List.pairwise_cons] at h0
    rw [List.pairwise_cons, List.pairwise_cons]
    refine ⟨fun p hp => ?_, fun p hp => h0.1 p (List.mem_cons_of_mem _ hp), h0.2.2⟩
    rcases List.mem_cons.1 hp with rfl | hp
    · exact fun e => h0.1 c (List.mem_cons_self ..) e.symm
    · exact h0.2.1 p hp⟩
theorem Mm_drp {w : World} {a c : Nat × List Value} {l : List (Nat × List Value)} (h : Mm w (a :: c :: l)) : Mm w (a :: l) := h.sub ((List.sublist_cons_self _ _).cons_cons _)
theorem mem_swp {a c g : Nat} {L : List Nat} (h : g ∈ c :: a :: L) : g ∈ a :: c :: L := by
  simp only [List.mem_cons] at h ⊢
  rcases h with h | h | h
  · exact .inr (.inl h)
  · exact .inl h
  · exact .inr (.inr h)
section
variable {ρ : Operand → Value} {o : Oper} {x y z : Operand} {w : World}
/-- The bytes of a text, in a block of their own. -/
theorem s2b (w : World) (s : ByteArray) (cs : List Value) (hcs : s.data.map (fun c => Value.int .u8 c.toNat) = cs.toArray) :
    ∃ cap ob, (convert 9 51 (.string s)).run Tryz.prog w = .ok (.slice (some ⟨w.heap.size, 0, none⟩) cs.length cap) (w.drew.alloc ob) ∧ cs.length ≤ cap ∧ w.heap.size < (w.drew.alloc ob).heap.size ∧ Blk (w.drew.alloc ob) w.heap.size cs := by
  have hl : s.size = cs.length := by
    have h := congrArg Array.size hcs
    rw [Array.size_map, List.size_toArray] at h
    exact h
  have hr := run_bytes_of_string (P := Tryz.prog) w 9 51 5 s (by kernel_rfl) (by kernel_rfl) (by kernel_rfl)
  have hge := grownCap_ge w s.size 0 5
  generalize grownCap w s.size 0 5 = cap at hr hge
  rw [hl] at hr hge
  refine ⟨cap, _, hr, hge, (Array.getElem?_eq_some_iff.1 (heap_alloc_new w.drew (.cells (bytesRow s cap) 5 ((bytesRow s cap).size, (bytesRow s cap).size + 1)))).1, fun j v hj => ?_⟩
  have hh := heap_alloc_new w.drew (.cells (bytesRow s cap) 5 ((bytesRow s cap).size, (bytesRow s cap).size + 1))
  have hlt : j < cs.length := (List.getElem?_eq_some_iff.1 hj).1
  have hrow : (bytesRow s cap)[j]? = some v := by
    unfold bytesRow
    rw [hcs, Array.getElem?_append_left (by simpa using hlt)]
    simpa using hj
  have hsz : j < (bytesRow s cap).size := (Array.getElem?_eq_some_iff.1 hrow).1
  refine ⟨?_, ?_⟩
  · rw [cell_of_row _ w.heap.size j _ _ _ hh]
    exact hrow
  · unfold World.frozen?
    rw [show (w.drew.alloc (.cells (bytesRow s cap) 5 ((bytesRow s cap).size, (bytesRow s cap).size + 1))).heap[(⟨w.heap.size, j, none⟩ : Addr).block]? = _ from hh]
    simp
    omega
theorem ex_s2b {s : ByteArray} {v : Value} {w2 : World} (hr : (convert 9 51 (.string s)).run Tryz.prog w = .ok v w2) (ho : o.op = .convert 9 51 x) (hx : ρ x = .string s) : (execOp ρ o).run Tryz.prog w = .ok (.value v) w2 := by
  simp only [execOp, ho, hx]
  simp [hr, Result.andThen]
theorem ex_mk37 (ho : o.op = .alloc 37) : (execOp ρ o).run Tryz.prog w = .ok (.value (.pointer (some ⟨w.heap.size, 0, none⟩))) (w.alloc (.cells (zkc : List Value).toArray 37)) := by
  simp only [execOp, ho]
  go_simp
  rfl
theorem ex_bs101_3 {s0 s1 s2 : ByteArray} (ho : o.op = .buildSlice 101 3 #[(0, x), (1, y), (2, z)]) (h0 : ρ x = .string s0) (h1 : ρ y = .string s1) (h2 : ρ z = .string s2) : (execOp ρ o).run Tryz.prog w = .ok (.value (.slice (some ⟨w.heap.size, 0, none⟩) 3 3)) (w.alloc (.cells ([.string s0, .string s1, .string s2] : List Value).toArray 9)) := by
  simp only [execOp, ho, List.map_toArray, List.map_cons, List.map_nil, h0, h1, h2]
  kernel_rfl
end
theorem in1_00 (w : World) (hm : Mm w [(0, dtab)]) : Calls Tryz.prog 40 #[pv1 0 0 false] w (Rt w (.bool false)) := by
  obtain ⟨I, hI⟩ := inv1_ex
  have e : rd1 0 0 false = none := by decide +kernel
  refine In_1 1 4 tr 0 0 false false first3E (fun g bx cy w hm => ?_) w hm
  have hc := fun w hm => checkE_1 hI (g := g) (tn := .func (.func 128) #[] #[PT bx 0, PT cy 0]) 0 0 false big_pos big_pos w hm
  rw [e] at hc
  exact inN_1 (u := (K1 hI).R.one) (b := (K1 hI).b) (fd1 hI g) t3p bx cy 0 0 hc w hm
theorem keyCheck_0 (w : World) (hm : Mm w [(0, dtab)]) : Calls Tryz.prog 13 #[.agg (zkc : List Value).toArray] w (Rt w (.bool false)) := by
  have h := keyCheck_g 0 0 false false in1_00 w hm
  rw [cel00] at h
  exact h
set_option maxHeartbeats 2000000 in
theorem keyBytes_0  (w : World) (hm : Mm w [(0, dtab)]) :
    Calls Tryz.prog 50 #[.agg (zkc).toArray] w (Rt w (.tuple #[.slice none 0 0, .int .i64 5])) := by
  have H0 : Hid (_ ∧ _) := ⟨hm, Below.refl w.heap.size w⟩
  clear hm
  go_enter Tryz.func50, Tryz.ntmps50
  refine wp_seq ?_
  refine zN (l := [0, 1, 2]) rfl (fun u0 hu0 => ?_)
  have H1 : Hid (Mm u0 [(0, dtab)] ∧ Below w.heap.size w u0) := by rw [hu0]; exact H0
  clear hu0 H0
  refine zA (d := 1) (v := PT u0.heap.size 0) (w' := (u0.alloc (.cells (zkc : List Value).toArray 37))) rfl rfl rfl (ex_boxT rfl rfl) ?_
  simp only [Act.put, sa, sz, ss]
  have o_Js2 : Hid (w.heap.size ≤ u0.heap.size) := H1.out.2.size
  have H2 : Hid (Mm (u0.alloc (.cells (zkc : List Value).toArray 37)) ((u0.heap.size, zkc) :: [(0, dtab)]) ∧ Below w.heap.size w (u0.alloc (.cells (zkc : List Value).toArray 37))) := ⟨H1.out.1.alloc _ 37 rfl, H1.out.2.trans (((Below.refl _ _).alloc (Nat.le_refl _) _).mono H1.out.2.size)⟩
  clear H1
  generalize hgw : u0.alloc (.cells (zkc : List Value).toArray 37) = w2 at H2 ⊢
  clear hgw
  generalize u0.heap.size = Js2 at o_Js2 H2 ⊢
  refine zA (d := 2) (v := .slice none 0 0) (w' := w2) rfl rfl rfl (rfl) ?_
  simp only [Act.put, sa, sz, ss]
  refine zA (d := 3) (v := .int .i64 0) (w' := w2) rfl rfl rfl (rfl) ?_
  simp only [Act.put, sa, sz, ss]
  refine zC (zB ?_)
  refine wp_seq (wp_seq ?_)
  refine zD (l := [0, 1, 2]) rfl ?_
  refine zA (d := 4) (v := .agg (zkc).toArray) (w' := w2) rfl rfl rfl (ex_loadT H2.out.1 0 rfl rfl rfl Tryz.isAgg37 As37 rfl rfl) ?_
  simp only [Act.put, sa, sz, ss]
  refine zF (d := 5) (R := fun vv w' => vv = .bool false ∧ Below w2.heap.size w2 w') rfl rfl rfl (zG (args := #[.agg (zkc).toArray]) rfl call13 rfl (mpn rfl)) (Calls.mono (keyCheck_0 w2 (H2.out.1.one 1 rfl)) (fun e w2 hh => ⟨_, hh.1, rfl, hh.2⟩)) ?_
  rintro _ w3 ⟨rfl, hb⟩
  have H3 : Hid (Mm w3 [(Js2, zkc), (0, dtab)] ∧ Below w.heap.size w w3) := ⟨H2.out.1.below hb, H2.out.2.trans (hb.mono H2.out.2.size)⟩
  clear hb
  clear H2
  simp only [Act.put, sa, sz, ss]
  refine zA (d := 6) (v := .bool true) (w' := w3) rfl rfl rfl (by go_simp) ?_
  simp only [Act.put, sa, sz, ss]
  refine zC (zB ?_)
  refine wp_cond_true rfl (wp_seq ?_)
  refine zD (l := [0, 1]) rfl ?_
  refine zA (d := 2) (v := .slice none 0 0) (w' := w3) rfl rfl rfl (rfl) ?_
  simp only [Act.put, sa, sz, ss]
  refine zA (d := 3) (v := .int .i64 5) (w' := w3) rfl rfl rfl (rfl) ?_
  simp only [Act.put, sa, sz, ss]
  refine zC (zB (wp_ret ?_))
  repeat (first | refine zL ?_ | refine zK ?_)
  refine bodyPost_ret (v := .tuple #[.slice none 0 0, .int .i64 5]) (by simp [results, Tryz.results50, go_sem, *]) rfl ?_
  exact ⟨rfl, H3.out.2⟩
set_option maxHeartbeats 4000000 in
theorem pointsK_nil (W : World) (gw : Nat) (f1 f2 : Value) (lz : List (Nat × List Value)) (vv : Value) (n : Nat) (P : Nat → Nat) (hn : n ≤ 1000) (hg0 : W.heap.size ≤ gw) (w : World) (hm : Mm w ((gw, [vv]) :: lz)) (hO : Ow W (gw :: lz.map Prod.fst) vv n P w) :
    Calls Tryz.prog 49 #[PT gw 0, .slice none 0 0, f1, f2] w fun e w' => e = .returned (.int .i64 0) ∧ ∃ v', Ow W (gw :: lz.map Prod.fst) v' (n + 1) (ct (pbf P n (lb [0]) 1) (n + 1 * 1) (fun _ => 0)) w' ∧ Mm w' ((gw, [v']) :: lz) := by
  have H0 : Hid (_ ∧ _) := ⟨hm, hO⟩
  clear hm
  have hg : Hid _ := hg0
  clear hg0 hO
  go_enter Tryz.func49, Tryz.ntmps49
  refine wp_seq ?_
  refine zD (l := [0]) rfl ?_
  refine zA (d := 8) (v := .int .i64 0) (w' := w) rfl rfl rfl (rfl) ?_
  simp only [Act.put, sa, sz, ss]
  refine zC (zB (wp_seq ?_))
  refine zD (l := [0, 1, 2, 3, 4]) rfl ?_
  refine zA (d := 13) (v := PT gw 0) (w' := w) rfl rfl rfl (rfl) ?_
  simp only [Act.put, sa, sz, ss]
  refine zA (d := 14) (v := .slice none 0 0) (w' := w) rfl rfl rfl (rfl) ?_
  simp only [Act.put, sa, sz, ss]
  refine zA (d := 15) (v := .int .i64 0) (w' := w) rfl rfl rfl (by go_simp) ?_
  simp only [Act.put, sa, sz, ss]
  refine zA (d := 16) (v := .slice (some ⟨w.heap.size, 0, none⟩) 1 1) (w' := (w.alloc (.cells (zH .i64 (lb [0]) 1 : List Value).toArray 3))) rfl rfl rfl (ex_bsI1 (a := 0) rfl rfl) ?_
  simp only [Act.put, sa, sz, ss]
  have o_Js1 : Hid (W.heap.size ≤ w.heap.size) := H0.out.2.size
  have H1 : Hid (Mm (w.alloc (.cells (zH .i64 (lb [0]) 1 : List Value).toArray 3)) ((w.heap.size, zH .i64 (lb [0]) 1) :: ((gw, [vv]) :: lz)) ∧ Ow W (w.heap.size :: gw :: lz.map Prod.fst) vv n P (w.alloc (.cells (zH .i64 (lb [0]) 1 : List Value).toArray 3))) := ⟨H0.out.1.alloc _ 3 rfl, Ow.alloc H0.out.2 _⟩
  clear H0
  generalize hgw : w.alloc (.cells (zH .i64 (lb [0]) 1 : List Value).toArray 3) = w1 at H1 ⊢
  clear hgw
  generalize w.heap.size = Js1 at o_Js1 H1 ⊢
  refine zF (d := 17) (R := fun vv w' => vv = .tuple #[] ∧ ∃ vv', Ow W (gw :: Js1 :: lz.map Prod.fst) vv' (n + 1) (ct (pbf P n (lb [0]) 1) (n + 1 * 1) (fun _ => 0)) w' ∧ Mm w' ((gw, [vv']) :: (Js1, zH .i64 (lb [0]) 1) :: (lz))) rfl rfl rfl (zG (args := #[PT gw 0, .int .i64 1, .slice none 0 0, .slice (some ⟨Js1, 0, none⟩) 1 1]) rfl call43 rfl (mpn rfl)) (Calls.mono (put_any W gw Js1 (lz) vv n P Pt8.no Pt8.no_ok (fun _ => rfl) (fun u _ => Pt8.no_rs u) (lb [0]) 1 1 (by decide) (by decide) (by decide) (show n + 1 * 1 + 0 ≤ 2097152 by omega) hg.out w1 (Mm_swp H1.out.1) (H1.out.2.sub (fun _ => mem_swp))) (fun e w2 hh => ⟨_, hh.1, rfl, hh.2⟩)) ?_
  rintro _ w2 ⟨rfl, v2, hO, hM⟩
  have H2 : Hid (Mm w2 ((gw, [v2]) :: lz) ∧ Ow W (gw :: lz.map Prod.fst) v2 (n + 1) (ct (pbf P n (lb [0]) 1) (n + 1 * 1) (fun _ => 0)) w2) := ⟨Mm_drp hM, hO.sub (fun g hg => (List.mem_cons.1 hg).elim (fun e => e ▸ List.mem_cons_self ..) (fun e => List.mem_cons_of_mem _ (List.mem_cons_of_mem _ e)))⟩
  clear hO hM H1
  simp only [Act.put, sa, sz, ss]
  refine zC (zB ?_)
  refine wp_seq (wp_seq ?_)
  refine zD (l := [0, 1, 2]) rfl ?_
  refine zA (d := 18) (v := .slice none 0 0) (w' := w2) rfl rfl rfl (rfl) ?_
  simp only [Act.put, sa, sz, ss]
  refine zA (d := 19) (v := .int .i64 0) (w' := w2) rfl rfl rfl (by go_simp) ?_
  simp only [Act.put, sa, sz, ss]
  refine zA (d := 20) (v := .int .i64 0) (w' := w2) rfl rfl rfl (rfl) ?_
  simp only [Act.put, sa, sz, ss]
  refine zC (zB (wp_block ?_))
  refine wp_loop_rounds 2 ?_
  refine zU (n := 1) ?_
  refine wp_seq ?_
  refine zD (l := [0]) rfl ?_
  refine zA (d := 21) (v := .bool false) (w' := w2) rfl rfl rfl (by kernel_rfl) ?_
  simp only [Act.put, sa, sz, ss]
  refine zC (zB ?_)
  refine wp_seq (wp_cond_false rfl ?_)
  refine wp_exit ?_
  repeat refine zX ?_
  refine zT ?_
  refine zB (wp_seq ?_)
  refine zD (l := [0]) rfl ?_
  refine zA (d := 8) (v := .int .i64 0) (w' := w2) rfl rfl rfl (rfl) ?_
  simp only [Act.put, sa, sz, ss]
  refine zC (zB (wp_ret ?_))
  repeat (first | refine zL ?_ | refine zK ?_)
  refine bodyPost_ret (v := .int .i64 0) (by simp [results, Tryz.results49, go_sem, *]) rfl ?_
  exact ⟨rfl, v2, H2.out.2, H2.out.1⟩
set_option maxHeartbeats 4000000 in
theorem pointsS_nil (W : World) (gw : Nat) (f1 f2 : Value) (lz : List (Nat × List Value)) (vv : Value) (n : Nat) (P : Nat → Nat) (hn : n ≤ 1000) (hg0 : W.heap.size ≤ gw) (w : World) (hm : Mm w ((gw, [vv]) :: lz)) (hO : Ow W (gw :: lz.map Prod.fst) vv n P w) :
    Calls Tryz.prog 52 #[PT gw 0, .slice none 0 0, f1, f2] w fun e w' => e = .returned (.int .i64 0) ∧ ∃ v', Ow W (gw :: lz.map Prod.fst) v' (n + 1) (ct (pbf P n (lb [0]) 1) (n + 1 * 1) (fun _ => 0)) w' ∧ Mm w' ((gw, [v']) :: lz) := by
  have H0 : Hid (_ ∧ _) := ⟨hm, hO⟩
  clear hm
  have hg : Hid _ := hg0
  clear hg0 hO
  go_enter Tryz.func52, Tryz.ntmps52
  refine wp_seq ?_
  refine zD (l := [0]) rfl ?_
  refine zA (d := 8) (v := .int .i64 0) (w' := w) rfl rfl rfl (rfl) ?_
  simp only [Act.put, sa, sz, ss]
  refine zC (zB (wp_seq ?_))
  refine zD (l := [0, 1, 2, 3, 4]) rfl ?_
  refine zA (d := 13) (v := PT gw 0) (w' := w) rfl rfl rfl (rfl) ?_
  simp only [Act.put, sa, sz, ss]
  refine zA (d := 14) (v := .slice none 0 0) (w' := w) rfl rfl rfl (rfl) ?_
  simp only [Act.put, sa, sz, ss]
  refine zA (d := 15) (v := .int .i64 0) (w' := w) rfl rfl rfl (by go_simp) ?_
  simp only [Act.put, sa, sz, ss]
  refine zA (d := 16) (v := .slice (some ⟨w.heap.size, 0, none⟩) 1 1) (w' := (w.alloc (.cells (zH .i64 (lb [0]) 1 : List Value).toArray 3))) rfl rfl rfl (ex_bsI1 (a := 0) rfl rfl) ?_
  simp only [Act.put, sa, sz, ss]
  have o_Js1 : Hid (W.heap.size ≤ w.heap.size) := H0.out.2.size
  have H1 : Hid (Mm (w.alloc (.cells (zH .i64 (lb [0]) 1 : List Value).toArray 3)) ((w.heap.size, zH .i64 (lb [0]) 1) :: ((gw, [vv]) :: lz)) ∧ Ow W (w.heap.size :: gw :: lz.map Prod.fst) vv n P (w.alloc (.cells (zH .i64 (lb [0]) 1 : List Value).toArray 3))) := ⟨H0.out.1.alloc _ 3 rfl, Ow.alloc H0.out.2 _⟩
  clear H0
  generalize hgw : w.alloc (.cells (zH .i64 (lb [0]) 1 : List Value).toArray 3) = w1 at H1 ⊢
  clear hgw
  generalize w.heap.size = Js1 at o_Js1 H1 ⊢
  refine zF (d := 17) (R := fun vv w' => vv = .tuple #[] ∧ ∃ vv', Ow W (gw :: Js1 :: lz.map Prod.fst) vv' (n + 1) (ct (pbf P n (lb [0]) 1) (n + 1 * 1) (fun _ => 0)) w' ∧ Mm w' ((gw, [vv']) :: (Js1, zH .i64 (lb [0]) 1) :: (lz))) rfl rfl rfl (zG (args := #[PT gw 0, .int .i64 1, .slice none 0 0, .slice (some ⟨Js1, 0, none⟩) 1 1]) rfl call43 rfl (mpn rfl)) (Calls.mono (put_any W gw Js1 (lz) vv n P Pt8.no Pt8.no_ok (fun _ => rfl) (fun u _ => Pt8.no_rs u) (lb [0]) 1 1 (by decide) (by decide) (by decide) (show n + 1 * 1 + 0 ≤ 2097152 by omega) hg.out w1 (Mm_swp H1.out.1) (H1.out.2.sub (fun _ => mem_swp))) (fun e w2 hh => ⟨_, hh.1, rfl, hh.2⟩)) ?_
  rintro _ w2 ⟨rfl, v2, hO, hM⟩
  have H2 : Hid (Mm w2 ((gw, [v2]) :: lz) ∧ Ow W (gw :: lz.map Prod.fst) v2 (n + 1) (ct (pbf P n (lb [0]) 1) (n + 1 * 1) (fun _ => 0)) w2) := ⟨Mm_drp hM, hO.sub (fun g hg => (List.mem_cons.1 hg).elim (fun e => e ▸ List.mem_cons_self ..) (fun e => List.mem_cons_of_mem _ (List.mem_cons_of_mem _ e)))⟩
  clear hO hM H1
  simp only [Act.put, sa, sz, ss]
  refine zC (zB ?_)
  refine wp_seq (wp_seq ?_)
  refine zD (l := [0, 1, 2]) rfl ?_
  refine zA (d := 18) (v := .slice none 0 0) (w' := w2) rfl rfl rfl (rfl) ?_
  simp only [Act.put, sa, sz, ss]
  refine zA (d := 19) (v := .int .i64 0) (w' := w2) rfl rfl rfl (by go_simp) ?_
  simp only [Act.put, sa, sz, ss]
  refine zA (d := 20) (v := .int .i64 0) (w' := w2) rfl rfl rfl (rfl) ?_
  simp only [Act.put, sa, sz, ss]
  refine zC (zB (wp_block ?_))
  refine wp_loop_rounds 2 ?_
  refine zU (n := 1) ?_
  refine wp_seq ?_
  refine zD (l := [0]) rfl ?_
  refine zA (d := 21) (v := .bool false) (w' := w2) rfl rfl rfl (by kernel_rfl) ?_
  simp only [Act.put, sa, sz, ss]
  refine zC (zB ?_)
  refine wp_seq (wp_cond_false rfl ?_)
  refine wp_exit ?_
  repeat refine zX ?_
  refine zT ?_
  refine zB (wp_seq ?_)
  refine zD (l := [0]) rfl ?_
  refine zA (d := 8) (v := .int .i64 0) (w' := w2) rfl rfl rfl (rfl) ?_
  simp only [Act.put, sa, sz, ss]
  refine zC (zB (wp_ret ?_))
  repeat (first | refine zL ?_ | refine zK ?_)
  refine bodyPost_ret (v := .int .i64 0) (by simp [results, Tryz.results52, go_sem, *]) rfl ?_
  exact ⟨rfl, v2, H2.out.2, H2.out.1⟩
set_option maxHeartbeats 4000000 in
theorem pointsK_bad (W : World) (gw : Nat) (gk : Nat) (f2 : Value) (lz : List (Nat × List Value)) (vv : Value) (n : Nat) (P : Nat → Nat) (hn : n ≤ 1000) (hg0 : W.heap.size ≤ gw) (w : World) (hm : Mm w ((gw, [vv]) :: (gk, zkc) :: (0, dtab) :: lz)) (hO : Ow W (gw :: gk :: 0 :: lz.map Prod.fst) vv n P w) :
    Calls Tryz.prog 49 #[PT gw 0, .slice (some ⟨gk, 0, none⟩) 1 1, .func (.func 50) #[] #[], f2] w fun e w' => e = .returned (.int .i64 5) ∧ Below W.heap.size W w' := by
  have H0 : Hid (_ ∧ _) := ⟨hm, hO⟩
  clear hm
  have hg : Hid _ := hg0
  clear hg0 hO
  go_enter Tryz.func49, Tryz.ntmps49
  refine wp_seq ?_
  refine zD (l := [0]) rfl ?_
  refine zA (d := 8) (v := .int .i64 0) (w' := w) rfl rfl rfl (rfl) ?_
  simp only [Act.put, sa, sz, ss]
  refine zC (zB (wp_seq ?_))
  refine zD (l := [0, 1, 2, 3, 4]) rfl ?_
  refine zA (d := 13) (v := PT gw 0) (w' := w) rfl rfl rfl (rfl) ?_
  simp only [Act.put, sa, sz, ss]
  refine zA (d := 14) (v := .slice (some ⟨gk, 0, none⟩) 1 1) (w' := w) rfl rfl rfl (rfl) ?_
  simp only [Act.put, sa, sz, ss]
  refine zA (d := 15) (v := .int .i64 1) (w' := w) rfl rfl rfl (by go_simp) ?_
  simp only [Act.put, sa, sz, ss]
  refine zA (d := 16) (v := .slice (some ⟨w.heap.size, 0, none⟩) 1 1) (w' := (w.alloc (.cells (zH .i64 (lb [1]) 1 : List Value).toArray 3))) rfl rfl rfl (ex_bsI1 (a := 1) rfl rfl) ?_
  simp only [Act.put, sa, sz, ss]
  have o_Js1 : Hid (W.heap.size ≤ w.heap.size) := H0.out.2.size
  have H1 : Hid (Mm (w.alloc (.cells (zH .i64 (lb [1]) 1 : List Value).toArray 3)) ((w.heap.size, zH .i64 (lb [1]) 1) :: ((gw, [vv]) :: (gk, zkc) :: (0, dtab) :: lz)) ∧ Ow W (w.heap.size :: gw :: gk :: 0 :: lz.map Prod.fst) vv n P (w.alloc (.cells (zH .i64 (lb [1]) 1 : List Value).toArray 3))) := ⟨H0.out.1.alloc _ 3 rfl, Ow.alloc H0.out.2 _⟩
  clear H0
  generalize hgw : w.alloc (.cells (zH .i64 (lb [1]) 1 : List Value).toArray 3) = w1 at H1 ⊢
  clear hgw
  generalize w.heap.size = Js1 at o_Js1 H1 ⊢
  refine zF (d := 17) (R := fun vv w' => vv = .tuple #[] ∧ ∃ vv', Ow W (gw :: Js1 :: gk :: 0 :: lz.map Prod.fst) vv' (n + 1) (ct (pbf P n (lb [1]) 1) (n + 1 * 1) (fun _ => 0)) w' ∧ Mm w' ((gw, [vv']) :: (Js1, zH .i64 (lb [1]) 1) :: ((gk, zkc) :: (0, dtab) :: lz))) rfl rfl rfl (zG (args := #[PT gw 0, .int .i64 1, .slice none 0 0, .slice (some ⟨Js1, 0, none⟩) 1 1]) rfl call43 rfl (mpn rfl)) (Calls.mono (put_any W gw Js1 ((gk, zkc) :: (0, dtab) :: lz) vv n P Pt8.no Pt8.no_ok (fun _ => rfl) (fun u _ => Pt8.no_rs u) (lb [1]) 1 1 (by decide) (by decide) (by decide) (show n + 1 * 1 + 0 ≤ 2097152 by omega) hg.out w1 (Mm_swp H1.out.1) (H1.out.2.sub (fun _ => mem_swp))) (fun e w2 hh => ⟨_, hh.1, rfl, hh.2⟩)) ?_
  rintro _ w2 ⟨rfl, v2, hO, hM⟩
  have H2 : Hid (Mm w2 ((gw, [v2]) :: (gk, zkc) :: (0, dtab) :: lz) ∧ Ow W (gw :: gk :: 0 :: lz.map Prod.fst) v2 (n + 1) (ct (pbf P n (lb [1]) 1) (n + 1 * 1) (fun _ => 0)) w2) := ⟨Mm_drp hM, hO.sub (fun g hg => (List.mem_cons.1 hg).elim (fun e => e ▸ List.mem_cons_self ..) (fun e => List.mem_cons_of_mem _ (List.mem_cons_of_mem _ e)))⟩
  clear hO hM H1
  simp only [Act.put, sa, sz, ss]
  refine zC (zB ?_)
  refine wp_seq (wp_seq ?_)
  refine zD (l := [0, 1, 2]) rfl ?_
  refine zA (d := 18) (v := .slice (some ⟨gk, 0, none⟩) 1 1) (w' := w2) rfl rfl rfl (rfl) ?_
  simp only [Act.put, sa, sz, ss]
  refine zA (d := 19) (v := .int .i64 1) (w' := w2) rfl rfl rfl (by go_simp) ?_
  simp only [Act.put, sa, sz, ss]
  refine zA (d := 20) (v := .int .i64 0) (w' := w2) rfl rfl rfl (rfl) ?_
  simp only [Act.put, sa, sz, ss]
  refine zC (zB (wp_block ?_))
  refine wp_loop_rounds 2 ?_
  refine zU (n := 1) ?_
  refine wp_seq ?_
  refine zD (l := [0]) rfl ?_
  refine zA (d := 21) (v := .bool true) (w' := w2) rfl rfl rfl (by kernel_rfl) ?_
  simp only [Act.put, sa, sz, ss]
  refine zC (zB ?_)
  refine wp_seq (wp_cond_true rfl ?_)
  refine wp_skip (zB ?_)
  refine wp_seq (wp_block (wp_seq ?_))
  refine zD (l := [0, 1, 2, 3]) rfl ?_
  refine zA (d := 22) (v := PT gk 0) (w' := w2) rfl rfl rfl (by go_simp) ?_
  simp only [Act.put, sa, sz, ss]
  refine zA (d := 23) (v := .agg (zkc).toArray) (w' := w2) rfl rfl rfl (ex_loadT H2.out.1 1 rfl rfl rfl Tryz.isAgg37 As37 rfl rfl) ?_
  simp only [Act.put, sa, sz, ss]
  refine zA (d := 10) (v := PT w2.heap.size 0) (w' := (w2.alloc (.cells (zkc : List Value).toArray 37))) rfl rfl rfl (ex_mk37 rfl) ?_
  simp only [Act.put, sa, sz, ss]
  have o_Js3 : Hid (W.heap.size ≤ w2.heap.size) := H2.out.2.size
  have H3 : Hid (Mm (w2.alloc (.cells (zkc : List Value).toArray 37)) ((w2.heap.size, zkc) :: ((gw, [v2]) :: (gk, zkc) :: (0, dtab) :: lz)) ∧ Ow W (w2.heap.size :: gw :: gk :: 0 :: lz.map Prod.fst) v2 (n + 1) (ct (pbf P n (lb [1]) 1) (n + 1 * 1) (fun _ => 0)) (w2.alloc (.cells (zkc : List Value).toArray 37))) := ⟨H2.out.1.alloc _ 37 rfl, Ow.alloc H2.out.2 _⟩
  clear H2
  generalize hgw : w2.alloc (.cells (zkc : List Value).toArray 37) = w3 at H3 ⊢
  clear hgw
  generalize w2.heap.size = Js3 at o_Js3 H3 ⊢
  refine rest_store rfl rfl rfl (ex_storeT (vs := zkc) H3.out.1 0 rfl rfl rfl rfl As37 rfl (Nat.le_of_ble_eq_true rfl)) ?_
  have H4 : Hid (Mm (w3.setCells Js3 0 zkc) ((Js3, zkc) :: (gw, [v2]) :: (gk, zkc) :: (0, dtab) :: lz) ∧ Ow W (Js3 :: gw :: gk :: 0 :: lz.map Prod.fst) v2 (n + 1) (ct (pbf P n (lb [1]) 1) (n + 1 * 1) (fun _ => 0)) (w3.setCells Js3 0 zkc)) := ⟨H3.out.1.put 0 (off := 0) (vs := zkc) rfl (Nat.le_of_ble_eq_true rfl), H3.out.2.put (by simp) o_Js3.out⟩
  clear H3
  generalize hgw : World.setCells _ _ _ _ = w4 at H4 ⊢
  clear hgw
  refine zC (zB (wp_seq ?_))
  refine zD (l := [0, 1, 2, 3, 4, 5, 6, 7]) rfl ?_
  refine zA (d := 25) (v := .func (.func 50) #[] #[]) (w' := w4) rfl rfl rfl (rfl) ?_
  simp only [Act.put, sa, sz, ss]
  refine zA (d := 26) (v := .agg (zkc).toArray) (w' := w4) rfl rfl rfl (ex_loadT H4.out.1 0 rfl rfl rfl Tryz.isAgg37 As37 rfl rfl) ?_
  simp only [Act.put, sa, sz, ss]
  refine zF (d := 27) (R := fun vv w' => vv = .tuple #[.slice none 0 0, .int .i64 5] ∧ Below w4.heap.size w4 w') rfl rfl rfl (ex_callV rfl call50 rfl (mpn rfl) rfl) (Calls.mono (keyBytes_0 w4 (H4.out.1.one 3 rfl)) (fun e w2 hh => ⟨_, hh.1, rfl, hh.2⟩)) ?_
  rintro _ w5 ⟨rfl, hb⟩
  have H5 : Hid (Mm w5 ((Js3, zkc) :: (gw, [v2]) :: (gk, zkc) :: (0, dtab) :: lz) ∧ Ow W (Js3 :: gw :: gk :: 0 :: lz.map Prod.fst) v2 (n + 1) (ct (pbf P n (lb [1]) 1) (n + 1 * 1) (fun _ => 0)) w5) := ⟨H4.out.1.below hb, Ow.step H4.out.2 (hb)⟩
  clear hb
  clear H4
  simp only [Act.put, sa, sz, ss]
  refine zA (d := 24) (v := .tuple #[.slice none 0 0, .int .i64 5]) (w' := w5) rfl rfl rfl (rfl) ?_
  simp only [Act.put, sa, sz, ss]
  refine zA (d := 28) (v := .slice none 0 0) (w' := w5) rfl rfl rfl (by go_simp) ?_
  simp only [Act.put, sa, sz, ss]
  refine zA (d := 29) (v := .int .i64 5) (w' := w5) rfl rfl rfl (by go_simp) ?_
  simp only [Act.put, sa, sz, ss]
  refine zA (d := 11) (v := .slice none 0 0) (w' := w5) rfl rfl rfl (rfl) ?_
  simp only [Act.put, sa, sz, ss]
  refine zA (d := 12) (v := .int .i64 5) (w' := w5) rfl rfl rfl (rfl) ?_
  simp only [Act.put, sa, sz, ss]
  refine zC (zB ?_)
  refine wp_seq (wp_seq ?_)
  refine zD (l := [0, 1]) rfl ?_
  refine zA (d := 30) (v := .int .i64 5) (w' := w5) rfl rfl rfl (rfl) ?_
  simp only [Act.put, sa, sz, ss]
  refine zA (d := 31) (v := .bool true) (w' := w5) rfl rfl rfl (by kernel_rfl) ?_
  simp only [Act.put, sa, sz, ss]
  refine zC (zB ?_)
  refine wp_cond_true rfl (wp_seq ?_)
  refine zD (l := [0, 1]) rfl ?_
  refine zA (d := 32) (v := .int .i64 5) (w' := w5) rfl rfl rfl (rfl) ?_
  simp only [Act.put, sa, sz, ss]
  refine zA (d := 8) (v := .int .i64 5) (w' := w5) rfl rfl rfl (rfl) ?_
  simp only [Act.put, sa, sz, ss]
  refine zC (zB (wp_ret ?_))
  repeat (first | refine zL ?_ | refine zK ?_)
  refine bodyPost_ret (v := .int .i64 5) (by simp [results, Tryz.results49, go_sem, *]) rfl ?_
  exact ⟨rfl, H5.out.2.b⟩
end Wi
end Rg
end Go.Proofs.YtahghpkjkfaieaaGreatDoor
end
section
namespace Go.Proofs.YtahghpkjkfaieaaGreatDoor
open Go.RowKit
namespace Rg
namespace Wi
theorem call19 : CO 19 := by intro args w; go_simp
theorem call46 : CO 46 := by intro args w; go_simp
theorem call49 : CO 49 := by intro args w; go_simp
theorem call52 : CO 52 := by intro args w; go_simp
set_option maxRecDepth 100000
set_option maxHeartbeats 8000000 in
theorem Entry_1  (w : World) :
  Calls Tryz.prog 19 #[.agg (e1c).toArray] w fun e w' => Below w.heap.size w w' ∧ ∃ g x, e = .returned (.tuple #[.slice (some ⟨g, 0, none⟩) 13 (13 + x), .int .i64 0]) ∧ w.heap.size ≤ g ∧ g < w'.heap.size ∧ Blk w' g (zH .u8 (lb [3, 1, 1, 97, 0, 0, 0, 0, 0, 0, 0, 0, 0]) 13) := by
 have H0 : Hid (_ ∧ _) := ⟨Mm.nil w, Below.refl w.heap.size w⟩
 go_enter Tryz.func19, Tryz.ntmps19
 refine wp_seq ?_
 refine zN (l := [0, 1, 2]) rfl (fun u0 hu0 => ?_)
 have H1 : Hid (Mm u0 [] ∧ Below w.heap.size w u0) := by rw [hu0]; exact H0
 clear hu0 H0
 refine zA (d := 1) (v := PT u0.heap.size 0) (w' := (u0.alloc (.cells (e1c : List Value).toArray 64))) rfl rfl rfl (ex_boxT rfl rfl) ?_
 simp only [Act.put, sa, sz, ss]
 have o_Js2 : Hid (w.heap.size ≤ u0.heap.size) := H1.out.2.size
 have H2 : Hid (Mm (u0.alloc (.cells (e1c : List Value).toArray 64)) ((u0.heap.size, e1c) :: []) ∧ Below w.heap.size w (u0.alloc (.cells (e1c : List Value).toArray 64))) := ⟨H1.out.1.alloc _ 64 rfl, H1.out.2.trans (((Below.refl _ _).alloc (Nat.le_refl _) _).mono H1.out.2.size)⟩
 clear H1
 generalize hgw : u0.alloc (.cells (e1c : List Value).toArray 64) = w2 at H2 ⊢
 clear hgw
 generalize u0.heap.size = Js2 at o_Js2 H2 ⊢
 refine zA (d := 2) (v := .slice none 0 0) (w' := w2) rfl rfl rfl (rfl) ?_
 simp only [Act.put, sa, sz, ss]
 refine zA (d := 3) (v := .int .i64 0) (w' := w2) rfl rfl rfl (rfl) ?_
 simp only [Act.put, sa, sz, ss]
 refine zC (zB ?_)
 refine wp_seq (wp_seq ?_)
 refine zD (l := [0, 1, 2]) rfl ?_
 refine zA (d := 12) (v := .agg (e1c).toArray) (w' := w2) rfl rfl rfl (ex_loadT H2.out.1 0 rfl rfl rfl Ai64 As64 rfl rfl) ?_
 simp only [Act.put, sa, sz, ss]
 refine zF (d := 13) (R := fun vv w' => vv = .int .i64 0 ∧ Below w2.heap.size w2 w') rfl rfl rfl (zG (args := #[.agg (e1c).toArray]) rfl call46 rfl (mpn rfl)) (Calls.mono (bounds_1 w2) (fun e w2 hh => ⟨_, hh.1, rfl, hh.2⟩)) ?_
 rintro _ w3 ⟨rfl, hb⟩
 have H3 : Hid (Mm w3 [(Js2, e1c)] ∧ Below w.heap.size w w3) := ⟨H2.out.1.below hb, H2.out.2.trans (hb.mono H2.out.2.size)⟩
 clear hb
 clear H2
 simp only [Act.put, sa, sz, ss]
 refine zA (d := 4) (v := .int .i64 0) (w' := w3) rfl rfl rfl (rfl) ?_
 simp only [Act.put, sa, sz, ss]
 refine zC (zB (wp_seq ?_))
 refine zD (l := [0, 1]) rfl ?_
 refine zA (d := 14) (v := .int .i64 0) (w' := w3) rfl rfl rfl (rfl) ?_
 simp only [Act.put, sa, sz, ss]
 refine zA (d := 15) (v := .bool false) (w' := w3) rfl rfl rfl (by kernel_rfl) ?_
 simp only [Act.put, sa, sz, ss]
 refine zC (zB ?_)
 refine wp_cond_false rfl (wp_skip ?_)
 refine zB (wp_seq ?_)
 refine zD (l := [0]) rfl ?_
 refine zA (d := 5) (v := PT w3.heap.size 0) (w' := (w3.alloc (.cells ([Value.slice none 0 0] : List Value).toArray 96))) rfl rfl rfl (ex_mk96 rfl) ?_
 simp only [Act.put, sa, sz, ss]
 have o_Js4 : Hid (w.heap.size ≤ w3.heap.size) := H3.out.2.size
 have H4 : Hid (Mm (w3.alloc (.cells ([Value.slice none 0 0] : List Value).toArray 96)) ((w3.heap.size, [Value.slice none 0 0]) :: [(Js2, e1c)]) ∧ Ow w [w3.heap.size, Js2] (.slice none 0 0) 0 (lb []) (w3.alloc (.cells ([Value.slice none 0 0] : List Value).toArray 96))) := ⟨H3.out.1.alloc _ 96 rfl, Ow.start (H3.out.2.trans (((Below.refl _ _).alloc (Nat.le_refl _) _).mono H3.out.2.size)) _ _⟩
 clear H3
 generalize hgw : w3.alloc (.cells ([Value.slice none 0 0] : List Value).toArray 96) = w4 at H4 ⊢
 clear hgw
 generalize w3.heap.size = Js4 at o_Js4 H4 ⊢
 refine zC (zB (wp_seq ?_))
 refine zD (l := [0, 1, 2, 3, 4, 5]) rfl ?_
 refine zA (d := 17) (v := PT Js2 0) (w' := w4) rfl rfl rfl (by go_simp) ?_
 simp only [Act.put, sa, sz, ss]
 refine zA (d := 18) (v := .int .i64 3) (w' := w4) rfl rfl rfl (zJ H4.out.1 1 rfl rfl rfl Ai3 rfl) ?_
 simp only [Act.put, sa, sz, ss]
 refine zA (d := 19) (v := PT Js2 1) (w' := w4) rfl rfl rfl (by go_simp) ?_
 simp only [Act.put, sa, sz, ss]
 refine zA (d := 20) (v := .int .i64 1) (w' := w4) rfl rfl rfl (zJ H4.out.1 1 rfl rfl rfl Ai3 rfl) ?_
 simp only [Act.put, sa, sz, ss]
 refine zA (d := 21) (v := .slice (some ⟨w4.heap.size, 0, none⟩) 2 2) (w' := (w4.alloc (.cells (zH .i64 (lb [3, 1]) 2 : List Value).toArray 3))) rfl rfl rfl (ex_bsI2 (a := 3) (b := 1) rfl rfl rfl) ?_
 simp only [Act.put, sa, sz, ss]
 have o_Js5 : Hid (w.heap.size ≤ w4.heap.size) := H4.out.2.size
 have H5 : Hid (Mm (w4.alloc (.cells (zH .i64 (lb [3, 1]) 2 : List Value).toArray 3)) ((w4.heap.size, zH .i64 (lb [3, 1]) 2) :: [(Js4, [Value.slice none 0 0]), (Js2, e1c)]) ∧ Ow w [w4.heap.size, Js4, Js2] (.slice none 0 0) 0 (lb []) (w4.alloc (.cells (zH .i64 (lb [3, 1]) 2 : List Value).toArray 3))) := ⟨H4.out.1.alloc _ 3 rfl, Ow.alloc H4.out.2 _⟩
 clear H4
 generalize hgw : w4.alloc (.cells (zH .i64 (lb [3, 1]) 2 : List Value).toArray 3) = w5 at H5 ⊢
 clear hgw
 generalize w4.heap.size = Js5 at o_Js5 H5 ⊢
 refine zF (d := 22) (R := fun vv w' => vv = .tuple #[] ∧ ∃ vv', Ow w [Js4, Js5, Js2] vv' 2 (ct (pbf (lb []) 0 (lb [3, 1]) 1) (0 + 1 * 2) (fun _ => 0)) w' ∧ Mm w' [(Js4, [vv']), (Js5, zH .i64 (lb [3, 1]) 2), (Js2, e1c)]) rfl rfl rfl (zG (args := #[PT Js4 0, .int .i64 1, .slice none 0 0, .slice (some ⟨Js5, 0, none⟩) 2 2]) rfl call43 rfl (mpn rfl)) (Calls.mono (put_any w Js4 Js5 [(Js2, e1c)] (.slice none 0 0) 0 (lb []) Pt8.no Pt8.no_ok (fun _ => rfl) (fun u _ => Pt8.no_rs u) (lb [3, 1]) 2 1 (by decide) (by decide) (by decide) (show 0 + 1 * 2 + 0 ≤ 2097152 from by decide) o_Js4.out w5 (H5.out.1.sel [1, 0, 2] (by decide) rfl) (H5.out.2.sub (L' := [Js4, Js5, Js2]) (by simp))) (fun e w2 hh => ⟨_, hh.1, rfl, hh.2⟩)) ?_
 rintro _ w6 ⟨rfl, v6, hO, hM⟩
 have H6 : Hid (Mm w6 [(Js4, [v6]), (Js2, e1c)] ∧ Ow w [Js4, Js2] v6 2 (lb [3, 1]) w6) := ⟨hM.sel [0, 2] (by decide) rfl, (hO.sub (L' := [Js4, Js2]) (by simp)).cg (show ∀ j, j < 2 → (ct (pbf (lb []) 0 (lb [3, 1]) 1) (0 + 1 * 2) (fun _ => 0)) j = (lb [3, 1]) j from by decide)⟩
 clear hO hM H5
 simp only [Act.put, sa, sz, ss]
 refine zC (zB ?_)
 refine wp_seq (wp_seq ?_)
 refine zD (l := [0, 1, 2, 3, 4, 5, 6, 7, 8]) rfl ?_
 refine zA (d := 23) (v := PT Js2 2) (w' := w6) rfl rfl rfl (by go_simp) ?_
 simp only [Act.put, sa, sz, ss]
 refine zA (d := 24) (v := .string ⟨#[97]⟩) (w' := w6) rfl rfl rfl (zJ H6.out.1 1 rfl rfl rfl Ai9 rfl) ?_
 simp only [Act.put, sa, sz, ss]
 refine zA (d := 25) (v := PT Js2 3) (w' := w6) rfl rfl rfl (by go_simp) ?_
 simp only [Act.put, sa, sz, ss]
 refine zA (d := 26) (v := .string ⟨#[]⟩) (w' := w6) rfl rfl rfl (zJ H6.out.1 1 rfl rfl rfl Ai9 rfl) ?_
 simp only [Act.put, sa, sz, ss]
 refine zA (d := 27) (v := PT Js2 4) (w' := w6) rfl rfl rfl (by go_simp) ?_
 simp only [Act.put, sa, sz, ss]
 refine zA (d := 28) (v := .string ⟨#[]⟩) (w' := w6) rfl rfl rfl (zJ H6.out.1 1 rfl rfl rfl Ai9 rfl) ?_
 simp only [Act.put, sa, sz, ss]
 refine zA (d := 29) (v := .slice (some ⟨w6.heap.size, 0, none⟩) 3 3) (w' := (w6.alloc (.cells ([Value.string ⟨#[97]⟩, Value.string ⟨#[]⟩, Value.string ⟨#[]⟩] : List Value).toArray 9))) rfl rfl rfl (ex_bs101_3 rfl rfl rfl rfl) ?_
 simp only [Act.put, sa, sz, ss]
 have o_Js7 : Hid (w.heap.size ≤ w6.heap.size) := H6.out.2.size
 have H7 : Hid (Mm (w6.alloc (.cells ([Value.string ⟨#[97]⟩, Value.string ⟨#[]⟩, Value.string ⟨#[]⟩] : List Value).toArray 9)) ((w6.heap.size, [Value.string ⟨#[97]⟩, Value.string ⟨#[]⟩, Value.string ⟨#[]⟩]) :: [(Js4, [v6]), (Js2, e1c)]) ∧ Ow w [w6.heap.size, Js4, Js2] v6 2 (lb [3, 1]) (w6.alloc (.cells ([Value.string ⟨#[97]⟩, Value.string ⟨#[]⟩, Value.string ⟨#[]⟩] : List Value).toArray 9))) := ⟨H6.out.1.alloc _ 9 rfl, Ow.alloc H6.out.2 _⟩
 clear H6
 generalize hgw : w6.alloc (.cells ([Value.string ⟨#[97]⟩, Value.string ⟨#[]⟩, Value.string ⟨#[]⟩] : List Value).toArray 9) = w7 at H7 ⊢
 clear hgw
 generalize w6.heap.size = Js7 at o_Js7 H7 ⊢
 refine zA (d := 30) (v := .int .i64 3) (w' := w7) rfl rfl rfl (by go_simp) ?_
 simp only [Act.put, sa, sz, ss]
 refine zA (d := 31) (v := .int .i64 0) (w' := w7) rfl rfl rfl (rfl) ?_
 simp only [Act.put, sa, sz, ss]
 refine zC (zB (wp_block ?_))
 refine wp_loop_rounds 4 ?_
 refine zU (n := 3) ?_
 refine wp_seq ?_
 refine zD (l := [0]) rfl ?_
 refine zA (d := 32) (v := .bool true) (w' := w7) rfl rfl rfl (by kernel_rfl) ?_
 simp only [Act.put, sa, sz, ss]
 refine zC (zB ?_)
 refine wp_seq (wp_cond_true rfl ?_)
 refine wp_skip (zB ?_)
 refine wp_seq (wp_block (wp_seq ?_))
 refine zD (l := [0, 1, 2]) rfl ?_
 refine zA (d := 33) (v := PT Js7 0) (w' := w7) rfl rfl rfl (by go_simp) ?_
 simp only [Act.put, sa, sz, ss]
 refine zA (d := 34) (v := .string ⟨#[97]⟩) (w' := w7) rfl rfl rfl (zJ H7.out.1 0 rfl rfl rfl Ai9 rfl) ?_
 simp only [Act.put, sa, sz, ss]
 refine zA (d := 7) (v := .string ⟨#[97]⟩) (w' := w7) rfl rfl rfl (rfl) ?_
 simp only [Act.put, sa, sz, ss]
 refine zC (zB ?_)
 refine zD (l := [0, 1, 2, 3, 4, 5]) rfl ?_
 refine zA (d := 35) (v := .string ⟨#[97]⟩) (w' := w7) rfl rfl rfl (rfl) ?_
 simp only [Act.put, sa, sz, ss]
 obtain ⟨cp8, ob, hr, hcp, hlt, hB⟩ := s2b w7 ⟨#[97]⟩ [Z8 97] (by kernel_rfl)
 refine zA (d := 36) (v := .slice (some ⟨w7.heap.size, 0, none⟩) 1 cp8) (w' := (w7.drew.alloc ob)) rfl rfl rfl (ex_s2b hr rfl rfl) ?_
 simp only [Act.put, sa, sz, ss]
 have o_Js8 : Hid (w.heap.size ≤ w7.heap.size) := H7.out.2.size
 have hc_Js8 : Hid _ := hcp
 have H8 : Hid (Mm (w7.drew.alloc ob) ((w7.heap.size, [Z8 97]) :: [(Js7, [Value.string ⟨#[97]⟩, Value.string ⟨#[]⟩, Value.string ⟨#[]⟩]), (Js4, [v6]), (Js2, e1c)]) ∧ Ow w [w7.heap.size, Js7, Js4, Js2] v6 2 (lb [3, 1]) (w7.drew.alloc ob)) := ⟨Mm.cons (H7.out.1.below (((Below.refl _ _).drew).alloc (Nat.le_refl _) _)) hB hlt (fun p hp => Nat.ne_of_lt (H7.out.1.blk p hp).1), Ow.alloc (Ow.step H7.out.2 ((Below.refl _ _).drew)) _⟩
 clear H7 hr hB hcp hlt
 generalize hgw : w7.drew.alloc ob = w8 at H8 ⊢
 clear hgw ob
 generalize w7.heap.size = Js8 at o_Js8 H8 ⊢
 refine zA (d := 37) (v := .string ⟨#[97]⟩) (w' := w8) rfl rfl rfl (rfl) ?_
 simp only [Act.put, sa, sz, ss]
 refine zA (d := 38) (v := .int .i64 1) (w' := w8) rfl rfl rfl (by kernel_rfl) ?_
 simp only [Act.put, sa, sz, ss]
 refine zA (d := 39) (v := .slice (some ⟨w8.heap.size, 0, none⟩) 1 1) (w' := (w8.alloc (.cells (zH .i64 (lb [1]) 1 : List Value).toArray 3))) rfl rfl rfl (ex_bsI1 (a := 1) rfl rfl) ?_
 simp only [Act.put, sa, sz, ss]
 have o_Js9 : Hid (w.heap.size ≤ w8.heap.size) := H8.out.2.size
 have H9 : Hid (Mm (w8.alloc (.cells (zH .i64 (lb [1]) 1 : List Value).toArray 3)) ((w8.heap.size, zH .i64 (lb [1]) 1) :: [(Js8, [Z8 97]), (Js7, [Value.string ⟨#[97]⟩, Value.string ⟨#[]⟩, Value.string ⟨#[]⟩]), (Js4, [v6]), (Js2, e1c)]) ∧ Ow w [w8.heap.size, Js8, Js7, Js4, Js2] v6 2 (lb [3, 1]) (w8.alloc (.cells (zH .i64 (lb [1]) 1 : List Value).toArray 3))) := ⟨H8.out.1.alloc _ 3 rfl, Ow.alloc H8.out.2 _⟩
 clear H8
 generalize hgw : w8.alloc (.cells (zH .i64 (lb [1]) 1 : List Value).toArray 3) = w9 at H9 ⊢
 clear hgw
 generalize w8.heap.size = Js9 at o_Js9 H9 ⊢
 refine zF (d := 40) (R := fun vv w' => vv = .tuple #[] ∧ ∃ vv', Ow w [Js4, Js9, Js8, Js7, Js2] vv' 4 (ct (pbf (lb [3, 1]) 2 (lb [1]) 1) (2 + 1 * 1) (lb [97])) w' ∧ Mm w' [(Js4, [vv']), (Js9, zH .i64 (lb [1]) 1), (Js8, [Z8 97]), (Js7, [Value.string ⟨#[97]⟩, Value.string ⟨#[]⟩, Value.string ⟨#[]⟩]), (Js2, e1c)]) rfl rfl rfl (zG (args := #[PT Js4 0, .int .i64 1, .slice (some ⟨Js8, 0, none⟩) 1 cp8, .slice (some ⟨Js9, 0, none⟩) 1 1]) rfl call43 rfl (mpn rfl)) (Calls.mono (put_any w Js4 Js9 [(Js8, [Z8 97]), (Js7, [Value.string ⟨#[97]⟩, Value.string ⟨#[]⟩, Value.string ⟨#[]⟩]), (Js2, e1c)] v6 2 (lb [3, 1]) (Pt8.at Js8 1 cp8 (lb [97])) (Pt8.at_ok _ _ _ _ (hc_Js8.out)) (fun e => by cases e) (fun u hu => Pt8.at_rs hu 0 rfl (fun i hi => by obtain rfl : i = 0 := (by omega); rfl)) (lb [1]) 1 1 (by decide) (by decide) (by decide) (show 2 + 1 * 1 + 1 ≤ 2097152 from by decide) o_Js4.out w9 (H9.out.1.sel [3, 0, 1, 2, 4] (by decide) rfl) (H9.out.2.sub (L' := [Js4, Js9, Js8, Js7, Js2]) (by simp))) (fun e w2 hh => ⟨_, hh.1, rfl, hh.2⟩)) ?_
 rintro _ w10 ⟨rfl, v10, hO, hM⟩
 have H10 : Hid (Mm w10 [(Js4, [v10]), (Js7, [Value.string ⟨#[97]⟩, Value.string ⟨#[]⟩, Value.string ⟨#[]⟩]), (Js2, e1c)] ∧ Ow w [Js4, Js7, Js2] v10 4 (lb [3, 1, 1, 97]) w10) := ⟨hM.sel [0, 3, 4] (by decide) rfl, (hO.sub (L' := [Js4, Js7, Js2]) (by simp)).cg (show ∀ j, j < 4 → (ct (pbf (lb [3, 1]) 2 (lb [1]) 1) (2 + 1 * 1) (lb [97])) j = (lb [3, 1, 1, 97]) j from by decide)⟩
 clear hO hM H9
 simp only [Act.put, sa, sz, ss]
 refine zC (zS (zB ?_))
 refine zD (l := [0, 1]) rfl ?_
 refine zA (d := 41) (v := .int .i64 1) (w' := w10) rfl rfl rfl (by kernel_rfl) ?_
 simp only [Act.put, sa, sz, ss]
 refine zA (d := 31) (v := .int .i64 1) (w' := w10) rfl rfl rfl (rfl) ?_
 simp only [Act.put, sa, sz, ss]
 refine zC (zB ?_)
 refine zU (n := 2) ?_
 refine wp_seq ?_
 refine zD (l := [0]) rfl ?_
 refine zA (d := 32) (v := .bool true) (w' := w10) rfl rfl rfl (by kernel_rfl) ?_
 simp only [Act.put, sa, sz, ss]
 refine zC (zB ?_)
 refine wp_seq (wp_cond_true rfl ?_)
 refine wp_skip (zB ?_)
 refine wp_seq (wp_block (wp_seq ?_))
 refine zD (l := [0, 1, 2]) rfl ?_
 refine zA (d := 33) (v := PT Js7 1) (w' := w10) rfl rfl rfl (by go_simp) ?_
 simp only [Act.put, sa, sz, ss]
 refine zA (d := 34) (v := .string ⟨#[]⟩) (w' := w10) rfl rfl rfl (zJ H10.out.1 1 rfl rfl rfl Ai9 rfl) ?_
 simp only [Act.put, sa, sz, ss]
 refine zA (d := 7) (v := .string ⟨#[]⟩) (w' := w10) rfl rfl rfl (rfl) ?_
 simp only [Act.put, sa, sz, ss]
 refine zC (zB ?_)
 refine zD (l := [0, 1, 2, 3, 4, 5]) rfl ?_
 refine zA (d := 35) (v := .string ⟨#[]⟩) (w' := w10) rfl rfl rfl (rfl) ?_
 simp only [Act.put, sa, sz, ss]
 obtain ⟨cp11, ob, hr, hcp, hlt, hB⟩ := s2b w10 ⟨#[]⟩ [] (by kernel_rfl)
 refine zA (d := 36) (v := .slice (some ⟨w10.heap.size, 0, none⟩) 0 cp11) (w' := (w10.drew.alloc ob)) rfl rfl rfl (ex_s2b hr rfl rfl) ?_
 simp only [Act.put, sa, sz, ss]
 have o_Js11 : Hid (w.heap.size ≤ w10.heap.size) := H10.out.2.size
 have hc_Js11 : Hid _ := hcp
 have H11 : Hid (Mm (w10.drew.alloc ob) ((w10.heap.size, []) :: [(Js4, [v10]), (Js7, [Value.string ⟨#[97]⟩, Value.string ⟨#[]⟩, Value.string ⟨#[]⟩]), (Js2, e1c)]) ∧ Ow w [w10.heap.size, Js4, Js7, Js2] v10 4 (lb [3, 1, 1, 97]) (w10.drew.alloc ob)) := ⟨Mm.cons (H10.out.1.below (((Below.refl _ _).drew).alloc (Nat.le_refl _) _)) hB hlt (fun p hp => Nat.ne_of_lt (H10.out.1.blk p hp).1), Ow.alloc (Ow.step H10.out.2 ((Below.refl _ _).drew)) _⟩
 clear H10 hr hB hcp hlt
 generalize hgw : w10.drew.alloc ob = w11 at H11 ⊢
 clear hgw ob
 generalize w10.heap.size = Js11 at o_Js11 H11 ⊢
 refine zA (d := 37) (v := .string ⟨#[]⟩) (w' := w11) rfl rfl rfl (rfl) ?_
 simp only [Act.put, sa, sz, ss]
 refine zA (d := 38) (v := .int .i64 0) (w' := w11) rfl rfl rfl (by kernel_rfl) ?_
 simp only [Act.put, sa, sz, ss]
 refine zA (d := 39) (v := .slice (some ⟨w11.heap.size, 0, none⟩) 1 1) (w' := (w11.alloc (.cells (zH .i64 (lb [0]) 1 : List Value).toArray 3))) rfl rfl rfl (ex_bsI1 (a := 0) rfl rfl) ?_
 simp only [Act.put, sa, sz, ss]
 have o_Js12 : Hid (w.heap.size ≤ w11.heap.size) := H11.out.2.size
 have H12 : Hid (Mm (w11.alloc (.cells (zH .i64 (lb [0]) 1 : List Value).toArray 3)) ((w11.heap.size, zH .i64 (lb [0]) 1) :: [(Js11, []), (Js4, [v10]), (Js7, [Value.string ⟨#[97]⟩, Value.string ⟨#[]⟩, Value.string ⟨#[]⟩]), (Js2, e1c)]) ∧ Ow w [w11.heap.size, Js11, Js4, Js7, Js2] v10 4 (lb [3, 1, 1, 97]) (w11.alloc (.cells (zH .i64 (lb [0]) 1 : List Value).toArray 3))) := ⟨H11.out.1.alloc _ 3 rfl, Ow.alloc H11.out.2 _⟩
 clear H11
 generalize hgw : w11.alloc (.cells (zH .i64 (lb [0]) 1 : List Value).toArray 3) = w12 at H12 ⊢
 clear hgw
 generalize w11.heap.size = Js12 at o_Js12 H12 ⊢
 refine zF (d := 40) (R := fun vv w' => vv = .tuple #[] ∧ ∃ vv', Ow w [Js4, Js12, Js11, Js7, Js2] vv' 5 (ct (pbf (lb [3, 1, 1, 97]) 4 (lb [0]) 1) (4 + 1 * 1) (lb [])) w' ∧ Mm w' [(Js4, [vv']), (Js12, zH .i64 (lb [0]) 1), (Js11, []), (Js7, [Value.string ⟨#[97]⟩, Value.string ⟨#[]⟩, Value.string ⟨#[]⟩]), (Js2, e1c)]) rfl rfl rfl (zG (args := #[PT Js4 0, .int .i64 1, .slice (some ⟨Js11, 0, none⟩) 0 cp11, .slice (some ⟨Js12, 0, none⟩) 1 1]) rfl call43 rfl (mpn rfl)) (Calls.mono (put_any w Js4 Js12 [(Js11, []), (Js7, [Value.string ⟨#[97]⟩, Value.string ⟨#[]⟩, Value.string ⟨#[]⟩]), (Js2, e1c)] v10 4 (lb [3, 1, 1, 97]) (Pt8.at Js11 0 cp11 (lb [])) (Pt8.at_ok _ _ _ _ (hc_Js11.out)) (fun e => by cases e) (fun u hu => Pt8.at_rs hu 0 rfl (fun i hi => absurd hi (Nat.not_lt_zero _))) (lb [0]) 1 1 (by decide) (by decide) (by decide) (show 4 + 1 * 1 + 0 ≤ 2097152 from by decide) o_Js4.out w12 (H12.out.1.sel [2, 0, 1, 3, 4] (by decide) rfl) (H12.out.2.sub (L' := [Js4, Js12, Js11, Js7, Js2]) (by simp))) (fun e w2 hh => ⟨_, hh.1, rfl, hh.2⟩)) ?_
 rintro _ w13 ⟨rfl, v13, hO, hM⟩
 have H13 : Hid (Mm w13 [(Js4, [v13]), (Js7, [Value.string ⟨#[97]⟩, Value.string ⟨#[]⟩, Value.string ⟨#[]⟩]), (Js2, e1c)] ∧ Ow w [Js4, Js7, Js2] v13 5 (lb [3, 1, 1, 97, 0]) w13) := ⟨hM.sel [0, 3, 4] (by decide) rfl, (hO.sub (L' := [Js4, Js7, Js2]) (by simp)).cg (show ∀ j, j < 5 → (ct (pbf (lb [3, 1, 1, 97]) 4 (lb [0]) 1) (4 + 1 * 1) (lb [])) j = (lb [3, 1, 1, 97, 0]) j from by decide)⟩
 clear hO hM H12
 simp only [Act.put, sa, sz, ss]
 refine zC (zS (zB ?_))
 refine zD (l := [0, 1]) rfl ?_
 refine zA (d := 41) (v := .int .i64 2) (w' := w13) rfl rfl rfl (by kernel_rfl) ?_
 simp only [Act.put, sa, sz, ss]
 refine zA (d := 31) (v := .int .i64 2) (w' := w13) rfl rfl rfl (rfl) ?_
 simp only [Act.put, sa, sz, ss]
 refine zC (zB ?_)
 refine zU (n := 1) ?_
 refine wp_seq ?_
 refine zD (l := [0]) rfl ?_
 refine zA (d := 32) (v := .bool true) (w' := w13) rfl rfl rfl (by kernel_rfl) ?_
 simp only [Act.put, sa, sz, ss]
 refine zC (zB ?_)
 refine wp_seq (wp_cond_true rfl ?_)
 refine wp_skip (zB ?_)
 refine wp_seq (wp_block (wp_seq ?_))
 refine zD (l := [0, 1, 2]) rfl ?_
 refine zA (d := 33) (v := PT Js7 2) (w' := w13) rfl rfl rfl (by go_simp) ?_
 simp only [Act.put, sa, sz, ss]
 refine zA (d := 34) (v := .string ⟨#[]⟩) (w' := w13) rfl rfl rfl (zJ H13.out.1 1 rfl rfl rfl Ai9 rfl) ?_
 simp only [Act.put, sa, sz, ss]
 refine zA (d := 7) (v := .string ⟨#[]⟩) (w' := w13) rfl rfl rfl (rfl) ?_
 simp only [Act.put, sa, sz, ss]
 refine zC (zB ?_)
 refine zD (l := [0, 1, 2, 3, 4, 5]) rfl ?_
 refine zA (d := 35) (v := .string ⟨#[]⟩) (w' := w13) rfl rfl rfl (rfl) ?_
 simp only [Act.put, sa, sz, ss]
 obtain ⟨cp14, ob, hr, hcp, hlt, hB⟩ := s2b w13 ⟨#[]⟩ [] (by kernel_rfl)
 refine zA (d := 36) (v := .slice (some ⟨w13.heap.size, 0, none⟩) 0 cp14) (w' := (w13.drew.alloc ob)) rfl rfl rfl (ex_s2b hr rfl rfl) ?_
 simp only [Act.put, sa, sz, ss]
 have o_Js14 : Hid (w.heap.size ≤ w13.heap.size) := H13.out.2.size
 have hc_Js14 : Hid _ := hcp
 have H14 : Hid (Mm (w13.drew.alloc ob) ((w13.heap.size, []) :: [(Js4, [v13]), (Js7, [Value.string ⟨#[97]⟩, Value.string ⟨#[]⟩, Value.string ⟨#[]⟩]), (Js2, e1c)]) ∧ Ow w [w13.heap.size, Js4, Js7, Js2] v13 5 (lb [3, 1, 1, 97, 0]) (w13.drew.alloc ob)) := ⟨Mm.cons (H13.out.1.below (((Below.refl _ _).drew).alloc (Nat.le_refl _) _)) hB hlt (fun p hp => Nat.ne_of_lt (H13.out.1.blk p hp).1), Ow.alloc (Ow.step H13.out.2 ((Below.refl _ _).drew)) _⟩
 clear H13 hr hB hcp hlt
 generalize hgw : w13.drew.alloc ob = w14 at H14 ⊢
 clear hgw ob
 generalize w13.heap.size = Js14 at o_Js14 H14 ⊢
 refine zA (d := 37) (v := .string ⟨#[]⟩) (w' := w14) rfl rfl rfl (rfl) ?_
 simp only [Act.put, sa, sz, ss]
 refine zA (d := 38) (v := .int .i64 0) (w' := w14) rfl rfl rfl (by kernel_rfl) ?_
 simp only [Act.put, sa, sz, ss]
 refine zA (d := 39) (v := .slice (some ⟨w14.heap.size, 0, none⟩) 1 1) (w' := (w14.alloc (.cells (zH .i64 (lb [0]) 1 : List Value).toArray 3))) rfl rfl rfl (ex_bsI1 (a := 0) rfl rfl) ?_
 simp only [Act.put, sa, sz, ss]
 have o_Js15 : Hid (w.heap.size ≤ w14.heap.size) := H14.out.2.size
 have H15 : Hid (Mm (w14.alloc (.cells (zH .i64 (lb [0]) 1 : List Value).toArray 3)) ((w14.heap.size, zH .i64 (lb [0]) 1) :: [(Js14, []), (Js4, [v13]), (Js7, [Value.string ⟨#[97]⟩, Value.string ⟨#[]⟩, Value.string ⟨#[]⟩]), (Js2, e1c)]) ∧ Ow w [w14.heap.size, Js14, Js4, Js7, Js2] v13 5 (lb [3, 1, 1, 97, 0]) (w14.alloc (.cells (zH .i64 (lb [0]) 1 : List Value).toArray 3))) := ⟨H14.out.1.alloc _ 3 rfl, Ow.alloc H14.out.2 _⟩
 clear H14
 generalize hgw : w14.alloc (.cells (zH .i64 (lb [0]) 1 : List Value).toArray 3) = w15 at H15 ⊢
 clear hgw
 generalize w14.heap.size = Js15 at o_Js15 H15 ⊢
 refine zF (d := 40) (R := fun vv w' => vv = .tuple #[] ∧ ∃ vv', Ow w [Js4, Js15, Js14, Js7, Js2] vv' 6 (ct (pbf (lb [3, 1, 1, 97, 0]) 5 (lb [0]) 1) (5 + 1 * 1) (lb [])) w' ∧ Mm w' [(Js4, [vv']), (Js15, zH .i64 (lb [0]) 1), (Js14, []), (Js7, [Value.string ⟨#[97]⟩, Value.string ⟨#[]⟩, Value.string ⟨#[]⟩]), (Js2, e1c)]) rfl rfl rfl (zG (args := #[PT Js4 0, .int .i64 1, .slice (some ⟨Js14, 0, none⟩) 0 cp14, .slice (some ⟨Js15, 0, none⟩) 1 1]) rfl call43 rfl (mpn rfl)) (Calls.mono (put_any w Js4 Js15 [(Js14, []), (Js7, [Value.string ⟨#[97]⟩, Value.string ⟨#[]⟩, Value.string ⟨#[]⟩]), (Js2, e1c)] v13 5 (lb [3, 1, 1, 97, 0]) (Pt8.at Js14 0 cp14 (lb [])) (Pt8.at_ok _ _ _ _ (hc_Js14.out)) (fun e => by cases e) (fun u hu => Pt8.at_rs hu 0 rfl (fun i hi => absurd hi (Nat.not_lt_zero _))) (lb [0]) 1 1 (by decide) (by decide) (by decide) (show 5 + 1 * 1 + 0 ≤ 2097152 from by decide) o_Js4.out w15 (H15.out.1.sel [2, 0, 1, 3, 4] (by decide) rfl) (H15.out.2.sub (L' := [Js4, Js15, Js14, Js7, Js2]) (by simp))) (fun e w2 hh => ⟨_, hh.1, rfl, hh.2⟩)) ?_
 rintro _ w16 ⟨rfl, v16, hO, hM⟩
 have H16 : Hid (Mm w16 [(Js4, [v16]), (Js7, [Value.string ⟨#[97]⟩, Value.string ⟨#[]⟩, Value.string ⟨#[]⟩]), (Js2, e1c)] ∧ Ow w [Js4, Js7, Js2] v16 6 (lb [3, 1, 1, 97, 0, 0]) w16) := ⟨hM.sel [0, 3, 4] (by decide) rfl, (hO.sub (L' := [Js4, Js7, Js2]) (by simp)).cg (show ∀ j, j < 6 → (ct (pbf (lb [3, 1, 1, 97, 0]) 5 (lb [0]) 1) (5 + 1 * 1) (lb [])) j = (lb [3, 1, 1, 97, 0, 0]) j from by decide)⟩
 clear hO hM H15
 simp only [Act.put, sa, sz, ss]
 refine zC (zS (zB ?_))
 refine zD (l := [0, 1]) rfl ?_
 refine zA (d := 41) (v := .int .i64 3) (w' := w16) rfl rfl rfl (by kernel_rfl) ?_
 simp only [Act.put, sa, sz, ss]
 refine zA (d := 31) (v := .int .i64 3) (w' := w16) rfl rfl rfl (rfl) ?_
 simp only [Act.put, sa, sz, ss]
 refine zC (zB ?_)
 refine zU (n := 0) ?_
 refine wp_seq ?_
 refine zD (l := [0]) rfl ?_
 refine zA (d := 32) (v := .bool false) (w' := w16) rfl rfl rfl (by kernel_rfl) ?_
 simp only [Act.put, sa, sz, ss]
 refine zC (zB ?_)
 refine wp_seq (wp_cond_false rfl ?_)
 refine wp_exit ?_
 repeat refine zX ?_
 refine zT ?_
 refine zB (wp_seq ?_)
 refine zD (l := [0, 1, 2, 3, 4, 5, 6]) rfl ?_
 refine zA (d := 42) (v := PT Js2 5) (w' := w16) rfl rfl rfl (by go_simp) ?_
 simp only [Act.put, sa, sz, ss]
 refine zA (d := 43) (v := .slice none 0 0) (w' := w16) rfl rfl rfl (zJ H16.out.1 2 rfl rfl rfl Ai51 rfl) ?_
 simp only [Act.put, sa, sz, ss]
 refine zA (d := 44) (v := PT Js2 5) (w' := w16) rfl rfl rfl (by go_simp) ?_
 simp only [Act.put, sa, sz, ss]
 refine zA (d := 45) (v := .slice none 0 0) (w' := w16) rfl rfl rfl (zJ H16.out.1 2 rfl rfl rfl Ai51 rfl) ?_
 simp only [Act.put, sa, sz, ss]
 refine zA (d := 46) (v := .int .i64 0) (w' := w16) rfl rfl rfl (by go_simp) ?_
 simp only [Act.put, sa, sz, ss]
 refine zA (d := 47) (v := .slice (some ⟨w16.heap.size, 0, none⟩) 1 1) (w' := (w16.alloc (.cells (zH .i64 (lb [0]) 1 : List Value).toArray 3))) rfl rfl rfl (ex_bsI1 (a := 0) rfl rfl) ?_
 simp only [Act.put, sa, sz, ss]
 have o_Js17 : Hid (w.heap.size ≤ w16.heap.size) := H16.out.2.size
 have H17 : Hid (Mm (w16.alloc (.cells (zH .i64 (lb [0]) 1 : List Value).toArray 3)) ((w16.heap.size, zH .i64 (lb [0]) 1) :: [(Js4, [v16]), (Js7, [Value.string ⟨#[97]⟩, Value.string ⟨#[]⟩, Value.string ⟨#[]⟩]), (Js2, e1c)]) ∧ Ow w [w16.heap.size, Js4, Js7, Js2] v16 6 (lb [3, 1, 1, 97, 0, 0]) (w16.alloc (.cells (zH .i64 (lb [0]) 1 : List Value).toArray 3))) := ⟨H16.out.1.alloc _ 3 rfl, Ow.alloc H16.out.2 _⟩
 clear H16
 generalize hgw : w16.alloc (.cells (zH .i64 (lb [0]) 1 : List Value).toArray 3) = w17 at H17 ⊢
 clear hgw
 generalize w16.heap.size = Js17 at o_Js17 H17 ⊢
 refine zF (d := 48) (R := fun vv w' => vv = .tuple #[] ∧ ∃ vv', Ow w [Js4, Js17, Js7, Js2] vv' 8 (ct (pbf (lb [3, 1, 1, 97, 0, 0]) 6 (lb [0]) 2) (6 + 2 * 1) (fun _ => 0)) w' ∧ Mm w' [(Js4, [vv']), (Js17, zH .i64 (lb [0]) 1), (Js7, [Value.string ⟨#[97]⟩, Value.string ⟨#[]⟩, Value.string ⟨#[]⟩]), (Js2, e1c)]) rfl rfl rfl (zG (args := #[PT Js4 0, .int .i64 2, .slice none 0 0, .slice (some ⟨Js17, 0, none⟩) 1 1]) rfl call43 rfl (mpn rfl)) (Calls.mono (put_any w Js4 Js17 [(Js7, [Value.string ⟨#[97]⟩, Value.string ⟨#[]⟩, Value.string ⟨#[]⟩]), (Js2, e1c)] v16 6 (lb [3, 1, 1, 97, 0, 0]) Pt8.no Pt8.no_ok (fun _ => rfl) (fun u _ => Pt8.no_rs u) (lb [0]) 1 2 (by decide) (by decide) (by decide) (show 6 + 2 * 1 + 0 ≤ 2097152 from by decide) o_Js4.out w17 (H17.out.1.sel [1, 0, 2, 3] (by decide) rfl) (H17.out.2.sub (L' := [Js4, Js17, Js7, Js2]) (by simp))) (fun e w2 hh => ⟨_, hh.1, rfl, hh.2⟩)) ?_
 rintro _ w18 ⟨rfl, v18, hO, hM⟩
 have H18 : Hid (Mm w18 [(Js4, [v18]), (Js7, [Value.string ⟨#[97]⟩, Value.string ⟨#[]⟩, Value.string ⟨#[]⟩]), (Js2, e1c)] ∧ Ow w [Js4, Js7, Js2] v18 8 (lb [3, 1, 1, 97, 0, 0, 0, 0]) w18) := ⟨hM.sel [0, 2, 3] (by decide) rfl, (hO.sub (L' := [Js4, Js7, Js2]) (by simp)).cg (show ∀ j, j < 8 → (ct (pbf (lb [3, 1, 1, 97, 0, 0]) 6 (lb [0]) 2) (6 + 2 * 1) (fun _ => 0)) j = (lb [3, 1, 1, 97, 0, 0, 0, 0]) j from by decide)⟩
 clear hO hM H17
 simp only [Act.put, sa, sz, ss]
 refine zC (zB (wp_seq ?_))
 refine zD (l := [0, 1, 2, 3, 4]) rfl ?_
 refine zA (d := 49) (v := PT Js2 6) (w' := w18) rfl rfl rfl (by go_simp) ?_
 simp only [Act.put, sa, sz, ss]
 refine zA (d := 50) (v := .slice none 0 0) (w' := w18) rfl rfl rfl (zJ H18.out.1 2 rfl rfl rfl Ai59 rfl) ?_
 simp only [Act.put, sa, sz, ss]
 refine zA (d := 51) (v := .int .i64 0) (w' := w18) rfl rfl rfl (by go_simp) ?_
 simp only [Act.put, sa, sz, ss]
 refine zA (d := 52) (v := .slice (some ⟨w18.heap.size, 0, none⟩) 1 1) (w' := (w18.alloc (.cells (zH .i64 (lb [0]) 1 : List Value).toArray 3))) rfl rfl rfl (ex_bsI1 (a := 0) rfl rfl) ?_
 simp only [Act.put, sa, sz, ss]
 have o_Js19 : Hid (w.heap.size ≤ w18.heap.size) := H18.out.2.size
 have H19 : Hid (Mm (w18.alloc (.cells (zH .i64 (lb [0]) 1 : List Value).toArray 3)) ((w18.heap.size, zH .i64 (lb [0]) 1) :: [(Js4, [v18]), (Js7, [Value.string ⟨#[97]⟩, Value.string ⟨#[]⟩, Value.string ⟨#[]⟩]), (Js2, e1c)]) ∧ Ow w [w18.heap.size, Js4, Js7, Js2] v18 8 (lb [3, 1, 1, 97, 0, 0, 0, 0]) (w18.alloc (.cells (zH .i64 (lb [0]) 1 : List Value).toArray 3))) := ⟨H18.out.1.alloc _ 3 rfl, Ow.alloc H18.out.2 _⟩
 clear H18
 generalize hgw : w18.alloc (.cells (zH .i64 (lb [0]) 1 : List Value).toArray 3) = w19 at H19 ⊢
 clear hgw
 generalize w18.heap.size = Js19 at o_Js19 H19 ⊢
 refine zF (d := 53) (R := fun vv w' => vv = .tuple #[] ∧ ∃ vv', Ow w [Js4, Js19, Js7, Js2] vv' 9 (ct (pbf (lb [3, 1, 1, 97, 0, 0, 0, 0]) 8 (lb [0]) 1) (8 + 1 * 1) (fun _ => 0)) w' ∧ Mm w' [(Js4, [vv']), (Js19, zH .i64 (lb [0]) 1), (Js7, [Value.string ⟨#[97]⟩, Value.string ⟨#[]⟩, Value.string ⟨#[]⟩]), (Js2, e1c)]) rfl rfl rfl (zG (args := #[PT Js4 0, .int .i64 1, .slice none 0 0, .slice (some ⟨Js19, 0, none⟩) 1 1]) rfl call43 rfl (mpn rfl)) (Calls.mono (put_any w Js4 Js19 [(Js7, [Value.string ⟨#[97]⟩, Value.string ⟨#[]⟩, Value.string ⟨#[]⟩]), (Js2, e1c)] v18 8 (lb [3, 1, 1, 97, 0, 0, 0, 0]) Pt8.no Pt8.no_ok (fun _ => rfl) (fun u _ => Pt8.no_rs u) (lb [0]) 1 1 (by decide) (by decide) (by decide) (show 8 + 1 * 1 + 0 ≤ 2097152 from by decide) o_Js4.out w19 (H19.out.1.sel [1, 0, 2, 3] (by decide) rfl) (H19.out.2.sub (L' := [Js4, Js19, Js7, Js2]) (by simp))) (fun e w2 hh => ⟨_, hh.1, rfl, hh.2⟩)) ?_
 rintro _ w20 ⟨rfl, v20, hO, hM⟩
 have H20 : Hid (Mm w20 [(Js4, [v20]), (Js7, [Value.string ⟨#[97]⟩, Value.string ⟨#[]⟩, Value.string ⟨#[]⟩]), (Js2, e1c)] ∧ Ow w [Js4, Js7, Js2] v20 9 (lb [3, 1, 1, 97, 0, 0, 0, 0, 0]) w20) := ⟨hM.sel [0, 2, 3] (by decide) rfl, (hO.sub (L' := [Js4, Js7, Js2]) (by simp)).cg (show ∀ j, j < 9 → (ct (pbf (lb [3, 1, 1, 97, 0, 0, 0, 0]) 8 (lb [0]) 1) (8 + 1 * 1) (fun _ => 0)) j = (lb [3, 1, 1, 97, 0, 0, 0, 0, 0]) j from by decide)⟩
 clear hO hM H19
 simp only [Act.put, sa, sz, ss]
 refine zC (zB (wp_seq ?_))
 refine zD (l := [0, 1, 2]) rfl ?_
 refine zA (d := 54) (v := PT Js2 6) (w' := w20) rfl rfl rfl (by go_simp) ?_
 simp only [Act.put, sa, sz, ss]
 refine zA (d := 55) (v := .slice none 0 0) (w' := w20) rfl rfl rfl (zJ H20.out.1 2 rfl rfl rfl Ai59 rfl) ?_
 simp only [Act.put, sa, sz, ss]
 refine zF (d := 56) (R := fun vv w' => vv = .tuple #[] ∧ ∃ vv', Ow w [Js4, Js7, Js2] vv' 9 (ct (lb [3, 1, 1, 97, 0, 0, 0, 0, 0]) 9 (fun _ => 0)) w' ∧ Mm w' [(Js4, [vv']), (Js7, [Value.string ⟨#[97]⟩, Value.string ⟨#[]⟩, Value.string ⟨#[]⟩]), (Js2, e1c)]) rfl rfl rfl (zG (args := #[PT Js4 0, .int .i64 4, .slice none 0 0, .slice none 0 0]) rfl call43 rfl (mpn rfl)) (Calls.mono (put_none w Js4 [(Js7, [Value.string ⟨#[97]⟩, Value.string ⟨#[]⟩, Value.string ⟨#[]⟩]), (Js2, e1c)] v20 9 (lb [3, 1, 1, 97, 0, 0, 0, 0, 0]) Pt8.no Pt8.no_ok (fun _ => rfl) (fun u _ => Pt8.no_rs u) 4 (show 9 + 0 ≤ 2097152 from by decide) o_Js4.out w20 (H20.out.1.sel [0, 1, 2] (by decide) rfl) (H20.out.2.sub (L' := [Js4, Js7, Js2]) (by simp))) (fun e w2 hh => ⟨_, hh.1, rfl, hh.2⟩)) ?_
 rintro _ w21 ⟨rfl, v21, hO, hM⟩
 have H21 : Hid (Mm w21 [(Js4, [v21]), (Js7, [Value.string ⟨#[97]⟩, Value.string ⟨#[]⟩, Value.string ⟨#[]⟩]), (Js2, e1c)] ∧ Ow w [Js4, Js7, Js2] v21 9 (lb [3, 1, 1, 97, 0, 0, 0, 0, 0]) w21) := ⟨hM, hO.cg (show ∀ j, j < 9 → (ct (lb [3, 1, 1, 97, 0, 0, 0, 0, 0]) 9 (fun _ => 0)) j = (lb [3, 1, 1, 97, 0, 0, 0, 0, 0]) j from by decide)⟩
 clear hO hM H20
 simp only [Act.put, sa, sz, ss]
 refine zC (zB (wp_seq ?_))
 refine zD (l := [0, 1, 2, 3]) rfl ?_
 refine zA (d := 57) (v := PT Js2 7) (w' := w21) rfl rfl rfl (by go_simp) ?_
 simp only [Act.put, sa, sz, ss]
 refine zA (d := 58) (v := .int .i64 0) (w' := w21) rfl rfl rfl (zJ H21.out.1 2 rfl rfl rfl Ai28 rfl) ?_
 simp only [Act.put, sa, sz, ss]
 refine zA (d := 59) (v := .slice (some ⟨w21.heap.size, 0, none⟩) 1 1) (w' := (w21.alloc (.cells (zH .i64 (lb [0]) 1 : List Value).toArray 3))) rfl rfl rfl (ex_bsI1 (a := 0) rfl rfl) ?_
 simp only [Act.put, sa, sz, ss]
 have o_Js22 : Hid (w.heap.size ≤ w21.heap.size) := H21.out.2.size
 have H22 : Hid (Mm (w21.alloc (.cells (zH .i64 (lb [0]) 1 : List Value).toArray 3)) ((w21.heap.size, zH .i64 (lb [0]) 1) :: [(Js4, [v21]), (Js7, [Value.string ⟨#[97]⟩, Value.string ⟨#[]⟩, Value.string ⟨#[]⟩]), (Js2, e1c)]) ∧ Ow w [w21.heap.size, Js4, Js7, Js2] v21 9 (lb [3, 1, 1, 97, 0, 0, 0, 0, 0]) (w21.alloc (.cells (zH .i64 (lb [0]) 1 : List Value).toArray 3))) := ⟨H21.out.1.alloc _ 3 rfl, Ow.alloc H21.out.2 _⟩
 clear H21
 generalize hgw : w21.alloc (.cells (zH .i64 (lb [0]) 1 : List Value).toArray 3) = w22 at H22 ⊢
 clear hgw
 generalize w21.heap.size = Js22 at o_Js22 H22 ⊢
 refine zF (d := 60) (R := fun vv w' => vv = .tuple #[] ∧ ∃ vv', Ow w [Js4, Js22, Js7, Js2] vv' 10 (ct (pbf (lb [3, 1, 1, 97, 0, 0, 0, 0, 0]) 9 (lb [0]) 1) (9 + 1 * 1) (fun _ => 0)) w' ∧ Mm w' [(Js4, [vv']), (Js22, zH .i64 (lb [0]) 1), (Js7, [Value.string ⟨#[97]⟩, Value.string ⟨#[]⟩, Value.string ⟨#[]⟩]), (Js2, e1c)]) rfl rfl rfl (zG (args := #[PT Js4 0, .int .i64 1, .slice none 0 0, .slice (some ⟨Js22, 0, none⟩) 1 1]) rfl call43 rfl (mpn rfl)) (Calls.mono (put_any w Js4 Js22 [(Js7, [Value.string ⟨#[97]⟩, Value.string ⟨#[]⟩, Value.string ⟨#[]⟩]), (Js2, e1c)] v21 9 (lb [3, 1, 1, 97, 0, 0, 0, 0, 0]) Pt8.no Pt8.no_ok (fun _ => rfl) (fun u _ => Pt8.no_rs u) (lb [0]) 1 1 (by decide) (by decide) (by decide) (show 9 + 1 * 1 + 0 ≤ 2097152 from by decide) o_Js4.out w22 (H22.out.1.sel [1, 0, 2, 3] (by decide) rfl) (H22.out.2.sub (L' := [Js4, Js22, Js7, Js2]) (by simp))) (fun e w2 hh => ⟨_, hh.1, rfl, hh.2⟩)) ?_
 rintro _ w23 ⟨rfl, v23, hO, hM⟩
 have H23 : Hid (Mm w23 [(Js4, [v23]), (Js7, [Value.string ⟨#[97]⟩, Value.string ⟨#[]⟩, Value.string ⟨#[]⟩]), (Js2, e1c)] ∧ Ow w [Js4, Js7, Js2] v23 10 (lb [3, 1, 1, 97, 0, 0, 0, 0, 0, 0]) w23) := ⟨hM.sel [0, 2, 3] (by decide) rfl, (hO.sub (L' := [Js4, Js7, Js2]) (by simp)).cg (show ∀ j, j < 10 → (ct (pbf (lb [3, 1, 1, 97, 0, 0, 0, 0, 0]) 9 (lb [0]) 1) (9 + 1 * 1) (fun _ => 0)) j = (lb [3, 1, 1, 97, 0, 0, 0, 0, 0, 0]) j from by decide)⟩
 clear hO hM H22
 simp only [Act.put, sa, sz, ss]
 refine zC (zB (wp_seq ?_))
 refine zD (l := [0, 1, 2, 3, 4]) rfl ?_
 refine zA (d := 61) (v := PT Js2 8) (w' := w23) rfl rfl rfl (by go_simp) ?_
 simp only [Act.put, sa, sz, ss]
 refine zA (d := 62) (v := .slice none 0 0) (w' := w23) rfl rfl rfl (zJ H23.out.1 2 rfl rfl rfl Ai60 rfl) ?_
 simp only [Act.put, sa, sz, ss]
 refine zA (d := 63) (v := .int .i64 0) (w' := w23) rfl rfl rfl (by go_simp) ?_
 simp only [Act.put, sa, sz, ss]
 refine zA (d := 64) (v := .slice (some ⟨w23.heap.size, 0, none⟩) 1 1) (w' := (w23.alloc (.cells (zH .i64 (lb [0]) 1 : List Value).toArray 3))) rfl rfl rfl (ex_bsI1 (a := 0) rfl rfl) ?_
 simp only [Act.put, sa, sz, ss]
 have o_Js24 : Hid (w.heap.size ≤ w23.heap.size) := H23.out.2.size
 have H24 : Hid (Mm (w23.alloc (.cells (zH .i64 (lb [0]) 1 : List Value).toArray 3)) ((w23.heap.size, zH .i64 (lb [0]) 1) :: [(Js4, [v23]), (Js7, [Value.string ⟨#[97]⟩, Value.string ⟨#[]⟩, Value.string ⟨#[]⟩]), (Js2, e1c)]) ∧ Ow w [w23.heap.size, Js4, Js7, Js2] v23 10 (lb [3, 1, 1, 97, 0, 0, 0, 0, 0, 0]) (w23.alloc (.cells (zH .i64 (lb [0]) 1 : List Value).toArray 3))) := ⟨H23.out.1.alloc _ 3 rfl, Ow.alloc H23.out.2 _⟩
 clear H23
 generalize hgw : w23.alloc (.cells (zH .i64 (lb [0]) 1 : List Value).toArray 3) = w24 at H24 ⊢
 clear hgw
 generalize w23.heap.size = Js24 at o_Js24 H24 ⊢
 refine zF (d := 65) (R := fun vv w' => vv = .tuple #[] ∧ ∃ vv', Ow w [Js4, Js24, Js7, Js2] vv' 11 (ct (pbf (lb [3, 1, 1, 97, 0, 0, 0, 0, 0, 0]) 10 (lb [0]) 1) (10 + 1 * 1) (fun _ => 0)) w' ∧ Mm w' [(Js4, [vv']), (Js24, zH .i64 (lb [0]) 1), (Js7, [Value.string ⟨#[97]⟩, Value.string ⟨#[]⟩, Value.string ⟨#[]⟩]), (Js2, e1c)]) rfl rfl rfl (zG (args := #[PT Js4 0, .int .i64 1, .slice none 0 0, .slice (some ⟨Js24, 0, none⟩) 1 1]) rfl call43 rfl (mpn rfl)) (Calls.mono (put_any w Js4 Js24 [(Js7, [Value.string ⟨#[97]⟩, Value.string ⟨#[]⟩, Value.string ⟨#[]⟩]), (Js2, e1c)] v23 10 (lb [3, 1, 1, 97, 0, 0, 0, 0, 0, 0]) Pt8.no Pt8.no_ok (fun _ => rfl) (fun u _ => Pt8.no_rs u) (lb [0]) 1 1 (by decide) (by decide) (by decide) (show 10 + 1 * 1 + 0 ≤ 2097152 from by decide) o_Js4.out w24 (H24.out.1.sel [1, 0, 2, 3] (by decide) rfl) (H24.out.2.sub (L' := [Js4, Js24, Js7, Js2]) (by simp))) (fun e w2 hh => ⟨_, hh.1, rfl, hh.2⟩)) ?_
 rintro _ w25 ⟨rfl, v25, hO, hM⟩
 have H25 : Hid (Mm w25 [(Js4, [v25]), (Js7, [Value.string ⟨#[97]⟩, Value.string ⟨#[]⟩, Value.string ⟨#[]⟩]), (Js2, e1c)] ∧ Ow w [Js4, Js7, Js2] v25 11 (lb [3, 1, 1, 97, 0, 0, 0, 0, 0, 0, 0]) w25) := ⟨hM.sel [0, 2, 3] (by decide) rfl, (hO.sub (L' := [Js4, Js7, Js2]) (by simp)).cg (show ∀ j, j < 11 → (ct (pbf (lb [3, 1, 1, 97, 0, 0, 0, 0, 0, 0]) 10 (lb [0]) 1) (10 + 1 * 1) (fun _ => 0)) j = (lb [3, 1, 1, 97, 0, 0, 0, 0, 0, 0, 0]) j from by decide)⟩
 clear hO hM H24
 simp only [Act.put, sa, sz, ss]
 refine zC (zB ?_)
 refine wp_seq (wp_seq ?_)
 refine zD (l := [0, 1, 2, 3]) rfl ?_
 refine zA (d := 66) (v := PT Js2 8) (w' := w25) rfl rfl rfl (by go_simp) ?_
 simp only [Act.put, sa, sz, ss]
 refine zA (d := 67) (v := .slice none 0 0) (w' := w25) rfl rfl rfl (zJ H25.out.1 2 rfl rfl rfl Ai60 rfl) ?_
 simp only [Act.put, sa, sz, ss]
 refine zA (d := 68) (v := .int .i64 0) (w' := w25) rfl rfl rfl (by go_simp) ?_
 simp only [Act.put, sa, sz, ss]
 refine zA (d := 69) (v := .int .i64 0) (w' := w25) rfl rfl rfl (rfl) ?_
 simp only [Act.put, sa, sz, ss]
 refine zC (zB (wp_block ?_))
 refine wp_loop_rounds 4 ?_
 refine zU (n := 3) ?_
 refine wp_seq ?_
 refine zD (l := [0]) rfl ?_
 refine zA (d := 70) (v := .bool false) (w' := w25) rfl rfl rfl (by kernel_rfl) ?_
 simp only [Act.put, sa, sz, ss]
 refine zC (zB ?_)
 refine wp_seq (wp_cond_false rfl ?_)
 refine wp_exit ?_
 repeat refine zX ?_
 refine zT ?_
 refine zB (wp_seq ?_)
 refine zD (l := [0, 1, 2, 3, 4]) rfl ?_
 refine zA (d := 89) (v := PT Js2 9) (w' := w25) rfl rfl rfl (by go_simp) ?_
 simp only [Act.put, sa, sz, ss]
 refine zA (d := 90) (v := .slice none 0 0) (w' := w25) rfl rfl rfl (zJ H25.out.1 2 rfl rfl rfl Ai61 rfl) ?_
 simp only [Act.put, sa, sz, ss]
 refine zA (d := 91) (v := .func (.func 51) #[] #[PT Js2 0]) (w' := w25) rfl rfl rfl (by kernel_rfl) ?_
 simp only [Act.put, sa, sz, ss]
 refine zF (d := 92) (R := fun vv w' => vv = .int .i64 0 ∧ ∃ vv', Ow w [Js4, Js7, Js2] vv' 12 (ct (pbf (lb [3, 1, 1, 97, 0, 0, 0, 0, 0, 0, 0]) 11 (lb [0]) 1) (11 + 1 * 1) (fun _ => 0)) w' ∧ Mm w' [(Js4, [vv']), (Js7, [Value.string ⟨#[97]⟩, Value.string ⟨#[]⟩, Value.string ⟨#[]⟩]), (Js2, e1c)]) rfl rfl rfl (zG (args := #[PT Js4 0, .slice none 0 0, .func (.func 50) #[] #[], .func (.func 51) #[] #[PT Js2 0]]) rfl call49 rfl (mpn rfl)) (Calls.mono (pointsK_nil w Js4 (.func (.func 50) #[] #[]) (.func (.func 51) #[] #[PT Js2 0]) [(Js7, [Value.string ⟨#[97]⟩, Value.string ⟨#[]⟩, Value.string ⟨#[]⟩]), (Js2, e1c)] v25 11 (lb [3, 1, 1, 97, 0, 0, 0, 0, 0, 0, 0]) (by decide) o_Js4.out w25 (H25.out.1.sel [0, 1, 2] (by decide) rfl) (H25.out.2.sub (L' := [Js4, Js7, Js2]) (by simp))) (fun e w2 hh => ⟨_, hh.1, rfl, hh.2⟩)) ?_
 rintro _ w26 ⟨rfl, v26, hO, hM⟩
 have H26 : Hid (Mm w26 [(Js4, [v26]), (Js7, [Value.string ⟨#[97]⟩, Value.string ⟨#[]⟩, Value.string ⟨#[]⟩]), (Js2, e1c)] ∧ Ow w [Js4, Js7, Js2] v26 12 (lb [3, 1, 1, 97, 0, 0, 0, 0, 0, 0, 0, 0]) w26) := ⟨hM, hO.cg (P' := (lb [3, 1, 1, 97, 0, 0, 0, 0, 0, 0, 0, 0])) (show ∀ j, j < 12 → (ct (pbf (lb [3, 1, 1, 97, 0, 0, 0, 0, 0, 0, 0]) 11 (lb [0]) 1) (11 + 1 * 1) (fun _ => 0)) j = (lb [3, 1, 1, 97, 0, 0, 0, 0, 0, 0, 0, 0]) j from by decide)⟩
 clear hO hM H25
 simp only [Act.put, sa, sz, ss]
 refine zA (d := 11) (v := .int .i64 0) (w' := w26) rfl rfl rfl (rfl) ?_
 simp only [Act.put, sa, sz, ss]
 refine zC (zB ?_)
 refine wp_seq (wp_seq ?_)
 refine zD (l := [0, 1]) rfl ?_
 refine zA (d := 93) (v := .int .i64 0) (w' := w26) rfl rfl rfl (rfl) ?_
 simp only [Act.put, sa, sz, ss]
 refine zA (d := 94) (v := .bool false) (w' := w26) rfl rfl rfl (by kernel_rfl) ?_
 simp only [Act.put, sa, sz, ss]
 refine zC (zB ?_)
 refine wp_cond_false rfl (wp_skip ?_)
 refine zB (wp_seq ?_)
 refine zD (l := [0, 1, 2, 3, 4]) rfl ?_
 refine zA (d := 96) (v := PT Js2 10) (w' := w26) rfl rfl rfl (by go_simp) ?_
 simp only [Act.put, sa, sz, ss]
 refine zA (d := 97) (v := .slice none 0 0) (w' := w26) rfl rfl rfl (zJ H26.out.1 2 rfl rfl rfl Ai62 rfl) ?_
 simp only [Act.put, sa, sz, ss]
 refine zA (d := 98) (v := .func (.func 54) #[] #[PT Js2 0]) (w' := w26) rfl rfl rfl (by kernel_rfl) ?_
 simp only [Act.put, sa, sz, ss]
 refine zF (d := 99) (R := fun vv w' => vv = .int .i64 0 ∧ ∃ vv', Ow w [Js4, Js7, Js2] vv' 13 (ct (pbf (lb [3, 1, 1, 97, 0, 0, 0, 0, 0, 0, 0, 0]) 12 (lb [0]) 1) (12 + 1 * 1) (fun _ => 0)) w' ∧ Mm w' [(Js4, [vv']), (Js7, [Value.string ⟨#[97]⟩, Value.string ⟨#[]⟩, Value.string ⟨#[]⟩]), (Js2, e1c)]) rfl rfl rfl (zG (args := #[PT Js4 0, .slice none 0 0, .func (.func 53) #[] #[], .func (.func 54) #[] #[PT Js2 0]]) rfl call52 rfl (mpn rfl)) (Calls.mono (pointsS_nil w Js4 (.func (.func 53) #[] #[]) (.func (.func 54) #[] #[PT Js2 0]) [(Js7, [Value.string ⟨#[97]⟩, Value.string ⟨#[]⟩, Value.string ⟨#[]⟩]), (Js2, e1c)] v26 12 (lb [3, 1, 1, 97, 0, 0, 0, 0, 0, 0, 0, 0]) (by decide) o_Js4.out w26 (H26.out.1.sel [0, 1, 2] (by decide) rfl) (H26.out.2.sub (L' := [Js4, Js7, Js2]) (by simp))) (fun e w2 hh => ⟨_, hh.1, rfl, hh.2⟩)) ?_
 rintro _ w27 ⟨rfl, v27, hO, hM⟩
 have H27 : Hid (Mm w27 [(Js4, [v27]), (Js7, [Value.string ⟨#[97]⟩, Value.string ⟨#[]⟩, Value.string ⟨#[]⟩]), (Js2, e1c)] ∧ Ow w [Js4, Js7, Js2] v27 13 (lb [3, 1, 1, 97, 0, 0, 0, 0, 0, 0, 0, 0, 0]) w27) := ⟨hM, hO.cg (P' := (lb [3, 1, 1, 97, 0, 0, 0, 0, 0, 0, 0, 0, 0])) (show ∀ j, j < 13 → (ct (pbf (lb [3, 1, 1, 97, 0, 0, 0, 0, 0, 0, 0, 0]) 12 (lb [0]) 1) (12 + 1 * 1) (fun _ => 0)) j = (lb [3, 1, 1, 97, 0, 0, 0, 0, 0, 0, 0, 0, 0]) j from by decide)⟩
 clear hO hM H26
 simp only [Act.put, sa, sz, ss]
 refine zA (d := 11) (v := .int .i64 0) (w' := w27) rfl rfl rfl (rfl) ?_
 simp only [Act.put, sa, sz, ss]
 refine zC (zB ?_)
 refine wp_seq (wp_seq ?_)
 refine zD (l := [0, 1]) rfl ?_
 refine zA (d := 100) (v := .int .i64 0) (w' := w27) rfl rfl rfl (rfl) ?_
 simp only [Act.put, sa, sz, ss]
 refine zA (d := 101) (v := .bool false) (w' := w27) rfl rfl rfl (by kernel_rfl) ?_
 simp only [Act.put, sa, sz, ss]
 refine zC (zB ?_)
 refine wp_cond_false rfl (wp_skip ?_)
 refine zB (wp_seq ?_)
 refine zD (l := [0, 1, 2, 3]) rfl ?_
 refine zA (d := 103) (v := PT Js4 0) (w' := w27) rfl rfl rfl (by go_simp) ?_
 simp only [Act.put, sa, sz, ss]
 refine zA (d := 104) (v := v27) (w' := w27) rfl rfl rfl (zJ H27.out.1 0 rfl rfl rfl Ai51 rfl) ?_
 simp only [Act.put, sa, sz, ss]
 refine zA (d := 2) (v := v27) (w' := w27) rfl rfl rfl (rfl) ?_
 simp only [Act.put, sa, sz, ss]
 refine zA (d := 3) (v := .int .i64 0) (w' := w27) rfl rfl rfl (rfl) ?_
 simp only [Act.put, sa, sz, ss]
 refine zC (zB (wp_ret ?_))
 repeat (first | refine zL ?_ | refine zK ?_)
 refine bodyPost_ret (v := .tuple #[v27, .int .i64 0]) (by simp [results, Tryz.results19, go_sem, *]) rfl ?_
 obtain ⟨g, x, hv, h1, h2, h3⟩ := H27.out.2.fin (by decide)
 exact ⟨H27.out.2.b, g, x, by rw [hv], h1, h2, h3⟩
set_option maxHeartbeats 4000000 in
theorem Entry_2  (w : World) :
  Calls Tryz.prog 19 #[.agg ([Value.int .i64 256, Value.int .i64 0, Value.string ⟨#[]⟩, Value.string ⟨#[]⟩, Value.string ⟨#[]⟩, Value.slice none 0 0, Value.slice none 0 0, Value.int .i64 0, Value.slice none 0 0, Value.slice none 0 0, Value.slice none 0 0]).toArray] w (Rt w (.tuple #[.slice none 0 0, .int .i64 2])) := by
 have H0 : Hid (_ ∧ _) := ⟨Mm.nil w, Below.refl w.heap.size w⟩
 go_enter Tryz.func19, Tryz.ntmps19
 refine wp_seq ?_
 refine zN (l := [0, 1, 2]) rfl (fun u0 hu0 => ?_)
 have H1 : Hid (Mm u0 [] ∧ Below w.heap.size w u0) := by rw [hu0]; exact H0
 clear hu0 H0
 refine zA (d := 1) (v := PT u0.heap.size 0) (w' := (u0.alloc (.cells ([Value.int .i64 256, Value.int .i64 0, Value.string ⟨#[]⟩, Value.string ⟨#[]⟩, Value.string ⟨#[]⟩, Value.slice none 0 0, Value.slice none 0 0, Value.int .i64 0, Value.slice none 0 0, Value.slice none 0 0, Value.slice none 0 0] : List Value).toArray 64))) rfl rfl rfl (ex_boxT rfl rfl) ?_
 simp only [Act.put, sa, sz, ss]
 have o_Js2 : Hid (w.heap.size ≤ u0.heap.size) := H1.out.2.size
 have H2 : Hid (Mm (u0.alloc (.cells ([Value.int .i64 256, Value.int .i64 0, Value.string ⟨#[]⟩, Value.string ⟨#[]⟩, Value.string ⟨#[]⟩, Value.slice none 0 0, Value.slice none 0 0, Value.int .i64 0, Value.slice none 0 0, Value.slice none 0 0, Value.slice none 0 0] : List Value).toArray 64)) ((u0.heap.size, [Value.int .i64 256, Value.int .i64 0, Value.string ⟨#[]⟩, Value.string ⟨#[]⟩, Value.string ⟨#[]⟩, Value.slice none 0 0, Value.slice none 0 0, Value.int .i64 0, Value.slice none 0 0, Value.slice none 0 0, Value.slice none 0 0]) :: []) ∧ Below w.heap.size w (u0.alloc (.cells ([Value.int .i64 256, Value.int .i64 0, Value.string ⟨#[]⟩, Value.string ⟨#[]⟩, Value.string ⟨#[]⟩, Value.slice none 0 0, Value.slice none 0 0, Value.int .i64 0, Value.slice none 0 0, Value.slice none 0 0, Value.slice none 0 0] : List Value).toArray 64))) := ⟨H1.out.1.alloc _ 64 rfl, H1.out.2.trans (((Below.refl _ _).alloc (Nat.le_refl _) _).mono H1.out.2.size)⟩
 clear H1
 generalize hgw : u0.alloc (.cells ([Value.int .i64 256, Value.int .i64 0, Value.string ⟨#[]⟩, Value.string ⟨#[]⟩, Value.string ⟨#[]⟩, Value.slice none 0 0, Value.slice none 0 0, Value.int .i64 0, Value.slice none 0 0, Value.slice none 0 0, Value.slice none 0 0] : List Value).toArray 64) = w2 at H2 ⊢
 clear hgw
 generalize u0.heap.size = Js2 at o_Js2 H2 ⊢
 refine zA (d := 2) (v := .slice none 0 0) (w' := w2) rfl rfl rfl (rfl) ?_
 simp only [Act.put, sa, sz, ss]
 refine zA (d := 3) (v := .int .i64 0) (w' := w2) rfl rfl rfl (rfl) ?_
 simp only [Act.put, sa, sz, ss]
 refine zC (zB ?_)
 refine wp_seq (wp_seq ?_)
 refine zD (l := [0, 1, 2]) rfl ?_
 refine zA (d := 12) (v := .agg ([Value.int .i64 256, Value.int .i64 0, Value.string ⟨#[]⟩, Value.string ⟨#[]⟩, Value.string ⟨#[]⟩, Value.slice none 0 0, Value.slice none 0 0, Value.int .i64 0, Value.slice none 0 0, Value.slice none 0 0, Value.slice none 0 0]).toArray) (w' := w2) rfl rfl rfl (ex_loadT H2.out.1 0 rfl rfl rfl Ai64 As64 rfl rfl) ?_
 simp only [Act.put, sa, sz, ss]
 refine zF (d := 13) (R := fun vv w' => vv = .int .i64 2 ∧ Below w2.heap.size w2 w') rfl rfl rfl (zG (args := #[.agg ([Value.int .i64 256, Value.int .i64 0, Value.string ⟨#[]⟩, Value.string ⟨#[]⟩, Value.string ⟨#[]⟩, Value.slice none 0 0, Value.slice none 0 0, Value.int .i64 0, Value.slice none 0 0, Value.slice none 0 0, Value.slice none 0 0]).toArray]) rfl call46 rfl (mpn rfl)) (Calls.mono (bounds_2 w2) (fun e w2 hh => ⟨_, hh.1, rfl, hh.2⟩)) ?_
 rintro _ w3 ⟨rfl, hb⟩
 have H3 : Hid (Mm w3 [(Js2, [Value.int .i64 256, Value.int .i64 0, Value.string ⟨#[]⟩, Value.string ⟨#[]⟩, Value.string ⟨#[]⟩, Value.slice none 0 0, Value.slice none 0 0, Value.int .i64 0, Value.slice none 0 0, Value.slice none 0 0, Value.slice none 0 0])] ∧ Below w.heap.size w w3) := ⟨H2.out.1.below hb, H2.out.2.trans (hb.mono H2.out.2.size)⟩
 clear hb
 clear H2
 simp only [Act.put, sa, sz, ss]
 refine zA (d := 4) (v := .int .i64 2) (w' := w3) rfl rfl rfl (rfl) ?_
 simp only [Act.put, sa, sz, ss]
 refine zC (zB (wp_seq ?_))
 refine zD (l := [0, 1]) rfl ?_
 refine zA (d := 14) (v := .int .i64 2) (w' := w3) rfl rfl rfl (rfl) ?_
 simp only [Act.put, sa, sz, ss]
 refine zA (d := 15) (v := .bool true) (w' := w3) rfl rfl rfl (by kernel_rfl) ?_
 simp only [Act.put, sa, sz, ss]
 refine zC (zB ?_)
 refine wp_cond_true rfl (wp_seq ?_)
 refine zD (l := [0, 1, 2]) rfl ?_
 refine zA (d := 16) (v := .int .i64 2) (w' := w3) rfl rfl rfl (rfl) ?_
 simp only [Act.put, sa, sz, ss]
 refine zA (d := 2) (v := .slice none 0 0) (w' := w3) rfl rfl rfl (rfl) ?_
 simp only [Act.put, sa, sz, ss]
 refine zA (d := 3) (v := .int .i64 2) (w' := w3) rfl rfl rfl (rfl) ?_
 simp only [Act.put, sa, sz, ss]
 refine zC (zB (wp_ret ?_))
 repeat (first | refine zL ?_ | refine zK ?_)
 refine bodyPost_ret (v := .tuple #[.slice none 0 0, .int .i64 2]) (by simp [results, Tryz.results19, go_sem, *]) rfl ?_
 exact ⟨rfl, H3.out.2⟩
set_option maxHeartbeats 4000000 in
theorem Entry_3  (w : World) :
  Calls Tryz.prog 19 #[.agg ([Value.int .i64 0, Value.int .i64 0, Value.string ⟨#[]⟩, Value.string ⟨#[]⟩, Value.string ⟨#[]⟩, Value.slice none 0 0, Value.slice none 0 0, Value.int .i64 3, Value.slice none 0 0, Value.slice none 0 0, Value.slice none 0 0]).toArray] w (Rt w (.tuple #[.slice none 0 0, .int .i64 2])) := by
 have H0 : Hid (_ ∧ _) := ⟨Mm.nil w, Below.refl w.heap.size w⟩
 go_enter Tryz.func19, Tryz.ntmps19
 refine wp_seq ?_
 refine zN (l := [0, 1, 2]) rfl (fun u0 hu0 => ?_)
 have H1 : Hid (Mm u0 [] ∧ Below w.heap.size w u0) := by rw [hu0]; exact H0
 clear hu0 H0
 refine zA (d := 1) (v := PT u0.heap.size 0) (w' := (u0.alloc (.cells ([Value.int .i64 0, Value.int .i64 0, Value.string ⟨#[]⟩, Value.string ⟨#[]⟩, Value.string ⟨#[]⟩, Value.slice none 0 0, Value.slice none 0 0, Value.int .i64 3, Value.slice none 0 0, Value.slice none 0 0, Value.slice none 0 0] : List Value).toArray 64))) rfl rfl rfl (ex_boxT rfl rfl) ?_
 simp only [Act.put, sa, sz, ss]
 have o_Js2 : Hid (w.heap.size ≤ u0.heap.size) := H1.out.2.size
 have H2 : Hid (Mm (u0.alloc (.cells ([Value.int .i64 0, Value.int .i64 0, Value.string ⟨#[]⟩, Value.string ⟨#[]⟩, Value.string ⟨#[]⟩, Value.slice none 0 0, Value.slice none 0 0, Value.int .i64 3, Value.slice none 0 0, Value.slice none 0 0, Value.slice none 0 0] : List Value).toArray 64)) ((u0.heap.size, [Value.int .i64 0, Value.int .i64 0, Value.string ⟨#[]⟩, Value.string ⟨#[]⟩, Value.string ⟨#[]⟩, Value.slice none 0 0, Value.slice none 0 0, Value.int .i64 3, Value.slice none 0 0, Value.slice none 0 0, Value.slice none 0 0]) :: []) ∧ Below w.heap.size w (u0.alloc (.cells ([Value.int .i64 0, Value.int .i64 0, Value.string ⟨#[]⟩, Value.string ⟨#[]⟩, Value.string ⟨#[]⟩, Value.slice none 0 0, Value.slice none 0 0, Value.int .i64 3, Value.slice none 0 0, Value.slice none 0 0, Value.slice none 0 0] : List Value).toArray 64))) := ⟨H1.out.1.alloc _ 64 rfl, H1.out.2.trans (((Below.refl _ _).alloc (Nat.le_refl _) _).mono H1.out.2.size)⟩
 clear H1
 generalize hgw : u0.alloc (.cells ([Value.int .i64 0, Value.int .i64 0, Value.string ⟨#[]⟩, Value.string ⟨#[]⟩, Value.string ⟨#[]⟩, Value.slice none 0 0, Value.slice none 0 0, Value.int .i64 3, Value.slice none 0 0, Value.slice none 0 0, Value.slice none 0 0] : List Value).toArray 64) = w2 at H2 ⊢
 clear hgw
 generalize u0.heap.size = Js2 at o_Js2 H2 ⊢
 refine zA (d := 2) (v := .slice none 0 0) (w' := w2) rfl rfl rfl (rfl) ?_
 simp only [Act.put, sa, sz, ss]
 refine zA (d := 3) (v := .int .i64 0) (w' := w2) rfl rfl rfl (rfl) ?_
 simp only [Act.put, sa, sz, ss]
 refine zC (zB ?_)
 refine wp_seq (wp_seq ?_)
 refine zD (l := [0, 1, 2]) rfl ?_
 refine zA (d := 12) (v := .agg ([Value.int .i64 0, Value.int .i64 0, Value.string ⟨#[]⟩, Value.string ⟨#[]⟩, Value.string ⟨#[]⟩, Value.slice none 0 0, Value.slice none 0 0, Value.int .i64 3, Value.slice none 0 0, Value.slice none 0 0, Value.slice none 0 0]).toArray) (w' := w2) rfl rfl rfl (ex_loadT H2.out.1 0 rfl rfl rfl Ai64 As64 rfl rfl) ?_
 simp only [Act.put, sa, sz, ss]
 refine zF (d := 13) (R := fun vv w' => vv = .int .i64 2 ∧ Below w2.heap.size w2 w') rfl rfl rfl (zG (args := #[.agg ([Value.int .i64 0, Value.int .i64 0, Value.string ⟨#[]⟩, Value.string ⟨#[]⟩, Value.string ⟨#[]⟩, Value.slice none 0 0, Value.slice none 0 0, Value.int .i64 3, Value.slice none 0 0, Value.slice none 0 0, Value.slice none 0 0]).toArray]) rfl call46 rfl (mpn rfl)) (Calls.mono (bounds_3 w2) (fun e w2 hh => ⟨_, hh.1, rfl, hh.2⟩)) ?_
 rintro _ w3 ⟨rfl, hb⟩
 have H3 : Hid (Mm w3 [(Js2, [Value.int .i64 0, Value.int .i64 0, Value.string ⟨#[]⟩, Value.string ⟨#[]⟩, Value.string ⟨#[]⟩, Value.slice none 0 0, Value.slice none 0 0, Value.int .i64 3, Value.slice none 0 0, Value.slice none 0 0, Value.slice none 0 0])] ∧ Below w.heap.size w w3) := ⟨H2.out.1.below hb, H2.out.2.trans (hb.mono H2.out.2.size)⟩
 clear hb
 clear H2
 simp only [Act.put, sa, sz, ss]
 refine zA (d := 4) (v := .int .i64 2) (w' := w3) rfl rfl rfl (rfl) ?_
 simp only [Act.put, sa, sz, ss]
 refine zC (zB (wp_seq ?_))
 refine zD (l := [0, 1]) rfl ?_
 refine zA (d := 14) (v := .int .i64 2) (w' := w3) rfl rfl rfl (rfl) ?_
 simp only [Act.put, sa, sz, ss]
 refine zA (d := 15) (v := .bool true) (w' := w3) rfl rfl rfl (by kernel_rfl) ?_
 simp only [Act.put, sa, sz, ss]
 refine zC (zB ?_)
 refine wp_cond_true rfl (wp_seq ?_)
 refine zD (l := [0, 1, 2]) rfl ?_
 refine zA (d := 16) (v := .int .i64 2) (w' := w3) rfl rfl rfl (rfl) ?_
 simp only [Act.put, sa, sz, ss]
 refine zA (d := 2) (v := .slice none 0 0) (w' := w3) rfl rfl rfl (rfl) ?_
 simp only [Act.put, sa, sz, ss]
 refine zA (d := 3) (v := .int .i64 2) (w' := w3) rfl rfl rfl (rfl) ?_
 simp only [Act.put, sa, sz, ss]
 refine zC (zB (wp_ret ?_))
 repeat (first | refine zL ?_ | refine zK ?_)
 refine bodyPost_ret (v := .tuple #[.slice none 0 0, .int .i64 2]) (by simp [results, Tryz.results19, go_sem, *]) rfl ?_
 exact ⟨rfl, H3.out.2⟩
set_option maxHeartbeats 4000000 in
theorem Entry_4 (gn : Nat) (w : World) (hm : Mm w [(gn, zE 65521)]) :
  Calls Tryz.prog 19 #[.agg ([Value.int .i64 0, Value.int .i64 0, Value.string ⟨#[]⟩, Value.string ⟨#[]⟩, Value.string ⟨#[]⟩, Value.slice none 0 0, Value.slice none 0 0, Value.int .i64 1, Value.slice (some ⟨gn, 0, none⟩) 1 1, Value.slice none 0 0, Value.slice none 0 0]).toArray] w (Rt w (.tuple #[.slice none 0 0, .int .i64 2])) := by
 have H0 : Hid (_ ∧ _) := ⟨hm, Below.refl w.heap.size w⟩
 clear hm
 go_enter Tryz.func19, Tryz.ntmps19
 refine wp_seq ?_
 refine zN (l := [0, 1, 2]) rfl (fun u0 hu0 => ?_)
 have H1 : Hid (Mm u0 [(gn, zE 65521)] ∧ Below w.heap.size w u0) := by rw [hu0]; exact H0
 clear hu0 H0
 refine zA (d := 1) (v := PT u0.heap.size 0) (w' := (u0.alloc (.cells ([Value.int .i64 0, Value.int .i64 0, Value.string ⟨#[]⟩, Value.string ⟨#[]⟩, Value.string ⟨#[]⟩, Value.slice none 0 0, Value.slice none 0 0, Value.int .i64 1, Value.slice (some ⟨gn, 0, none⟩) 1 1, Value.slice none 0 0, Value.slice none 0 0] : List Value).toArray 64))) rfl rfl rfl (ex_boxT rfl rfl) ?_
 simp only [Act.put, sa, sz, ss]
 have o_Js2 : Hid (w.heap.size ≤ u0.heap.size) := H1.out.2.size
 have H2 : Hid (Mm (u0.alloc (.cells ([Value.int .i64 0, Value.int .i64 0, Value.string ⟨#[]⟩, Value.string ⟨#[]⟩, Value.string ⟨#[]⟩, Value.slice none 0 0, Value.slice none 0 0, Value.int .i64 1, Value.slice (some ⟨gn, 0, none⟩) 1 1, Value.slice none 0 0, Value.slice none 0 0] : List Value).toArray 64)) ((u0.heap.size, [Value.int .i64 0, Value.int .i64 0, Value.string ⟨#[]⟩, Value.string ⟨#[]⟩, Value.string ⟨#[]⟩, Value.slice none 0 0, Value.slice none 0 0, Value.int .i64 1, Value.slice (some ⟨gn, 0, none⟩) 1 1, Value.slice none 0 0, Value.slice none 0 0]) :: [(gn, zE 65521)]) ∧ Below w.heap.size w (u0.alloc (.cells ([Value.int .i64 0, Value.int .i64 0, Value.string ⟨#[]⟩, Value.string ⟨#[]⟩, Value.string ⟨#[]⟩, Value.slice none 0 0, Value.slice none 0 0, Value.int .i64 1, Value.slice (some ⟨gn, 0, none⟩) 1 1, Value.slice none 0 0, Value.slice none 0 0] : List Value).toArray 64))) := ⟨H1.out.1.alloc _ 64 rfl, H1.out.2.trans (((Below.refl _ _).alloc (Nat.le_refl _) _).mono H1.out.2.size)⟩
 clear H1
 generalize hgw : u0.alloc (.cells ([Value.int .i64 0, Value.int .i64 0, Value.string ⟨#[]⟩, Value.string ⟨#[]⟩, Value.string ⟨#[]⟩, Value.slice none 0 0, Value.slice none 0 0, Value.int .i64 1, Value.slice (some ⟨gn, 0, none⟩) 1 1, Value.slice none 0 0, Value.slice none 0 0] : List Value).toArray 64) = w2 at H2 ⊢
 clear hgw
 generalize u0.heap.size = Js2 at o_Js2 H2 ⊢
 refine zA (d := 2) (v := .slice none 0 0) (w' := w2) rfl rfl rfl (rfl) ?_
 simp only [Act.put, sa, sz, ss]
 refine zA (d := 3) (v := .int .i64 0) (w' := w2) rfl rfl rfl (rfl) ?_
 simp only [Act.put, sa, sz, ss]
 refine zC (zB ?_)
 refine wp_seq (wp_seq ?_)
 refine zD (l := [0, 1, 2]) rfl ?_
 refine zA (d := 12) (v := .agg ([Value.int .i64 0, Value.int .i64 0, Value.string ⟨#[]⟩, Value.string ⟨#[]⟩, Value.string ⟨#[]⟩, Value.slice none 0 0, Value.slice none 0 0, Value.int .i64 1, Value.slice (some ⟨gn, 0, none⟩) 1 1, Value.slice none 0 0, Value.slice none 0 0]).toArray) (w' := w2) rfl rfl rfl (ex_loadT H2.out.1 0 rfl rfl rfl Ai64 As64 rfl rfl) ?_
 simp only [Act.put, sa, sz, ss]
 refine zF (d := 13) (R := fun vv w' => vv = .int .i64 2 ∧ Below w2.heap.size w2 w') rfl rfl rfl (zG (args := #[.agg ([Value.int .i64 0, Value.int .i64 0, Value.string ⟨#[]⟩, Value.string ⟨#[]⟩, Value.string ⟨#[]⟩, Value.slice none 0 0, Value.slice none 0 0, Value.int .i64 1, Value.slice (some ⟨gn, 0, none⟩) 1 1, Value.slice none 0 0, Value.slice none 0 0]).toArray]) rfl call46 rfl (mpn rfl)) (Calls.mono (bounds_4 gn w2 (H2.out.1.one 1 rfl)) (fun e w2 hh => ⟨_, hh.1, rfl, hh.2⟩)) ?_
 rintro _ w3 ⟨rfl, hb⟩
 have H3 : Hid (Mm w3 [(Js2, [Value.int .i64 0, Value.int .i64 0, Value.string ⟨#[]⟩, Value.string ⟨#[]⟩, Value.string ⟨#[]⟩, Value.slice none 0 0, Value.slice none 0 0, Value.int .i64 1, Value.slice (some ⟨gn, 0, none⟩) 1 1, Value.slice none 0 0, Value.slice none 0 0]), (gn, zE 65521)] ∧ Below w.heap.size w w3) := ⟨H2.out.1.below hb, H2.out.2.trans (hb.mono H2.out.2.size)⟩
 clear hb
 clear H2
 simp only [Act.put, sa, sz, ss]
 refine zA (d := 4) (v := .int .i64 2) (w' := w3) rfl rfl rfl (rfl) ?_
 simp only [Act.put, sa, sz, ss]
 refine zC (zB (wp_seq ?_))
 refine zD (l := [0, 1]) rfl ?_
 refine zA (d := 14) (v := .int .i64 2) (w' := w3) rfl rfl rfl (rfl) ?_
 simp only [Act.put, sa, sz, ss]
 refine zA (d := 15) (v := .bool true) (w' := w3) rfl rfl rfl (by kernel_rfl) ?_
 simp only [Act.put, sa, sz, ss]
 refine zC (zB ?_)
 refine wp_cond_true rfl (wp_seq ?_)
 refine zD (l := [0, 1, 2]) rfl ?_
 refine zA (d := 16) (v := .int .i64 2) (w' := w3) rfl rfl rfl (rfl) ?_
 simp only [Act.put, sa, sz, ss]
 refine zA (d := 2) (v := .slice none 0 0) (w' := w3) rfl rfl rfl (rfl) ?_
 simp only [Act.put, sa, sz, ss]
 refine zA (d := 3) (v := .int .i64 2) (w' := w3) rfl rfl rfl (rfl) ?_
 simp only [Act.put, sa, sz, ss]
 refine zC (zB (wp_ret ?_))
 repeat (first | refine zL ?_ | refine zK ?_)
 refine bodyPost_ret (v := .tuple #[.slice none 0 0, .int .i64 2]) (by simp [results, Tryz.results19, go_sem, *]) rfl ?_
 exact ⟨rfl, H3.out.2⟩
set_option maxHeartbeats 8000000 in
theorem Entry_5 (gk : Nat) (w : World) (hm : Mm w [(gk, zkc), (0, dtab)]) :
  Calls Tryz.prog 19 #[.agg ([Value.int .i64 0, Value.int .i64 0, Value.string ⟨#[]⟩, Value.string ⟨#[]⟩, Value.string ⟨#[]⟩, Value.slice none 0 0, Value.slice none 0 0, Value.int .i64 0, Value.slice none 0 0, Value.slice (some ⟨gk, 0, none⟩) 1 1, Value.slice none 0 0]).toArray] w (Rt w (.tuple #[.slice none 0 0, .int .i64 5])) := by
 have H0 : Hid (_ ∧ _) := ⟨hm, Below.refl w.heap.size w⟩
 clear hm
 go_enter Tryz.func19, Tryz.ntmps19
 refine wp_seq ?_
 refine zN (l := [0, 1, 2]) rfl (fun u0 hu0 => ?_)
 have H1 : Hid (Mm u0 [(gk, zkc), (0, dtab)] ∧ Below w.heap.size w u0) := by rw [hu0]; exact H0
 clear hu0 H0
 refine zA (d := 1) (v := PT u0.heap.size 0) (w' := (u0.alloc (.cells ([Value.int .i64 0, Value.int .i64 0, Value.string ⟨#[]⟩, Value.string ⟨#[]⟩, Value.string ⟨#[]⟩, Value.slice none 0 0, Value.slice none 0 0, Value.int .i64 0, Value.slice none 0 0, Value.slice (some ⟨gk, 0, none⟩) 1 1, Value.slice none 0 0] : List Value).toArray 64))) rfl rfl rfl (ex_boxT rfl rfl) ?_
 simp only [Act.put, sa, sz, ss]
 have o_Js2 : Hid (w.heap.size ≤ u0.heap.size) := H1.out.2.size
 have H2 : Hid (Mm (u0.alloc (.cells ([Value.int .i64 0, Value.int .i64 0, Value.string ⟨#[]⟩, Value.string ⟨#[]⟩, Value.string ⟨#[]⟩, Value.slice none 0 0, Value.slice none 0 0, Value.int .i64 0, Value.slice none 0 0, Value.slice (some ⟨gk, 0, none⟩) 1 1, Value.slice none 0 0] : List Value).toArray 64)) ((u0.heap.size, [Value.int .i64 0, Value.int .i64 0, Value.string ⟨#[]⟩, Value.string ⟨#[]⟩, Value.string ⟨#[]⟩, Value.slice none 0 0, Value.slice none 0 0, Value.int .i64 0, Value.slice none 0 0, Value.slice (some ⟨gk, 0, none⟩) 1 1, Value.slice none 0 0]) :: [(gk, zkc), (0, dtab)]) ∧ Below w.heap.size w (u0.alloc (.cells ([Value.int .i64 0, Value.int .i64 0, Value.string ⟨#[]⟩, Value.string ⟨#[]⟩, Value.string ⟨#[]⟩, Value.slice none 0 0, Value.slice none 0 0, Value.int .i64 0, Value.slice none 0 0, Value.slice (some ⟨gk, 0, none⟩) 1 1, Value.slice none 0 0] : List Value).toArray 64))) := ⟨H1.out.1.alloc _ 64 rfl, H1.out.2.trans (((Below.refl _ _).alloc (Nat.le_refl _) _).mono H1.out.2.size)⟩
 clear H1
 generalize hgw : u0.alloc (.cells ([Value.int .i64 0, Value.int .i64 0, Value.string ⟨#[]⟩, Value.string ⟨#[]⟩, Value.string ⟨#[]⟩, Value.slice none 0 0, Value.slice none 0 0, Value.int .i64 0, Value.slice none 0 0, Value.slice (some ⟨gk, 0, none⟩) 1 1, Value.slice none 0 0] : List Value).toArray 64) = w2 at H2 ⊢
 clear hgw
 generalize u0.heap.size = Js2 at o_Js2 H2 ⊢
 refine zA (d := 2) (v := .slice none 0 0) (w' := w2) rfl rfl rfl (rfl) ?_
 simp only [Act.put, sa, sz, ss]
 refine zA (d := 3) (v := .int .i64 0) (w' := w2) rfl rfl rfl (rfl) ?_
 simp only [Act.put, sa, sz, ss]
 refine zC (zB ?_)
 refine wp_seq (wp_seq ?_)
 refine zD (l := [0, 1, 2]) rfl ?_
 refine zA (d := 12) (v := .agg ([Value.int .i64 0, Value.int .i64 0, Value.string ⟨#[]⟩, Value.string ⟨#[]⟩, Value.string ⟨#[]⟩, Value.slice none 0 0, Value.slice none 0 0, Value.int .i64 0, Value.slice none 0 0, Value.slice (some ⟨gk, 0, none⟩) 1 1, Value.slice none 0 0]).toArray) (w' := w2) rfl rfl rfl (ex_loadT H2.out.1 0 rfl rfl rfl Ai64 As64 rfl rfl) ?_
 simp only [Act.put, sa, sz, ss]
 refine zF (d := 13) (R := fun vv w' => vv = .int .i64 0 ∧ Below w2.heap.size w2 w') rfl rfl rfl (zG (args := #[.agg ([Value.int .i64 0, Value.int .i64 0, Value.string ⟨#[]⟩, Value.string ⟨#[]⟩, Value.string ⟨#[]⟩, Value.slice none 0 0, Value.slice none 0 0, Value.int .i64 0, Value.slice none 0 0, Value.slice (some ⟨gk, 0, none⟩) 1 1, Value.slice none 0 0]).toArray]) rfl call46 rfl (mpn rfl)) (Calls.mono (bounds_5 gk w2) (fun e w2 hh => ⟨_, hh.1, rfl, hh.2⟩)) ?_
 rintro _ w3 ⟨rfl, hb⟩
 have H3 : Hid (Mm w3 [(Js2, [Value.int .i64 0, Value.int .i64 0, Value.string ⟨#[]⟩, Value.string ⟨#[]⟩, Value.string ⟨#[]⟩, Value.slice none 0 0, Value.slice none 0 0, Value.int .i64 0, Value.slice none 0 0, Value.slice (some ⟨gk, 0, none⟩) 1 1, Value.slice none 0 0]), (gk, zkc), (0, dtab)] ∧ Below w.heap.size w w3) := ⟨H2.out.1.below hb, H2.out.2.trans (hb.mono H2.out.2.size)⟩
 clear hb
 clear H2
 simp only [Act.put, sa, sz, ss]
 refine zA (d := 4) (v := .int .i64 0) (w' := w3) rfl rfl rfl (rfl) ?_
 simp only [Act.put, sa, sz, ss]
 refine zC (zB (wp_seq ?_))
 refine zD (l := [0, 1]) rfl ?_
 refine zA (d := 14) (v := .int .i64 0) (w' := w3) rfl rfl rfl (rfl) ?_
 simp only [Act.put, sa, sz, ss]
 refine zA (d := 15) (v := .bool false) (w' := w3) rfl rfl rfl (by kernel_rfl) ?_
 simp only [Act.put, sa, sz, ss]
 refine zC (zB ?_)
 refine wp_cond_false rfl (wp_skip ?_)
 refine zB (wp_seq ?_)
 refine zD (l := [0]) rfl ?_
 refine zA (d := 5) (v := PT w3.heap.size 0) (w' := (w3.alloc (.cells ([Value.slice none 0 0] : List Value).toArray 96))) rfl rfl rfl (ex_mk96 rfl) ?_
 simp only [Act.put, sa, sz, ss]
 have o_Js4 : Hid (w.heap.size ≤ w3.heap.size) := H3.out.2.size
 have H4 : Hid (Mm (w3.alloc (.cells ([Value.slice none 0 0] : List Value).toArray 96)) ((w3.heap.size, [Value.slice none 0 0]) :: [(Js2, [Value.int .i64 0, Value.int .i64 0, Value.string ⟨#[]⟩, Value.string ⟨#[]⟩, Value.string ⟨#[]⟩, Value.slice none 0 0, Value.slice none 0 0, Value.int .i64 0, Value.slice none 0 0, Value.slice (some ⟨gk, 0, none⟩) 1 1, Value.slice none 0 0]), (gk, zkc), (0, dtab)]) ∧ Ow w [w3.heap.size, Js2, gk, 0] (.slice none 0 0) 0 (lb []) (w3.alloc (.cells ([Value.slice none 0 0] : List Value).toArray 96))) := ⟨H3.out.1.alloc _ 96 rfl, Ow.start (H3.out.2.trans (((Below.refl _ _).alloc (Nat.le_refl _) _).mono H3.out.2.size)) _ _⟩
 clear H3
 generalize hgw : w3.alloc (.cells ([Value.slice none 0 0] : List Value).toArray 96) = w4 at H4 ⊢
 clear hgw
 generalize w3.heap.size = Js4 at o_Js4 H4 ⊢
 refine zC (zB (wp_seq ?_))
 refine zD (l := [0, 1, 2, 3, 4, 5]) rfl ?_
 refine zA (d := 17) (v := PT Js2 0) (w' := w4) rfl rfl rfl (by go_simp) ?_
 simp only [Act.put, sa, sz, ss]
 refine zA (d := 18) (v := .int .i64 0) (w' := w4) rfl rfl rfl (zJ H4.out.1 1 rfl rfl rfl Ai3 rfl) ?_
 simp only [Act.put, sa, sz, ss]
 refine zA (d := 19) (v := PT Js2 1) (w' := w4) rfl rfl rfl (by go_simp) ?_
 simp only [Act.put, sa, sz, ss]
 refine zA (d := 20) (v := .int .i64 0) (w' := w4) rfl rfl rfl (zJ H4.out.1 1 rfl rfl rfl Ai3 rfl) ?_
 simp only [Act.put, sa, sz, ss]
 refine zA (d := 21) (v := .slice (some ⟨w4.heap.size, 0, none⟩) 2 2) (w' := (w4.alloc (.cells (zH .i64 (lb [0, 0]) 2 : List Value).toArray 3))) rfl rfl rfl (ex_bsI2 (a := 0) (b := 0) rfl rfl rfl) ?_
 simp only [Act.put, sa, sz, ss]
 have o_Js5 : Hid (w.heap.size ≤ w4.heap.size) := H4.out.2.size
 have H5 : Hid (Mm (w4.alloc (.cells (zH .i64 (lb [0, 0]) 2 : List Value).toArray 3)) ((w4.heap.size, zH .i64 (lb [0, 0]) 2) :: [(Js4, [Value.slice none 0 0]), (Js2, [Value.int .i64 0, Value.int .i64 0, Value.string ⟨#[]⟩, Value.string ⟨#[]⟩, Value.string ⟨#[]⟩, Value.slice none 0 0, Value.slice none 0 0, Value.int .i64 0, Value.slice none 0 0, Value.slice (some ⟨gk, 0, none⟩) 1 1, Value.slice none 0 0]), (gk, zkc), (0, dtab)]) ∧ Ow w [w4.heap.size, Js4, Js2, gk, 0] (.slice none 0 0) 0 (lb []) (w4.alloc (.cells (zH .i64 (lb [0, 0]) 2 : List Value).toArray 3))) := ⟨H4.out.1.alloc _ 3 rfl, Ow.alloc H4.out.2 _⟩
 clear H4
 generalize hgw : w4.alloc (.cells (zH .i64 (lb [0, 0]) 2 : List Value).toArray 3) = w5 at H5 ⊢
 clear hgw
 generalize w4.heap.size = Js5 at o_Js5 H5 ⊢
 refine zF (d := 22) (R := fun vv w' => vv = .tuple #[] ∧ ∃ vv', Ow w [Js4, Js5, Js2, gk, 0] vv' 2 (ct (pbf (lb []) 0 (lb [0, 0]) 1) (0 + 1 * 2) (fun _ => 0)) w' ∧ Mm w' [(Js4, [vv']), (Js5, zH .i64 (lb [0, 0]) 2), (Js2, [Value.int .i64 0, Value.int .i64 0, Value.string ⟨#[]⟩, Value.string ⟨#[]⟩, Value.string ⟨#[]⟩, Value.slice none 0 0, Value.slice none 0 0, Value.int .i64 0, Value.slice none 0 0, Value.slice (some ⟨gk, 0, none⟩) 1 1, Value.slice none 0 0]), (gk, zkc), (0, dtab)]) rfl rfl rfl (zG (args := #[PT Js4 0, .int .i64 1, .slice none 0 0, .slice (some ⟨Js5, 0, none⟩) 2 2]) rfl call43 rfl (mpn rfl)) (Calls.mono (put_any w Js4 Js5 [(Js2, [Value.int .i64 0, Value.int .i64 0, Value.string ⟨#[]⟩, Value.string ⟨#[]⟩, Value.string ⟨#[]⟩, Value.slice none 0 0, Value.slice none 0 0, Value.int .i64 0, Value.slice none 0 0, Value.slice (some ⟨gk, 0, none⟩) 1 1, Value.slice none 0 0]), (gk, zkc), (0, dtab)] (.slice none 0 0) 0 (lb []) Pt8.no Pt8.no_ok (fun _ => rfl) (fun u _ => Pt8.no_rs u) (lb [0, 0]) 2 1 (by decide) (by decide) (by decide) (show 0 + 1 * 2 + 0 ≤ 2097152 from by decide) o_Js4.out w5 (H5.out.1.sel [1, 0, 2, 3, 4] (by decide) rfl) (H5.out.2.sub (L' := [Js4, Js5, Js2, gk, 0]) (by simp))) (fun e w2 hh => ⟨_, hh.1, rfl, hh.2⟩)) ?_
 rintro _ w6 ⟨rfl, v6, hO, hM⟩
 have H6 : Hid (Mm w6 [(Js4, [v6]), (Js2, [Value.int .i64 0, Value.int .i64 0, Value.string ⟨#[]⟩, Value.string ⟨#[]⟩, Value.string ⟨#[]⟩, Value.slice none 0 0, Value.slice none 0 0, Value.int .i64 0, Value.slice none 0 0, Value.slice (some ⟨gk, 0, none⟩) 1 1, Value.slice none 0 0]), (gk, zkc), (0, dtab)] ∧ Ow w [Js4, Js2, gk, 0] v6 2 (lb [0, 0]) w6) := ⟨hM.sel [0, 2, 3, 4] (by decide) rfl, (hO.sub (L' := [Js4, Js2, gk, 0]) (by simp)).cg (show ∀ j, j < 2 → (ct (pbf (lb []) 0 (lb [0, 0]) 1) (0 + 1 * 2) (fun _ => 0)) j = (lb [0, 0]) j from by decide)⟩
 clear hO hM H5
 simp only [Act.put, sa, sz, ss]
 refine zC (zB ?_)
 refine wp_seq (wp_seq ?_)
 refine zD (l := [0, 1, 2, 3, 4, 5, 6, 7, 8]) rfl ?_
 refine zA (d := 23) (v := PT Js2 2) (w' := w6) rfl rfl rfl (by go_simp) ?_
 simp only [Act.put, sa, sz, ss]
 refine zA (d := 24) (v := .string ⟨#[]⟩) (w' := w6) rfl rfl rfl (zJ H6.out.1 1 rfl rfl rfl Ai9 rfl) ?_
 simp only [Act.put, sa, sz, ss]
 refine zA (d := 25) (v := PT Js2 3) (w' := w6) rfl rfl rfl (by go_simp) ?_
 simp only [Act.put, sa, sz, ss]
 refine zA (d := 26) (v := .string ⟨#[]⟩) (w' := w6) rfl rfl rfl (zJ H6.out.1 1 rfl rfl rfl Ai9 rfl) ?_
 simp only [Act.put, sa, sz, ss]
 refine zA (d := 27) (v := PT Js2 4) (w' := w6) rfl rfl rfl (by go_simp) ?_
 simp only [Act.put, sa, sz, ss]
 refine zA (d := 28) (v := .string ⟨#[]⟩) (w' := w6) rfl rfl rfl (zJ H6.out.1 1 rfl rfl rfl Ai9 rfl) ?_
 simp only [Act.put, sa, sz, ss]
 refine zA (d := 29) (v := .slice (some ⟨w6.heap.size, 0, none⟩) 3 3) (w' := (w6.alloc (.cells ([Value.string ⟨#[]⟩, Value.string ⟨#[]⟩, Value.string ⟨#[]⟩] : List Value).toArray 9))) rfl rfl rfl (ex_bs101_3 rfl rfl rfl rfl) ?_
 simp only [Act.put, sa, sz, ss]
 have o_Js7 : Hid (w.heap.size ≤ w6.heap.size) := H6.out.2.size
 have H7 : Hid (Mm (w6.alloc (.cells ([Value.string ⟨#[]⟩, Value.string ⟨#[]⟩, Value.string ⟨#[]⟩] : List Value).toArray 9)) ((w6.heap.size, [Value.string ⟨#[]⟩, Value.string ⟨#[]⟩, Value.string ⟨#[]⟩]) :: [(Js4, [v6]), (Js2, [Value.int .i64 0, Value.int .i64 0, Value.string ⟨#[]⟩, Value.string ⟨#[]⟩, Value.string ⟨#[]⟩, Value.slice none 0 0, Value.slice none 0 0, Value.int .i64 0, Value.slice none 0 0, Value.slice (some ⟨gk, 0, none⟩) 1 1, Value.slice none 0 0]), (gk, zkc), (0, dtab)]) ∧ Ow w [w6.heap.size, Js4, Js2, gk, 0] v6 2 (lb [0, 0]) (w6.alloc (.cells ([Value.string ⟨#[]⟩, Value.string ⟨#[]⟩, Value.string ⟨#[]⟩] : List Value).toArray 9))) := ⟨H6.out.1.alloc _ 9 rfl, Ow.alloc H6.out.2 _⟩
 clear H6
 generalize hgw : w6.alloc (.cells ([Value.string ⟨#[]⟩, Value.string ⟨#[]⟩, Value.string ⟨#[]⟩] : List Value).toArray 9) = w7 at H7 ⊢
 clear hgw
 generalize w6.heap.size = Js7 at o_Js7 H7 ⊢
 refine zA (d := 30) (v := .int .i64 3) (w' := w7) rfl rfl rfl (by go_simp) ?_
 simp only [Act.put, sa, sz, ss]
 refine zA (d := 31) (v := .int .i64 0) (w' := w7) rfl rfl rfl (rfl) ?_
 simp only [Act.put, sa, sz, ss]
 refine zC (zB (wp_block ?_))
 refine wp_loop_rounds 4 ?_
 refine zU (n := 3) ?_
 refine wp_seq ?_
 refine zD (l := [0]) rfl ?_
 refine zA (d := 32) (v := .bool true) (w' := w7) rfl rfl rfl (by kernel_rfl) ?_
 simp only [Act.put, sa, sz, ss]
 refine zC (zB ?_)
 refine wp_seq (wp_cond_true rfl ?_)
 refine wp_skip (zB ?_)
 refine wp_seq (wp_block (wp_seq ?_))
 refine zD (l := [0, 1, 2]) rfl ?_
 refine zA (d := 33) (v := PT Js7 0) (w' := w7) rfl rfl rfl (by go_simp) ?_
 simp only [Act.put, sa, sz, ss]
 refine zA (d := 34) (v := .string ⟨#[]⟩) (w' := w7) rfl rfl rfl (zJ H7.out.1 0 rfl rfl rfl Ai9 rfl) ?_
 simp only [Act.put, sa, sz, ss]
 refine zA (d := 7) (v := .string ⟨#[]⟩) (w' := w7) rfl rfl rfl (rfl) ?_
 simp only [Act.put, sa, sz, ss]
 refine zC (zB ?_)
 refine zD (l := [0, 1, 2, 3, 4, 5]) rfl ?_
 refine zA (d := 35) (v := .string ⟨#[]⟩) (w' := w7) rfl rfl rfl (rfl) ?_
 simp only [Act.put, sa, sz, ss]
 obtain ⟨cp8, ob, hr, hcp, hlt, hB⟩ := s2b w7 ⟨#[]⟩ [] (by kernel_rfl)
 refine zA (d := 36) (v := .slice (some ⟨w7.heap.size, 0, none⟩) 0 cp8) (w' := (w7.drew.alloc ob)) rfl rfl rfl (ex_s2b hr rfl rfl) ?_
 simp only [Act.put, sa, sz, ss]
 have o_Js8 : Hid (w.heap.size ≤ w7.heap.size) := H7.out.2.size
 have hc_Js8 : Hid _ := hcp
 have H8 : Hid (Mm (w7.drew.alloc ob) ((w7.heap.size, []) :: [(Js7, [Value.string ⟨#[]⟩, Value.string ⟨#[]⟩, Value.string ⟨#[]⟩]), (Js4, [v6]), (Js2, [Value.int .i64 0, Value.int .i64 0, Value.string ⟨#[]⟩, Value.string ⟨#[]⟩, Value.string ⟨#[]⟩, Value.slice none 0 0, Value.slice none 0 0, Value.int .i64 0, Value.slice none 0 0, Value.slice (some ⟨gk, 0, none⟩) 1 1, Value.slice none 0 0]), (gk, zkc), (0, dtab)]) ∧ Ow w [w7.heap.size, Js7, Js4, Js2, gk, 0] v6 2 (lb [0, 0]) (w7.drew.alloc ob)) := ⟨Mm.cons (H7.out.1.below (((Below.refl _ _).drew).alloc (Nat.le_refl _) _)) hB hlt (fun p hp => Nat.ne_of_lt (H7.out.1.blk p hp).1), Ow.alloc (Ow.step H7.out.2 ((Below.refl _ _).drew)) _⟩
 clear H7 hr hB hcp hlt
 generalize hgw : w7.drew.alloc ob = w8 at H8 ⊢
 clear hgw ob
 generalize w7.heap.size = Js8 at o_Js8 H8 ⊢
 refine zA (d := 37) (v := .string ⟨#[]⟩) (w' := w8) rfl rfl rfl (rfl) ?_
 simp only [Act.put, sa, sz, ss]
 refine zA (d := 38) (v := .int .i64 0) (w' := w8) rfl rfl rfl (by kernel_rfl) ?_
 simp only [Act.put, sa, sz, ss]
 refine zA (d := 39) (v := .slice (some ⟨w8.heap.size, 0, none⟩) 1 1) (w' := (w8.alloc (.cells (zH .i64 (lb [0]) 1 : List Value).toArray 3))) rfl rfl rfl (ex_bsI1 (a := 0) rfl rfl) ?_
 simp only [Act.put, sa, sz, ss]
 have o_Js9 : Hid (w.heap.size ≤ w8.heap.size) := H8.out.2.size
 have H9 : Hid (Mm (w8.alloc (.cells (zH .i64 (lb [0]) 1 : List Value).toArray 3)) ((w8.heap.size, zH .i64 (lb [0]) 1) :: [(Js8, []), (Js7, [Value.string ⟨#[]⟩, Value.string ⟨#[]⟩, Value.string ⟨#[]⟩]), (Js4, [v6]), (Js2, [Value.int .i64 0, Value.int .i64 0, Value.string ⟨#[]⟩, Value.string ⟨#[]⟩, Value.string ⟨#[]⟩, Value.slice none 0 0, Value.slice none 0 0, Value.int .i64 0, Value.slice none 0 0, Value.slice (some ⟨gk, 0, none⟩) 1 1, Value.slice none 0 0]), (gk, zkc), (0, dtab)]) ∧ Ow w [w8.heap.size, Js8, Js7, Js4, Js2, gk, 0] v6 2 (lb [0, 0]) (w8.alloc (.cells (zH .i64 (lb [0]) 1 : List Value).toArray 3))) := ⟨H8.out.1.alloc _ 3 rfl, Ow.alloc H8.out.2 _⟩
 clear H8
 generalize hgw : w8.alloc (.cells (zH .i64 (lb [0]) 1 : List Value).toArray 3) = w9 at H9 ⊢
 clear hgw
 generalize w8.heap.size = Js9 at o_Js9 H9 ⊢
 refine zF (d := 40) (R := fun vv w' => vv = .tuple #[] ∧ ∃ vv', Ow w [Js4, Js9, Js8, Js7, Js2, gk, 0] vv' 3 (ct (pbf (lb [0, 0]) 2 (lb [0]) 1) (2 + 1 * 1) (lb [])) w' ∧ Mm w' [(Js4, [vv']), (Js9, zH .i64 (lb [0]) 1), (Js8, []), (Js7, [Value.string ⟨#[]⟩, Value.string ⟨#[]⟩, Value.string ⟨#[]⟩]), (Js2, [Value.int .i64 0, Value.int .i64 0, Value.string ⟨#[]⟩, Value.string ⟨#[]⟩, Value.string ⟨#[]⟩, Value.slice none 0 0, Value.slice none 0 0, Value.int .i64 0, Value.slice none 0 0, Value.slice (some ⟨gk, 0, none⟩) 1 1, Value.slice none 0 0]), (gk, zkc), (0, dtab)]) rfl rfl rfl (zG (args := #[PT Js4 0, .int .i64 1, .slice (some ⟨Js8, 0, none⟩) 0 cp8, .slice (some ⟨Js9, 0, none⟩) 1 1]) rfl call43 rfl (mpn rfl)) (Calls.mono (put_any w Js4 Js9 [(Js8, []), (Js7, [Value.string ⟨#[]⟩, Value.string ⟨#[]⟩, Value.string ⟨#[]⟩]), (Js2, [Value.int .i64 0, Value.int .i64 0, Value.string ⟨#[]⟩, Value.string ⟨#[]⟩, Value.string ⟨#[]⟩, Value.slice none 0 0, Value.slice none 0 0, Value.int .i64 0, Value.slice none 0 0, Value.slice (some ⟨gk, 0, none⟩) 1 1, Value.slice none 0 0]), (gk, zkc), (0, dtab)] v6 2 (lb [0, 0]) (Pt8.at Js8 0 cp8 (lb [])) (Pt8.at_ok _ _ _ _ (hc_Js8.out)) (fun e => by cases e) (fun u hu => Pt8.at_rs hu 0 rfl (fun i hi => absurd hi (Nat.not_lt_zero _))) (lb [0]) 1 1 (by decide) (by decide) (by decide) (show 2 + 1 * 1 + 0 ≤ 2097152 from by decide) o_Js4.out w9 (H9.out.1.sel [3, 0, 1, 2, 4, 5, 6] (by decide) rfl) (H9.out.2.sub (L' := [Js4, Js9, Js8, Js7, Js2, gk, 0]) (by simp))) (fun e w2 hh => ⟨_, hh.1, rfl, hh.2⟩)) ?_
 rintro _ w10 ⟨rfl, v10, hO, hM⟩
 have H10 : Hid (Mm w10 [(Js4, [v10]), (Js7, [Value.string ⟨#[]⟩, Value.string ⟨#[]⟩, Value.string ⟨#[]⟩]), (Js2, [Value.int .i64 0, Value.int .i64 0, Value.string ⟨#[]⟩, Value.string ⟨#[]⟩, Value.string ⟨#[]⟩, Value.slice none 0 0, Value.slice none 0 0, Value.int .i64 0, Value.slice none 0 0, Value.slice (some ⟨gk, 0, none⟩) 1 1, Value.slice none 0 0]), (gk, zkc), (0, dtab)] ∧ Ow w [Js4, Js7, Js2, gk, 0] v10 3 (lb [0, 0, 0]) w10) := ⟨hM.sel [0, 3, 4, 5, 6] (by decide) rfl, (hO.sub (L' := [Js4, Js7, Js2, gk, 0]) (by simp)).cg (show ∀ j, j < 3 → (ct (pbf (lb [0, 0]) 2 (lb [0]) 1) (2 + 1 * 1) (lb [])) j = (lb [0, 0, 0]) j from by decide)⟩
 clear hO hM H9
 simp only [Act.put, sa, sz, ss]
 refine zC (zS (zB ?_))
 refine zD (l := [0, 1]) rfl ?_
 refine zA (d := 41) (v := .int .i64 1) (w' := w10) rfl rfl rfl (by kernel_rfl) ?_
 simp only [Act.put, sa, sz, ss]
 refine zA (d := 31) (v := .int .i64 1) (w' := w10) rfl rfl rfl (rfl) ?_
 simp only [Act.put, sa, sz, ss]
 refine zC (zB ?_)
 refine zU (n := 2) ?_
 refine wp_seq ?_
 refine zD (l := [0]) rfl ?_
 refine zA (d := 32) (v := .bool true) (w' := w10) rfl rfl rfl (by kernel_rfl) ?_
 simp only [Act.put, sa, sz, ss]
 refine zC (zB ?_)
 refine wp_seq (wp_cond_true rfl ?_)
 refine wp_skip (zB ?_)
 refine wp_seq (wp_block (wp_seq ?_))
 refine zD (l := [0, 1, 2]) rfl ?_
 refine zA (d := 33) (v := PT Js7 1) (w' := w10) rfl rfl rfl (by go_simp) ?_
 simp only [Act.put, sa, sz, ss]
 refine zA (d := 34) (v := .string ⟨#[]⟩) (w' := w10) rfl rfl rfl (zJ H10.out.1 1 rfl rfl rfl Ai9 rfl) ?_
 simp only [Act.put, sa, sz, ss]
 refine zA (d := 7) (v := .string ⟨#[]⟩) (w' := w10) rfl rfl rfl (rfl) ?_
 simp only [Act.put, sa, sz, ss]
 refine zC (zB ?_)
 refine zD (l := [0, 1, 2, 3, 4, 5]) rfl ?_
 refine zA (d := 35) (v := .string ⟨#[]⟩) (w' := w10) rfl rfl rfl (rfl) ?_
 simp only [Act.put, sa, sz, ss]
 obtain ⟨cp11, ob, hr, hcp, hlt, hB⟩ := s2b w10 ⟨#[]⟩ [] (by kernel_rfl)
 refine zA (d := 36) (v := .slice (some ⟨w10.heap.size, 0, none⟩) 0 cp11) (w' := (w10.drew.alloc ob)) rfl rfl rfl (ex_s2b hr rfl rfl) ?_
 simp only [Act.put, sa, sz, ss]
 have o_Js11 : Hid (w.heap.size ≤ w10.heap.size) := H10.out.2.size
 have hc_Js11 : Hid _ := hcp
 have H11 : Hid (Mm (w10.drew.alloc ob) ((w10.heap.size, []) :: [(Js4, [v10]), (Js7, [Value.string ⟨#[]⟩, Value.string ⟨#[]⟩, Value.string ⟨#[]⟩]), (Js2, [Value.int .i64 0, Value.int .i64 0, Value.string ⟨#[]⟩, Value.string ⟨#[]⟩, Value.string ⟨#[]⟩, Value.slice none 0 0, Value.slice none 0 0, Value.int .i64 0, Value.slice none 0 0, Value.slice (some ⟨gk, 0, none⟩) 1 1, Value.slice none 0 0]), (gk, zkc), (0, dtab)]) ∧ Ow w [w10.heap.size, Js4, Js7, Js2, gk, 0] v10 3 (lb [0, 0, 0]) (w10.drew.alloc ob)) := ⟨Mm.cons (H10.out.1.below (((Below.refl _ _).drew).alloc (Nat.le_refl _) _)) hB hlt (fun p hp => Nat.ne_of_lt (H10.out.1.blk p hp).1), Ow.alloc (Ow.step H10.out.2 ((Below.refl _ _).drew)) _⟩
 clear H10 hr hB hcp hlt
 generalize hgw : w10.drew.alloc ob = w11 at H11 ⊢
 clear hgw ob
 generalize w10.heap.size = Js11 at o_Js11 H11 ⊢
 refine zA (d := 37) (v := .string ⟨#[]⟩) (w' := w11) rfl rfl rfl (rfl) ?_
 simp only [Act.put, sa, sz, ss]
 refine zA (d := 38) (v := .int .i64 0) (w' := w11) rfl rfl rfl (by kernel_rfl) ?_
 simp only [Act.put, sa, sz, ss]
 refine zA (d := 39) (v := .slice (some ⟨w11.heap.size, 0, none⟩) 1 1) (w' := (w11.alloc (.cells (zH .i64 (lb [0]) 1 : List Value).toArray 3))) rfl rfl rfl (ex_bsI1 (a := 0) rfl rfl) ?_
 simp only [Act.put, sa, sz, ss]
 have o_Js12 : Hid (w.heap.size ≤ w11.heap.size) := H11.out.2.size
 have H12 : Hid (Mm (w11.alloc (.cells (zH .i64 (lb [0]) 1 : List Value).toArray 3)) ((w11.heap.size, zH .i64 (lb [0]) 1) :: [(Js11, []), (Js4, [v10]), (Js7, [Value.string ⟨#[]⟩, Value.string ⟨#[]⟩, Value.string ⟨#[]⟩]), (Js2, [Value.int .i64 0, Value.int .i64 0, Value.string ⟨#[]⟩, Value.string ⟨#[]⟩, Value.string ⟨#[]⟩, Value.slice none 0 0, Value.slice none 0 0, Value.int .i64 0, Value.slice none 0 0, Value.slice (some ⟨gk, 0, none⟩) 1 1, Value.slice none 0 0]), (gk, zkc), (0, dtab)]) ∧ Ow w [w11.heap.size, Js11, Js4, Js7, Js2, gk, 0] v10 3 (lb [0, 0, 0]) (w11.alloc (.cells (zH .i64 (lb [0]) 1 : List Value).toArray 3))) := ⟨H11.out.1.alloc _ 3 rfl, Ow.alloc H11.out.2 _⟩
 clear H11
 generalize hgw : w11.alloc (.cells (zH .i64 (lb [0]) 1 : List Value).toArray 3) = w12 at H12 ⊢
 clear hgw
 generalize w11.heap.size = Js12 at o_Js12 H12 ⊢
 refine zF (d := 40) (R := fun vv w' => vv = .tuple #[] ∧ ∃ vv', Ow w [Js4, Js12, Js11, Js7, Js2, gk, 0] vv' 4 (ct (pbf (lb [0, 0, 0]) 3 (lb [0]) 1) (3 + 1 * 1) (lb [])) w' ∧ Mm w' [(Js4, [vv']), (Js12, zH .i64 (lb [0]) 1), (Js11, []), (Js7, [Value.string ⟨#[]⟩, Value.string ⟨#[]⟩, Value.string ⟨#[]⟩]), (Js2, [Value.int .i64 0, Value.int .i64 0, Value.string ⟨#[]⟩, Value.string ⟨#[]⟩, Value.string ⟨#[]⟩, Value.slice none 0 0, Value.slice none 0 0, Value.int .i64 0, Value.slice none 0 0, Value.slice (some ⟨gk, 0, none⟩) 1 1, Value.slice none 0 0]), (gk, zkc), (0, dtab)]) rfl rfl rfl (zG (args := #[PT Js4 0, .int .i64 1, .slice (some ⟨Js11, 0, none⟩) 0 cp11, .slice (some ⟨Js12, 0, none⟩) 1 1]) rfl call43 rfl (mpn rfl)) (Calls.mono (put_any w Js4 Js12 [(Js11, []), (Js7, [Value.string ⟨#[]⟩, Value.string ⟨#[]⟩, Value.string ⟨#[]⟩]), (Js2, [Value.int .i64 0, Value.int .i64 0, Value.string ⟨#[]⟩, Value.string ⟨#[]⟩, Value.string ⟨#[]⟩, Value.slice none 0 0, Value.slice none 0 0, Value.int .i64 0, Value.slice none 0 0, Value.slice (some ⟨gk, 0, none⟩) 1 1, Value.slice none 0 0]), (gk, zkc), (0, dtab)] v10 3 (lb [0, 0, 0]) (Pt8.at Js11 0 cp11 (lb [])) (Pt8.at_ok _ _ _ _ (hc_Js11.out)) (fun e => by cases e) (fun u hu => Pt8.at_rs hu 0 rfl (fun i hi => absurd hi (Nat.not_lt_zero _))) (lb [0]) 1 1 (by decide) (by decide) (by decide) (show 3 + 1 * 1 + 0 ≤ 2097152 from by decide) o_Js4.out w12 (H12.out.1.sel [2, 0, 1, 3, 4, 5, 6] (by decide) rfl) (H12.out.2.sub (L' := [Js4, Js12, Js11, Js7, Js2, gk, 0]) (by simp))) (fun e w2 hh => ⟨_, hh.1, rfl, hh.2⟩)) ?_
 rintro _ w13 ⟨rfl, v13, hO, hM⟩
 have H13 : Hid (Mm w13 [(Js4, [v13]), (Js7, [Value.string ⟨#[]⟩, Value.string ⟨#[]⟩, Value.string ⟨#[]⟩]), (Js2, [Value.int .i64 0, Value.int .i64 0, Value.string ⟨#[]⟩, Value.string ⟨#[]⟩, Value.string ⟨#[]⟩, Value.slice none 0 0, Value.slice none 0 0, Value.int .i64 0, Value.slice none 0 0, Value.slice (some ⟨gk, 0, none⟩) 1 1, Value.slice none 0 0]), (gk, zkc), (0, dtab)] ∧ Ow w [Js4, Js7, Js2, gk, 0] v13 4 (lb [0, 0, 0, 0]) w13) := ⟨hM.sel [0, 3, 4, 5, 6] (by decide) rfl, (hO.sub (L' := [Js4, Js7, Js2, gk, 0]) (by simp)).cg (show ∀ j, j < 4 → (ct (pbf (lb [0, 0, 0]) 3 (lb [0]) 1) (3 + 1 * 1) (lb [])) j = (lb [0, 0, 0, 0]) j from by decide)⟩
 clear hO hM H12
 simp only [Act.put, sa, sz, ss]
 refine zC (zS (zB ?_))
 refine zD (l := [0, 1]) rfl ?_
 refine zA (d := 41) (v := .int .i64 2) (w' := w13) rfl rfl rfl (by kernel_rfl) ?_
 simp only [Act.put, sa, sz, ss]
 refine zA (d := 31) (v := .int .i64 2) (w' := w13) rfl rfl rfl (rfl) ?_
 simp only [Act.put, sa, sz, ss]
 refine zC (zB ?_)
 refine zU (n := 1) ?_
 refine wp_seq ?_
 refine zD (l := [0]) rfl ?_
 refine zA (d := 32) (v := .bool true) (w' := w13) rfl rfl rfl (by kernel_rfl) ?_
 simp only [Act.put, sa, sz, ss]
 refine zC (zB ?_)
 refine wp_seq (wp_cond_true rfl ?_)
 refine wp_skip (zB ?_)
 refine wp_seq (wp_block (wp_seq ?_))
 refine zD (l := [0, 1, 2]) rfl ?_
 refine zA (d := 33) (v := PT Js7 2) (w' := w13) rfl rfl rfl (by go_simp) ?_
 simp only [Act.put, sa, sz, ss]
 refine zA (d := 34) (v := .string ⟨#[]⟩) (w' := w13) rfl rfl rfl (zJ H13.out.1 1 rfl rfl rfl Ai9 rfl) ?_
 simp only [Act.put, sa, sz, ss]
 refine zA (d := 7) (v := .string ⟨#[]⟩) (w' := w13) rfl rfl rfl (rfl) ?_
 simp only [Act.put, sa, sz, ss]
 refine zC (zB ?_)
 refine zD (l := [0, 1, 2, 3, 4, 5]) rfl ?_
 refine zA (d := 35) (v := .string ⟨#[]⟩) (w' := w13) rfl rfl rfl (rfl) ?_
 simp only [Act.put, sa, sz, ss]
 obtain ⟨cp14, ob, hr, hcp, hlt, hB⟩ := s2b w13 ⟨#[]⟩ [] (by kernel_rfl)
 refine zA (d := 36) (v := .slice (some ⟨w13.heap.size, 0, none⟩) 0 cp14) (w' := (w13.drew.alloc ob)) rfl rfl rfl (ex_s2b hr rfl rfl) ?_
 simp only [Act.put, sa, sz, ss]
 have o_Js14 : Hid (w.heap.size ≤ w13.heap.size) := H13.out.2.size
 have hc_Js14 : Hid _ := hcp
 have H14 : Hid (Mm (w13.drew.alloc ob) ((w13.heap.size, []) :: [(Js4, [v13]), (Js7, [Value.string ⟨#[]⟩, Value.string ⟨#[]⟩, Value.string ⟨#[]⟩]), (Js2, [Value.int .i64 0, Value.int .i64 0, Value.string ⟨#[]⟩, Value.string ⟨#[]⟩, Value.string ⟨#[]⟩, Value.slice none 0 0, Value.slice none 0 0, Value.int .i64 0, Value.slice none 0 0, Value.slice (some ⟨gk, 0, none⟩) 1 1, Value.slice none 0 0]), (gk, zkc), (0, dtab)]) ∧ Ow w [w13.heap.size, Js4, Js7, Js2, gk, 0] v13 4 (lb [0, 0, 0, 0]) (w13.drew.alloc ob)) := ⟨Mm.cons (H13.out.1.below (((Below.refl _ _).drew).alloc (Nat.le_refl _) _)) hB hlt (fun p hp => Nat.ne_of_lt (H13.out.1.blk p hp).1), Ow.alloc (Ow.step H13.out.2 ((Below.refl _ _).drew)) _⟩
 clear H13 hr hB hcp hlt
 generalize hgw : w13.drew.alloc ob = w14 at H14 ⊢
 clear hgw ob
 generalize w13.heap.size = Js14 at o_Js14 H14 ⊢
 refine zA (d := 37) (v := .string ⟨#[]⟩) (w' := w14) rfl rfl rfl (rfl) ?_
 simp only [Act.put, sa, sz, ss]
 refine zA (d := 38) (v := .int .i64 0) (w' := w14) rfl rfl rfl (by kernel_rfl) ?_
 simp only [Act.put, sa, sz, ss]
 refine zA (d := 39) (v := .slice (some ⟨w14.heap.size, 0, none⟩) 1 1) (w' := (w14.alloc (.cells (zH .i64 (lb [0]) 1 : List Value).toArray 3))) rfl rfl rfl (ex_bsI1 (a := 0) rfl rfl) ?_
 simp only [Act.put, sa, sz, ss]
 have o_Js15 : Hid (w.heap.size ≤ w14.heap.size) := H14.out.2.size
 have H15 : Hid (Mm (w14.alloc (.cells (zH .i64 (lb [0]) 1 : List Value).toArray 3)) ((w14.heap.size, zH .i64 (lb [0]) 1) :: [(Js14, []), (Js4, [v13]), (Js7, [Value.string ⟨#[]⟩, Value.string ⟨#[]⟩, Value.string ⟨#[]⟩]), (Js2, [Value.int .i64 0, Value.int .i64 0, Value.string ⟨#[]⟩, Value.string ⟨#[]⟩, Value.string ⟨#[]⟩, Value.slice none 0 0, Value.slice none 0 0, Value.int .i64 0, Value.slice none 0 0, Value.slice (some ⟨gk, 0, none⟩) 1 1, Value.slice none 0 0]), (gk, zkc), (0, dtab)]) ∧ Ow w [w14.heap.size, Js14, Js4, Js7, Js2, gk, 0] v13 4 (lb [0, 0, 0, 0]) (w14.alloc (.cells (zH .i64 (lb [0]) 1 : List Value).toArray 3))) := ⟨H14.out.1.alloc _ 3 rfl, Ow.alloc H14.out.2 _⟩
 clear H14
 generalize hgw : w14.alloc (.cells (zH .i64 (lb [0]) 1 : List Value).toArray 3) = w15 at H15 ⊢
 clear hgw
 generalize w14.heap.size = Js15 at o_Js15 H15 ⊢
 refine zF (d := 40) (R := fun vv w' => vv = .tuple #[] ∧ ∃ vv', Ow w [Js4, Js15, Js14, Js7, Js2, gk, 0] vv' 5 (ct (pbf (lb [0, 0, 0, 0]) 4 (lb [0]) 1) (4 + 1 * 1) (lb [])) w' ∧ Mm w' [(Js4, [vv']), (Js15, zH .i64 (lb [0]) 1), (Js14, []), (Js7, [Value.string ⟨#[]⟩, Value.string ⟨#[]⟩, Value.string ⟨#[]⟩]), (Js2, [Value.int .i64 0, Value.int .i64 0, Value.string ⟨#[]⟩, Value.string ⟨#[]⟩, Value.string ⟨#[]⟩, Value.slice none 0 0, Value.slice none 0 0, Value.int .i64 0, Value.slice none 0 0, Value.slice (some ⟨gk, 0, none⟩) 1 1, Value.slice none 0 0]), (gk, zkc), (0, dtab)]) rfl rfl rfl (zG (args := #[PT Js4 0, .int .i64 1, .slice (some ⟨Js14, 0, none⟩) 0 cp14, .slice (some ⟨Js15, 0, none⟩) 1 1]) rfl call43 rfl (mpn rfl)) (Calls.mono (put_any w Js4 Js15 [(Js14, []), (Js7, [Value.string ⟨#[]⟩, Value.string ⟨#[]⟩, Value.string ⟨#[]⟩]), (Js2, [Value.int .i64 0, Value.int .i64 0, Value.string ⟨#[]⟩, Value.string ⟨#[]⟩, Value.string ⟨#[]⟩, Value.slice none 0 0, Value.slice none 0 0, Value.int .i64 0, Value.slice none 0 0, Value.slice (some ⟨gk, 0, none⟩) 1 1, Value.slice none 0 0]), (gk, zkc), (0, dtab)] v13 4 (lb [0, 0, 0, 0]) (Pt8.at Js14 0 cp14 (lb [])) (Pt8.at_ok _ _ _ _ (hc_Js14.out)) (fun e => by cases e) (fun u hu => Pt8.at_rs hu 0 rfl (fun i hi => absurd hi (Nat.not_lt_zero _))) (lb [0]) 1 1 (by decide) (by decide) (by decide) (show 4 + 1 * 1 + 0 ≤ 2097152 from by decide) o_Js4.out w15 (H15.out.1.sel [2, 0, 1, 3, 4, 5, 6] (by decide) rfl) (H15.out.2.sub (L' := [Js4, Js15, Js14, Js7, Js2, gk, 0]) (by simp))) (fun e w2 hh => ⟨_, hh.1, rfl, hh.2⟩)) ?_
 rintro _ w16 ⟨rfl, v16, hO, hM⟩
 have H16 : Hid (Mm w16 [(Js4, [v16]), (Js7, [Value.string ⟨#[]⟩, Value.string ⟨#[]⟩, Value.string ⟨#[]⟩]), (Js2, [Value.int .i64 0, Value.int .i64 0, Value.string ⟨#[]⟩, Value.string ⟨#[]⟩, Value.string ⟨#[]⟩, Value.slice none 0 0, Value.slice none 0 0, Value.int .i64 0, Value.slice none 0 0, Value.slice (some ⟨gk, 0, none⟩) 1 1, Value.slice none 0 0]), (gk, zkc), (0, dtab)] ∧ Ow w [Js4, Js7, Js2, gk, 0] v16 5 (lb [0, 0, 0, 0, 0]) w16) := ⟨hM.sel [0, 3, 4, 5, 6] (by decide) rfl, (hO.sub (L' := [Js4, Js7, Js2, gk, 0]) (by simp)).cg (show ∀ j, j < 5 → (ct (pbf (lb [0, 0, 0, 0]) 4 (lb [0]) 1) (4 + 1 * 1) (lb [])) j = (lb [0, 0, 0, 0, 0]) j from by decide)⟩
 clear hO hM H15
 simp only [Act.put, sa, sz, ss]
 refine zC (zS (zB ?_))
 refine zD (l := [0, 1]) rfl ?_
 refine zA (d := 41) (v := .int .i64 3) (w' := w16) rfl rfl rfl (by kernel_rfl) ?_
 simp only [Act.put, sa, sz, ss]
 refine zA (d := 31) (v := .int .i64 3) (w' := w16) rfl rfl rfl (rfl) ?_
 simp only [Act.put, sa, sz, ss]
 refine zC (zB ?_)
 refine zU (n := 0) ?_
 refine wp_seq ?_
 refine zD (l := [0]) rfl ?_
 refine zA (d := 32) (v := .bool false) (w' := w16) rfl rfl rfl (by kernel_rfl) ?_
 simp only [Act.put, sa, sz, ss]
 refine zC (zB ?_)
 refine wp_seq (wp_cond_false rfl ?_)
 refine wp_exit ?_
 repeat refine zX ?_
 refine zT ?_
 refine zB (wp_seq ?_)
 refine zD (l := [0, 1, 2, 3, 4, 5, 6]) rfl ?_
 refine zA (d := 42) (v := PT Js2 5) (w' := w16) rfl rfl rfl (by go_simp) ?_
 simp only [Act.put, sa, sz, ss]
 refine zA (d := 43) (v := .slice none 0 0) (w' := w16) rfl rfl rfl (zJ H16.out.1 2 rfl rfl rfl Ai51 rfl) ?_
 simp only [Act.put, sa, sz, ss]
 refine zA (d := 44) (v := PT Js2 5) (w' := w16) rfl rfl rfl (by go_simp) ?_
 simp only [Act.put, sa, sz, ss]
 refine zA (d := 45) (v := .slice none 0 0) (w' := w16) rfl rfl rfl (zJ H16.out.1 2 rfl rfl rfl Ai51 rfl) ?_
 simp only [Act.put, sa, sz, ss]
 refine zA (d := 46) (v := .int .i64 0) (w' := w16) rfl rfl rfl (by go_simp) ?_
 simp only [Act.put, sa, sz, ss]
 refine zA (d := 47) (v := .slice (some ⟨w16.heap.size, 0, none⟩) 1 1) (w' := (w16.alloc (.cells (zH .i64 (lb [0]) 1 : List Value).toArray 3))) rfl rfl rfl (ex_bsI1 (a := 0) rfl rfl) ?_
 simp only [Act.put, sa, sz, ss]
 have o_Js17 : Hid (w.heap.size ≤ w16.heap.size) := H16.out.2.size
 have H17 : Hid (Mm (w16.alloc (.cells (zH .i64 (lb [0]) 1 : List Value).toArray 3)) ((w16.heap.size, zH .i64 (lb [0]) 1) :: [(Js4, [v16]), (Js7, [Value.string ⟨#[]⟩, Value.string ⟨#[]⟩, Value.string ⟨#[]⟩]), (Js2, [Value.int .i64 0, Value.int .i64 0, Value.string ⟨#[]⟩, Value.string ⟨#[]⟩, Value.string ⟨#[]⟩, Value.slice none 0 0, Value.slice none 0 0, Value.int .i64 0, Value.slice none 0 0, Value.slice (some ⟨gk, 0, none⟩) 1 1, Value.slice none 0 0]), (gk, zkc), (0, dtab)]) ∧ Ow w [w16.heap.size, Js4, Js7, Js2, gk, 0] v16 5 (lb [0, 0, 0, 0, 0]) (w16.alloc (.cells (zH .i64 (lb [0]) 1 : List Value).toArray 3))) := ⟨H16.out.1.alloc _ 3 rfl, Ow.alloc H16.out.2 _⟩
 clear H16
 generalize hgw : w16.alloc (.cells (zH .i64 (lb [0]) 1 : List Value).toArray 3) = w17 at H17 ⊢
 clear hgw
 generalize w16.heap.size = Js17 at o_Js17 H17 ⊢
 refine zF (d := 48) (R := fun vv w' => vv = .tuple #[] ∧ ∃ vv', Ow w [Js4, Js17, Js7, Js2, gk, 0] vv' 7 (ct (pbf (lb [0, 0, 0, 0, 0]) 5 (lb [0]) 2) (5 + 2 * 1) (fun _ => 0)) w' ∧ Mm w' [(Js4, [vv']), (Js17, zH .i64 (lb [0]) 1), (Js7, [Value.string ⟨#[]⟩, Value.string ⟨#[]⟩, Value.string ⟨#[]⟩]), (Js2, [Value.int .i64 0, Value.int .i64 0, Value.string ⟨#[]⟩, Value.string ⟨#[]⟩, Value.string ⟨#[]⟩, Value.slice none 0 0, Value.slice none 0 0, Value.int .i64 0, Value.slice none 0 0, Value.slice (some ⟨gk, 0, none⟩) 1 1, Value.slice none 0 0]), (gk, zkc), (0, dtab)]) rfl rfl rfl (zG (args := #[PT Js4 0, .int .i64 2, .slice none 0 0, .slice (some ⟨Js17, 0, none⟩) 1 1]) rfl call43 rfl (mpn rfl)) (Calls.mono (put_any w Js4 Js17 [(Js7, [Value.string ⟨#[]⟩, Value.string ⟨#[]⟩, Value.string ⟨#[]⟩]), (Js2, [Value.int .i64 0, Value.int .i64 0, Value.string ⟨#[]⟩, Value.string ⟨#[]⟩, Value.string ⟨#[]⟩, Value.slice none 0 0, Value.slice none 0 0, Value.int .i64 0, Value.slice none 0 0, Value.slice (some ⟨gk, 0, none⟩) 1 1, Value.slice none 0 0]), (gk, zkc), (0, dtab)] v16 5 (lb [0, 0, 0, 0, 0]) Pt8.no Pt8.no_ok (fun _ => rfl) (fun u _ => Pt8.no_rs u) (lb [0]) 1 2 (by decide) (by decide) (by decide) (show 5 + 2 * 1 + 0 ≤ 2097152 from by decide) o_Js4.out w17 (H17.out.1.sel [1, 0, 2, 3, 4, 5] (by decide) rfl) (H17.out.2.sub (L' := [Js4, Js17, Js7, Js2, gk, 0]) (by simp))) (fun e w2 hh => ⟨_, hh.1, rfl, hh.2⟩)) ?_
 rintro _ w18 ⟨rfl, v18, hO, hM⟩
 have H18 : Hid (Mm w18 [(Js4, [v18]), (Js7, [Value.string ⟨#[]⟩, Value.string ⟨#[]⟩, Value.string ⟨#[]⟩]), (Js2, [Value.int .i64 0, Value.int .i64 0, Value.string ⟨#[]⟩, Value.string ⟨#[]⟩, Value.string ⟨#[]⟩, Value.slice none 0 0, Value.slice none 0 0, Value.int .i64 0, Value.slice none 0 0, Value.slice (some ⟨gk, 0, none⟩) 1 1, Value.slice none 0 0]), (gk, zkc), (0, dtab)] ∧ Ow w [Js4, Js7, Js2, gk, 0] v18 7 (lb [0, 0, 0, 0, 0, 0, 0]) w18) := ⟨hM.sel [0, 2, 3, 4, 5] (by decide) rfl, (hO.sub (L' := [Js4, Js7, Js2, gk, 0]) (by simp)).cg (show ∀ j, j < 7 → (ct (pbf (lb [0, 0, 0, 0, 0]) 5 (lb [0]) 2) (5 + 2 * 1) (fun _ => 0)) j = (lb [0, 0, 0, 0, 0, 0, 0]) j from by decide)⟩
 clear hO hM H17
 simp only [Act.put, sa, sz, ss]
 refine zC (zB (wp_seq ?_))
 refine zD (l := [0, 1, 2, 3, 4]) rfl ?_
 refine zA (d := 49) (v := PT Js2 6) (w' := w18) rfl rfl rfl (by go_simp) ?_
 simp only [Act.put, sa, sz, ss]
 refine zA (d := 50) (v := .slice none 0 0) (w' := w18) rfl rfl rfl (zJ H18.out.1 2 rfl rfl rfl Ai59 rfl) ?_
 simp only [Act.put, sa, sz, ss]
 refine zA (d := 51) (v := .int .i64 0) (w' := w18) rfl rfl rfl (by go_simp) ?_
 simp only [Act.put, sa, sz, ss]
 refine zA (d := 52) (v := .slice (some ⟨w18.heap.size, 0, none⟩) 1 1) (w' := (w18.alloc (.cells (zH .i64 (lb [0]) 1 : List Value).toArray 3))) rfl rfl rfl (ex_bsI1 (a := 0) rfl rfl) ?_
 simp only [Act.put, sa, sz, ss]
 have o_Js19 : Hid (w.heap.size ≤ w18.heap.size) := H18.out.2.size
 have H19 : Hid (Mm (w18.alloc (.cells (zH .i64 (lb [0]) 1 : List Value).toArray 3)) ((w18.heap.size, zH .i64 (lb [0]) 1) :: [(Js4, [v18]), (Js7, [Value.string ⟨#[]⟩, Value.string ⟨#[]⟩, Value.string ⟨#[]⟩]), (Js2, [Value.int .i64 0, Value.int .i64 0, Value.string ⟨#[]⟩, Value.string ⟨#[]⟩, Value.string ⟨#[]⟩, Value.slice none 0 0, Value.slice none 0 0, Value.int .i64 0, Value.slice none 0 0, Value.slice (some ⟨gk, 0, none⟩) 1 1, Value.slice none 0 0]), (gk, zkc), (0, dtab)]) ∧ Ow w [w18.heap.size, Js4, Js7, Js2, gk, 0] v18 7 (lb [0, 0, 0, 0, 0, 0, 0]) (w18.alloc (.cells (zH .i64 (lb [0]) 1 : List Value).toArray 3))) := ⟨H18.out.1.alloc _ 3 rfl, Ow.alloc H18.out.2 _⟩
 clear H18
 generalize hgw : w18.alloc (.cells (zH .i64 (lb [0]) 1 : List Value).toArray 3) = w19 at H19 ⊢
 clear hgw
 generalize w18.heap.size = Js19 at o_Js19 H19 ⊢
 refine zF (d := 53) (R := fun vv w' => vv = .tuple #[] ∧ ∃ vv', Ow w [Js4, Js19, Js7, Js2, gk, 0] vv' 8 (ct (pbf (lb [0, 0, 0, 0, 0, 0, 0]) 7 (lb [0]) 1) (7 + 1 * 1) (fun _ => 0)) w' ∧ Mm w' [(Js4, [vv']), (Js19, zH .i64 (lb [0]) 1), (Js7, [Value.string ⟨#[]⟩, Value.string ⟨#[]⟩, Value.string ⟨#[]⟩]), (Js2, [Value.int .i64 0, Value.int .i64 0, Value.string ⟨#[]⟩, Value.string ⟨#[]⟩, Value.string ⟨#[]⟩, Value.slice none 0 0, Value.slice none 0 0, Value.int .i64 0, Value.slice none 0 0, Value.slice (some ⟨gk, 0, none⟩) 1 1, Value.slice none 0 0]), (gk, zkc), (0, dtab)]) rfl rfl rfl (zG (args := #[PT Js4 0, .int .i64 1, .slice none 0 0, .slice (some ⟨Js19, 0, none⟩) 1 1]) rfl call43 rfl (mpn rfl)) (Calls.mono (put_any w Js4 Js19 [(Js7, [Value.string ⟨#[]⟩, Value.string ⟨#[]⟩, Value.string ⟨#[]⟩]), (Js2, [Value.int .i64 0, Value.int .i64 0, Value.string ⟨#[]⟩, Value.string ⟨#[]⟩, Value.string ⟨#[]⟩, Value.slice none 0 0, Value.slice none 0 0, Value.int .i64 0, Value.slice none 0 0, Value.slice (some ⟨gk, 0, none⟩) 1 1, Value.slice none 0 0]), (gk, zkc), (0, dtab)] v18 7 (lb [0, 0, 0, 0, 0, 0, 0]) Pt8.no Pt8.no_ok (fun _ => rfl) (fun u _ => Pt8.no_rs u) (lb [0]) 1 1 (by decide) (by decide) (by decide) (show 7 + 1 * 1 + 0 ≤ 2097152 from by decide) o_Js4.out w19 (H19.out.1.sel [1, 0, 2, 3, 4, 5] (by decide) rfl) (H19.out.2.sub (L' := [Js4, Js19, Js7, Js2, gk, 0]) (by simp))) (fun e w2 hh => ⟨_, hh.1, rfl, hh.2⟩)) ?_
 rintro _ w20 ⟨rfl, v20, hO, hM⟩
 have H20 : Hid (Mm w20 [(Js4, [v20]), (Js7, [Value.string ⟨#[]⟩, Value.string ⟨#[]⟩, Value.string ⟨#[]⟩]), (Js2, [Value.int .i64 0, Value.int .i64 0, Value.string ⟨#[]⟩, Value.string ⟨#[]⟩, Value.string ⟨#[]⟩, Value.slice none 0 0, Value.slice none 0 0, Value.int .i64 0, Value.slice none 0 0, Value.slice (some ⟨gk, 0, none⟩) 1 1, Value.slice none 0 0]), (gk, zkc), (0, dtab)] ∧ Ow w [Js4, Js7, Js2, gk, 0] v20 8 (lb [0, 0, 0, 0, 0, 0, 0, 0]) w20) := ⟨hM.sel [0, 2, 3, 4, 5] (by decide) rfl, (hO.sub (L' := [Js4, Js7, Js2, gk, 0]) (by simp)).cg (show ∀ j, j < 8 → (ct (pbf (lb [0, 0, 0, 0, 0, 0, 0]) 7 (lb [0]) 1) (7 + 1 * 1) (fun _ => 0)) j = (lb [0, 0, 0, 0, 0, 0, 0, 0]) j from by decide)⟩
 clear hO hM H19
 simp only [Act.put, sa, sz, ss]
 refine zC (zB (wp_seq ?_))
 refine zD (l := [0, 1, 2]) rfl ?_
 refine zA (d := 54) (v := PT Js2 6) (w' := w20) rfl rfl rfl (by go_simp) ?_
 simp only [Act.put, sa, sz, ss]
 refine zA (d := 55) (v := .slice none 0 0) (w' := w20) rfl rfl rfl (zJ H20.out.1 2 rfl rfl rfl Ai59 rfl) ?_
 simp only [Act.put, sa, sz, ss]
 refine zF (d := 56) (R := fun vv w' => vv = .tuple #[] ∧ ∃ vv', Ow w [Js4, Js7, Js2, gk, 0] vv' 8 (ct (lb [0, 0, 0, 0, 0, 0, 0, 0]) 8 (fun _ => 0)) w' ∧ Mm w' [(Js4, [vv']), (Js7, [Value.string ⟨#[]⟩, Value.string ⟨#[]⟩, Value.string ⟨#[]⟩]), (Js2, [Value.int .i64 0, Value.int .i64 0, Value.string ⟨#[]⟩, Value.string ⟨#[]⟩, Value.string ⟨#[]⟩, Value.slice none 0 0, Value.slice none 0 0, Value.int .i64 0, Value.slice none 0 0, Value.slice (some ⟨gk, 0, none⟩) 1 1, Value.slice none 0 0]), (gk, zkc), (0, dtab)]) rfl rfl rfl (zG (args := #[PT Js4 0, .int .i64 4, .slice none 0 0, .slice none 0 0]) rfl call43 rfl (mpn rfl)) (Calls.mono (put_none w Js4 [(Js7, [Value.string ⟨#[]⟩, Value.string ⟨#[]⟩, Value.string ⟨#[]⟩]), (Js2, [Value.int .i64 0, Value.int .i64 0, Value.string ⟨#[]⟩, Value.string ⟨#[]⟩, Value.string ⟨#[]⟩, Value.slice none 0 0, Value.slice none 0 0, Value.int .i64 0, Value.slice none 0 0, Value.slice (some ⟨gk, 0, none⟩) 1 1, Value.slice none 0 0]), (gk, zkc), (0, dtab)] v20 8 (lb [0, 0, 0, 0, 0, 0, 0, 0]) Pt8.no Pt8.no_ok (fun _ => rfl) (fun u _ => Pt8.no_rs u) 4 (show 8 + 0 ≤ 2097152 from by decide) o_Js4.out w20 (H20.out.1.sel [0, 1, 2, 3, 4] (by decide) rfl) (H20.out.2.sub (L' := [Js4, Js7, Js2, gk, 0]) (by simp))) (fun e w2 hh => ⟨_, hh.1, rfl, hh.2⟩)) ?_
 rintro _ w21 ⟨rfl, v21, hO, hM⟩
 have H21 : Hid (Mm w21 [(Js4, [v21]), (Js7, [Value.string ⟨#[]⟩, Value.string ⟨#[]⟩, Value.string ⟨#[]⟩]), (Js2, [Value.int .i64 0, Value.int .i64 0, Value.string ⟨#[]⟩, Value.string ⟨#[]⟩, Value.string ⟨#[]⟩, Value.slice none 0 0, Value.slice none 0 0, Value.int .i64 0, Value.slice none 0 0, Value.slice (some ⟨gk, 0, none⟩) 1 1, Value.slice none 0 0]), (gk, zkc), (0, dtab)] ∧ Ow w [Js4, Js7, Js2, gk, 0] v21 8 (lb [0, 0, 0, 0, 0, 0, 0, 0]) w21) := ⟨hM, hO.cg (show ∀ j, j < 8 → (ct (lb [0, 0, 0, 0, 0, 0, 0, 0]) 8 (fun _ => 0)) j = (lb [0, 0, 0, 0, 0, 0, 0, 0]) j from by decide)⟩
 clear hO hM H20
 simp only [Act.put, sa, sz, ss]
 refine zC (zB (wp_seq ?_))
 refine zD (l := [0, 1, 2, 3]) rfl ?_
 refine zA (d := 57) (v := PT Js2 7) (w' := w21) rfl rfl rfl (by go_simp) ?_
 simp only [Act.put, sa, sz, ss]
 refine zA (d := 58) (v := .int .i64 0) (w' := w21) rfl rfl rfl (zJ H21.out.1 2 rfl rfl rfl Ai28 rfl) ?_
 simp only [Act.put, sa, sz, ss]
 refine zA (d := 59) (v := .slice (some ⟨w21.heap.size, 0, none⟩) 1 1) (w' := (w21.alloc (.cells (zH .i64 (lb [0]) 1 : List Value).toArray 3))) rfl rfl rfl (ex_bsI1 (a := 0) rfl rfl) ?_
 simp only [Act.put, sa, sz, ss]
 have o_Js22 : Hid (w.heap.size ≤ w21.heap.size) := H21.out.2.size
 have H22 : Hid (Mm (w21.alloc (.cells (zH .i64 (lb [0]) 1 : List Value).toArray 3)) ((w21.heap.size, zH .i64 (lb [0]) 1) :: [(Js4, [v21]), (Js7, [Value.string ⟨#[]⟩, Value.string ⟨#[]⟩, Value.string ⟨#[]⟩]), (Js2, [Value.int .i64 0, Value.int .i64 0, Value.string ⟨#[]⟩, Value.string ⟨#[]⟩, Value.string ⟨#[]⟩, Value.slice none 0 0, Value.slice none 0 0, Value.int .i64 0, Value.slice none 0 0, Value.slice (some ⟨gk, 0, none⟩) 1 1, Value.slice none 0 0]), (gk, zkc), (0, dtab)]) ∧ Ow w [w21.heap.size, Js4, Js7, Js2, gk, 0] v21 8 (lb [0, 0, 0, 0, 0, 0, 0, 0]) (w21.alloc (.cells (zH .i64 (lb [0]) 1 : List Value).toArray 3))) := ⟨H21.out.1.alloc _ 3 rfl, Ow.alloc H21.out.2 _⟩
 clear H21
 generalize hgw : w21.alloc (.cells (zH .i64 (lb [0]) 1 : List Value).toArray 3) = w22 at H22 ⊢
 clear hgw
 generalize w21.heap.size = Js22 at o_Js22 H22 ⊢
 refine zF (d := 60) (R := fun vv w' => vv = .tuple #[] ∧ ∃ vv', Ow w [Js4, Js22, Js7, Js2, gk, 0] vv' 9 (ct (pbf (lb [0, 0, 0, 0, 0, 0, 0, 0]) 8 (lb [0]) 1) (8 + 1 * 1) (fun _ => 0)) w' ∧ Mm w' [(Js4, [vv']), (Js22, zH .i64 (lb [0]) 1), (Js7, [Value.string ⟨#[]⟩, Value.string ⟨#[]⟩, Value.string ⟨#[]⟩]), (Js2, [Value.int .i64 0, Value.int .i64 0, Value.string ⟨#[]⟩, Value.string ⟨#[]⟩, Value.string ⟨#[]⟩, Value.slice none 0 0, Value.slice none 0 0, Value.int .i64 0, Value.slice none 0 0, Value.slice (some ⟨gk, 0, none⟩) 1 1, Value.slice none 0 0]), (gk, zkc), (0, dtab)]) rfl rfl rfl (zG (args := #[PT Js4 0, .int .i64 1, .slice none 0 0, .slice (some ⟨Js22, 0, none⟩) 1 1]) rfl call43 rfl (mpn rfl)) (Calls.mono (put_any w Js4 Js22 [(Js7, [Value.string ⟨#[]⟩, Value.string ⟨#[]⟩, Value.string ⟨#[]⟩]), (Js2, [Value.int .i64 0, Value.int .i64 0, Value.string ⟨#[]⟩, Value.string ⟨#[]⟩, Value.string ⟨#[]⟩, Value.slice none 0 0, Value.slice none 0 0, Value.int .i64 0, Value.slice none 0 0, Value.slice (some ⟨gk, 0, none⟩) 1 1, Value.slice none 0 0]), (gk, zkc), (0, dtab)] v21 8 (lb [0, 0, 0, 0, 0, 0, 0, 0]) Pt8.no Pt8.no_ok (fun _ => rfl) (fun u _ => Pt8.no_rs u) (lb [0]) 1 1 (by decide) (by decide) (by decide) (show 8 + 1 * 1 + 0 ≤ 2097152 from by decide) o_Js4.out w22 (H22.out.1.sel [1, 0, 2, 3, 4, 5] (by decide) rfl) (H22.out.2.sub (L' := [Js4, Js22, Js7, Js2, gk, 0]) (by simp))) (fun e w2 hh => ⟨_, hh.1, rfl, hh.2⟩)) ?_
 rintro _ w23 ⟨rfl, v23, hO, hM⟩
 have H23 : Hid (Mm w23 [(Js4, [v23]), (Js7, [Value.string ⟨#[]⟩, Value.string ⟨#[]⟩, Value.string ⟨#[]⟩]), (Js2, [Value.int .i64 0, Value.int .i64 0, Value.string ⟨#[]⟩, Value.string ⟨#[]⟩, Value.string ⟨#[]⟩, Value.slice none 0 0, Value.slice none 0 0, Value.int .i64 0, Value.slice none 0 0, Value.slice (some ⟨gk, 0, none⟩) 1 1, Value.slice none 0 0]), (gk, zkc), (0, dtab)] ∧ Ow w [Js4, Js7, Js2, gk, 0] v23 9 (lb [0, 0, 0, 0, 0, 0, 0, 0, 0]) w23) := ⟨hM.sel [0, 2, 3, 4, 5] (by decide) rfl, (hO.sub (L' := [Js4, Js7, Js2, gk, 0]) (by simp)).cg (show ∀ j, j < 9 → (ct (pbf (lb [0, 0, 0, 0, 0, 0, 0, 0]) 8 (lb [0]) 1) (8 + 1 * 1) (fun _ => 0)) j = (lb [0, 0, 0, 0, 0, 0, 0, 0, 0]) j from by decide)⟩
 clear hO hM H22
 simp only [Act.put, sa, sz, ss]
 refine zC (zB (wp_seq ?_))
 refine zD (l := [0, 1, 2, 3, 4]) rfl ?_
 refine zA (d := 61) (v := PT Js2 8) (w' := w23) rfl rfl rfl (by go_simp) ?_
 simp only [Act.put, sa, sz, ss]
 refine zA (d := 62) (v := .slice none 0 0) (w' := w23) rfl rfl rfl (zJ H23.out.1 2 rfl rfl rfl Ai60 rfl) ?_
 simp only [Act.put, sa, sz, ss]
 refine zA (d := 63) (v := .int .i64 0) (w' := w23) rfl rfl rfl (by go_simp) ?_
 simp only [Act.put, sa, sz, ss]
 refine zA (d := 64) (v := .slice (some ⟨w23.heap.size, 0, none⟩) 1 1) (w' := (w23.alloc (.cells (zH .i64 (lb [0]) 1 : List Value).toArray 3))) rfl rfl rfl (ex_bsI1 (a := 0) rfl rfl) ?_
 simp only [Act.put, sa, sz, ss]
 have o_Js24 : Hid (w.heap.size ≤ w23.heap.size) := H23.out.2.size
 have H24 : Hid (Mm (w23.alloc (.cells (zH .i64 (lb [0]) 1 : List Value).toArray 3)) ((w23.heap.size, zH .i64 (lb [0]) 1) :: [(Js4, [v23]), (Js7, [Value.string ⟨#[]⟩, Value.string ⟨#[]⟩, Value.string ⟨#[]⟩]), (Js2, [Value.int .i64 0, Value.int .i64 0, Value.string ⟨#[]⟩, Value.string ⟨#[]⟩, Value.string ⟨#[]⟩, Value.slice none 0 0, Value.slice none 0 0, Value.int .i64 0, Value.slice none 0 0, Value.slice (some ⟨gk, 0, none⟩) 1 1, Value.slice none 0 0]), (gk, zkc), (0, dtab)]) ∧ Ow w [w23.heap.size, Js4, Js7, Js2, gk, 0] v23 9 (lb [0, 0, 0, 0, 0, 0, 0, 0, 0]) (w23.alloc (.cells (zH .i64 (lb [0]) 1 : List Value).toArray 3))) := ⟨H23.out.1.alloc _ 3 rfl, Ow.alloc H23.out.2 _⟩
 clear H23
 generalize hgw : w23.alloc (.cells (zH .i64 (lb [0]) 1 : List Value).toArray 3) = w24 at H24 ⊢
 clear hgw
 generalize w23.heap.size = Js24 at o_Js24 H24 ⊢
 refine zF (d := 65) (R := fun vv w' => vv = .tuple #[] ∧ ∃ vv', Ow w [Js4, Js24, Js7, Js2, gk, 0] vv' 10 (ct (pbf (lb [0, 0, 0, 0, 0, 0, 0, 0, 0]) 9 (lb [0]) 1) (9 + 1 * 1) (fun _ => 0)) w' ∧ Mm w' [(Js4, [vv']), (Js24, zH .i64 (lb [0]) 1), (Js7, [Value.string ⟨#[]⟩, Value.string ⟨#[]⟩, Value.string ⟨#[]⟩]), (Js2, [Value.int .i64 0, Value.int .i64 0, Value.string ⟨#[]⟩, Value.string ⟨#[]⟩, Value.string ⟨#[]⟩, Value.slice none 0 0, Value.slice none 0 0, Value.int .i64 0, Value.slice none 0 0, Value.slice (some ⟨gk, 0, none⟩) 1 1, Value.slice none 0 0]), (gk, zkc), (0, dtab)]) rfl rfl rfl (zG (args := #[PT Js4 0, .int .i64 1, .slice none 0 0, .slice (some ⟨Js24, 0, none⟩) 1 1]) rfl call43 rfl (mpn rfl)) (Calls.mono (put_any w Js4 Js24 [(Js7, [Value.string ⟨#[]⟩, Value.string ⟨#[]⟩, Value.string ⟨#[]⟩]), (Js2, [Value.int .i64 0, Value.int .i64 0, Value.string ⟨#[]⟩, Value.string ⟨#[]⟩, Value.string ⟨#[]⟩, Value.slice none 0 0, Value.slice none 0 0, Value.int .i64 0, Value.slice none 0 0, Value.slice (some ⟨gk, 0, none⟩) 1 1, Value.slice none 0 0]), (gk, zkc), (0, dtab)] v23 9 (lb [0, 0, 0, 0, 0, 0, 0, 0, 0]) Pt8.no Pt8.no_ok (fun _ => rfl) (fun u _ => Pt8.no_rs u) (lb [0]) 1 1 (by decide) (by decide) (by decide) (show 9 + 1 * 1 + 0 ≤ 2097152 from by decide) o_Js4.out w24 (H24.out.1.sel [1, 0, 2, 3, 4, 5] (by decide) rfl) (H24.out.2.sub (L' := [Js4, Js24, Js7, Js2, gk, 0]) (by simp))) (fun e w2 hh => ⟨_, hh.1, rfl, hh.2⟩)) ?_
 rintro _ w25 ⟨rfl, v25, hO, hM⟩
 have H25 : Hid (Mm w25 [(Js4, [v25]), (Js7, [Value.string ⟨#[]⟩, Value.string ⟨#[]⟩, Value.string ⟨#[]⟩]), (Js2, [Value.int .i64 0, Value.int .i64 0, Value.string ⟨#[]⟩, Value.string ⟨#[]⟩, Value.string ⟨#[]⟩, Value.slice none 0 0, Value.slice none 0 0, Value.int .i64 0, Value.slice none 0 0, Value.slice (some ⟨gk, 0, none⟩) 1 1, Value.slice none 0 0]), (gk, zkc), (0, dtab)] ∧ Ow w [Js4, Js7, Js2, gk, 0] v25 10 (lb [0, 0, 0, 0, 0, 0, 0, 0, 0, 0]) w25) := ⟨hM.sel [0, 2, 3, 4, 5] (by decide) rfl, (hO.sub (L' := [Js4, Js7, Js2, gk, 0]) (by simp)).cg (show ∀ j, j < 10 → (ct (pbf (lb [0, 0, 0, 0, 0, 0, 0, 0, 0]) 9 (lb [0]) 1) (9 + 1 * 1) (fun _ => 0)) j = (lb [0, 0, 0, 0, 0, 0, 0, 0, 0, 0]) j from by decide)⟩
 clear hO hM H24
 simp only [Act.put, sa, sz, ss]
 refine zC (zB ?_)
 refine wp_seq (wp_seq ?_)
 refine zD (l := [0, 1, 2, 3]) rfl ?_
 refine zA (d := 66) (v := PT Js2 8) (w' := w25) rfl rfl rfl (by go_simp) ?_
 simp only [Act.put, sa, sz, ss]
 refine zA (d := 67) (v := .slice none 0 0) (w' := w25) rfl rfl rfl (zJ H25.out.1 2 rfl rfl rfl Ai60 rfl) ?_
 simp only [Act.put, sa, sz, ss]
 refine zA (d := 68) (v := .int .i64 0) (w' := w25) rfl rfl rfl (by go_simp) ?_
 simp only [Act.put, sa, sz, ss]
 refine zA (d := 69) (v := .int .i64 0) (w' := w25) rfl rfl rfl (rfl) ?_
 simp only [Act.put, sa, sz, ss]
 refine zC (zB (wp_block ?_))
 refine wp_loop_rounds 4 ?_
 refine zU (n := 3) ?_
 refine wp_seq ?_
 refine zD (l := [0]) rfl ?_
 refine zA (d := 70) (v := .bool false) (w' := w25) rfl rfl rfl (by kernel_rfl) ?_
 simp only [Act.put, sa, sz, ss]
 refine zC (zB ?_)
 refine wp_seq (wp_cond_false rfl ?_)
 refine wp_exit ?_
 repeat refine zX ?_
 refine zT ?_
 refine zB (wp_seq ?_)
 refine zD (l := [0, 1, 2, 3, 4]) rfl ?_
 refine zA (d := 89) (v := PT Js2 9) (w' := w25) rfl rfl rfl (by go_simp) ?_
 simp only [Act.put, sa, sz, ss]
 refine zA (d := 90) (v := .slice (some ⟨gk, 0, none⟩) 1 1) (w' := w25) rfl rfl rfl (zJ H25.out.1 2 rfl rfl rfl Ai61 rfl) ?_
 simp only [Act.put, sa, sz, ss]
 refine zA (d := 91) (v := .func (.func 51) #[] #[PT Js2 0]) (w' := w25) rfl rfl rfl (by kernel_rfl) ?_
 simp only [Act.put, sa, sz, ss]
 refine zF (d := 92) (R := fun vv w' => vv = .int .i64 5 ∧ Below w.heap.size w w') rfl rfl rfl (zG (args := #[PT Js4 0, .slice (some ⟨gk, 0, none⟩) 1 1, .func (.func 50) #[] #[], .func (.func 51) #[] #[PT Js2 0]]) rfl call49 rfl (mpn rfl)) (Calls.mono (pointsK_bad w Js4 gk (.func (.func 51) #[] #[PT Js2 0]) [(Js7, [Value.string ⟨#[]⟩, Value.string ⟨#[]⟩, Value.string ⟨#[]⟩]), (Js2, [Value.int .i64 0, Value.int .i64 0, Value.string ⟨#[]⟩, Value.string ⟨#[]⟩, Value.string ⟨#[]⟩, Value.slice none 0 0, Value.slice none 0 0, Value.int .i64 0, Value.slice none 0 0, Value.slice (some ⟨gk, 0, none⟩) 1 1, Value.slice none 0 0])] v25 10 (lb [0, 0, 0, 0, 0, 0, 0, 0, 0, 0]) (by decide) o_Js4.out w25 (H25.out.1.sel [0, 3, 4, 1, 2] (by decide) rfl) (H25.out.2.sub (L' := [Js4, gk, 0, Js7, Js2]) (by simp))) (fun e w2 hh => ⟨_, hh.1, rfl, hh.2⟩)) ?_
 rintro _ w26 ⟨rfl, hb⟩
 have H26 : Hid (Mm w26 [] ∧ Below w.heap.size w w26) := ⟨Mm.nil _, hb⟩
 clear hb H25
 simp only [Act.put, sa, sz, ss]
 refine zA (d := 11) (v := .int .i64 5) (w' := w26) rfl rfl rfl (rfl) ?_
 simp only [Act.put, sa, sz, ss]
 refine zC (zB ?_)
 refine wp_seq (wp_seq ?_)
 refine zD (l := [0, 1]) rfl ?_
 refine zA (d := 93) (v := .int .i64 5) (w' := w26) rfl rfl rfl (rfl) ?_
 simp only [Act.put, sa, sz, ss]
 refine zA (d := 94) (v := .bool true) (w' := w26) rfl rfl rfl (by kernel_rfl) ?_
 simp only [Act.put, sa, sz, ss]
 refine zC (zB ?_)
 refine wp_cond_true rfl (wp_seq ?_)
 refine zD (l := [0, 1, 2]) rfl ?_
 refine zA (d := 95) (v := .int .i64 5) (w' := w26) rfl rfl rfl (rfl) ?_
 simp only [Act.put, sa, sz, ss]
 refine zA (d := 2) (v := .slice none 0 0) (w' := w26) rfl rfl rfl (rfl) ?_
 simp only [Act.put, sa, sz, ss]
 refine zA (d := 3) (v := .int .i64 5) (w' := w26) rfl rfl rfl (rfl) ?_
 simp only [Act.put, sa, sz, ss]
 refine zC (zB (wp_ret ?_))
 repeat (first | refine zL ?_ | refine zK ?_)
 refine bodyPost_ret (v := .tuple #[.slice none 0 0, .int .i64 5]) (by simp [results, Tryz.results19, go_sem, *]) rfl ?_
 exact ⟨rfl, H26.out.2⟩
set_option maxHeartbeats 2000000 in
theorem Check_2  (w : World) :
  Calls Tryz.prog 25 #[.agg ([Value.int .i64 256, Value.int .i64 0, Value.string ⟨#[]⟩, Value.string ⟨#[]⟩, Value.string ⟨#[]⟩, Value.slice none 0 0, Value.slice none 0 0, Value.int .i64 0, Value.slice none 0 0, Value.slice none 0 0, Value.slice none 0 0]).toArray] w (Rt w (.int .i64 2)) := by
 have H0 : Hid (_ ∧ _) := ⟨Mm.nil w, Below.refl w.heap.size w⟩
 go_enter Tryz.func25, Tryz.ntmps25
 refine wp_seq ?_
 refine zN (l := [0, 1]) rfl (fun u0 hu0 => ?_)
 have H1 : Hid (Mm u0 [] ∧ Below w.heap.size w u0) := by rw [hu0]; exact H0
 clear hu0 H0
 refine zA (d := 1) (v := PT u0.heap.size 0) (w' := (u0.alloc (.cells ([Value.int .i64 256, Value.int .i64 0, Value.string ⟨#[]⟩, Value.string ⟨#[]⟩, Value.string ⟨#[]⟩, Value.slice none 0 0, Value.slice none 0 0, Value.int .i64 0, Value.slice none 0 0, Value.slice none 0 0, Value.slice none 0 0] : List Value).toArray 64))) rfl rfl rfl (ex_boxT rfl rfl) ?_
 simp only [Act.put, sa, sz, ss]
 have o_Js2 : Hid (w.heap.size ≤ u0.heap.size) := H1.out.2.size
 have H2 : Hid (Mm (u0.alloc (.cells ([Value.int .i64 256, Value.int .i64 0, Value.string ⟨#[]⟩, Value.string ⟨#[]⟩, Value.string ⟨#[]⟩, Value.slice none 0 0, Value.slice none 0 0, Value.int .i64 0, Value.slice none 0 0, Value.slice none 0 0, Value.slice none 0 0] : List Value).toArray 64)) ((u0.heap.size, [Value.int .i64 256, Value.int .i64 0, Value.string ⟨#[]⟩, Value.string ⟨#[]⟩, Value.string ⟨#[]⟩, Value.slice none 0 0, Value.slice none 0 0, Value.int .i64 0, Value.slice none 0 0, Value.slice none 0 0, Value.slice none 0 0]) :: []) ∧ Below w.heap.size w (u0.alloc (.cells ([Value.int .i64 256, Value.int .i64 0, Value.string ⟨#[]⟩, Value.string ⟨#[]⟩, Value.string ⟨#[]⟩, Value.slice none 0 0, Value.slice none 0 0, Value.int .i64 0, Value.slice none 0 0, Value.slice none 0 0, Value.slice none 0 0] : List Value).toArray 64))) := ⟨H1.out.1.alloc _ 64 rfl, H1.out.2.trans (((Below.refl _ _).alloc (Nat.le_refl _) _).mono H1.out.2.size)⟩
 clear H1
 generalize hgw : u0.alloc (.cells ([Value.int .i64 256, Value.int .i64 0, Value.string ⟨#[]⟩, Value.string ⟨#[]⟩, Value.string ⟨#[]⟩, Value.slice none 0 0, Value.slice none 0 0, Value.int .i64 0, Value.slice none 0 0, Value.slice none 0 0, Value.slice none 0 0] : List Value).toArray 64) = w2 at H2 ⊢
 clear hgw
 generalize u0.heap.size = Js2 at o_Js2 H2 ⊢
 refine zA (d := 2) (v := .int .i64 0) (w' := w2) rfl rfl rfl (rfl) ?_
 simp only [Act.put, sa, sz, ss]
 refine zC (zB (wp_seq ?_))
 refine zD (l := [0, 1, 2, 3, 4, 5, 6]) rfl ?_
 refine zA (d := 6) (v := .agg ([Value.int .i64 256, Value.int .i64 0, Value.string ⟨#[]⟩, Value.string ⟨#[]⟩, Value.string ⟨#[]⟩, Value.slice none 0 0, Value.slice none 0 0, Value.int .i64 0, Value.slice none 0 0, Value.slice none 0 0, Value.slice none 0 0]).toArray) (w' := w2) rfl rfl rfl (ex_loadT H2.out.1 0 rfl rfl rfl Ai64 As64 rfl rfl) ?_
 simp only [Act.put, sa, sz, ss]
 refine zF (d := 7) (R := fun vv w' => vv = .tuple #[.slice none 0 0, .int .i64 2] ∧ Below w2.heap.size w2 w') rfl rfl rfl (zG (args := #[.agg ([Value.int .i64 256, Value.int .i64 0, Value.string ⟨#[]⟩, Value.string ⟨#[]⟩, Value.string ⟨#[]⟩, Value.slice none 0 0, Value.slice none 0 0, Value.int .i64 0, Value.slice none 0 0, Value.slice none 0 0, Value.slice none 0 0]).toArray]) rfl call19 rfl (mpn rfl)) (Calls.mono (Entry_2 w2) (fun e w2 hh => ⟨_, hh.1, rfl, hh.2⟩)) ?_
 rintro _ w3 ⟨rfl, hb⟩
 have H3 : Hid (Mm w3 [(Js2, [Value.int .i64 256, Value.int .i64 0, Value.string ⟨#[]⟩, Value.string ⟨#[]⟩, Value.string ⟨#[]⟩, Value.slice none 0 0, Value.slice none 0 0, Value.int .i64 0, Value.slice none 0 0, Value.slice none 0 0, Value.slice none 0 0])] ∧ Below w.heap.size w w3) := ⟨H2.out.1.below hb, H2.out.2.trans (hb.mono H2.out.2.size)⟩
 clear hb
 clear H2
 simp only [Act.put, sa, sz, ss]
 refine zA (d := 5) (v := .tuple #[.slice none 0 0, .int .i64 2]) (w' := w3) rfl rfl rfl (rfl) ?_
 simp only [Act.put, sa, sz, ss]
 refine zA (d := 8) (v := .slice none 0 0) (w' := w3) rfl rfl rfl (by go_simp) ?_
 simp only [Act.put, sa, sz, ss]
 refine zA (d := 9) (v := .int .i64 2) (w' := w3) rfl rfl rfl (by go_simp) ?_
 simp only [Act.put, sa, sz, ss]
 refine zA (d := 3) (v := .slice none 0 0) (w' := w3) rfl rfl rfl (rfl) ?_
 simp only [Act.put, sa, sz, ss]
 refine zA (d := 4) (v := .int .i64 2) (w' := w3) rfl rfl rfl (rfl) ?_
 simp only [Act.put, sa, sz, ss]
 refine zC (zB (wp_seq ?_))
 refine zD (l := [0, 1]) rfl ?_
 refine zA (d := 10) (v := .int .i64 2) (w' := w3) rfl rfl rfl (rfl) ?_
 simp only [Act.put, sa, sz, ss]
 refine zA (d := 2) (v := .int .i64 2) (w' := w3) rfl rfl rfl (rfl) ?_
 simp only [Act.put, sa, sz, ss]
 refine zC (zB (wp_ret ?_))
 repeat (first | refine zL ?_ | refine zK ?_)
 refine bodyPost_ret (v := .int .i64 2) (by simp [results, Tryz.results25, go_sem, *]) rfl ?_
 exact ⟨rfl, H3.out.2⟩
set_option maxHeartbeats 2000000 in
theorem Check_3  (w : World) :
  Calls Tryz.prog 25 #[.agg ([Value.int .i64 0, Value.int .i64 0, Value.string ⟨#[]⟩, Value.string ⟨#[]⟩, Value.string ⟨#[]⟩, Value.slice none 0 0, Value.slice none 0 0, Value.int .i64 3, Value.slice none 0 0, Value.slice none 0 0, Value.slice none 0 0]).toArray] w (Rt w (.int .i64 2)) := by
 have H0 : Hid (_ ∧ _) := ⟨Mm.nil w, Below.refl w.heap.size w⟩
 go_enter Tryz.func25, Tryz.ntmps25
 refine wp_seq ?_
 refine zN (l := [0, 1]) rfl (fun u0 hu0 => ?_)
 have H1 : Hid (Mm u0 [] ∧ Below w.heap.size w u0) := by rw [hu0]; exact H0
 clear hu0 H0
 refine zA (d := 1) (v := PT u0.heap.size 0) (w' := (u0.alloc (.cells ([Value.int .i64 0, Value.int .i64 0, Value.string ⟨#[]⟩, Value.string ⟨#[]⟩, Value.string ⟨#[]⟩, Value.slice none 0 0, Value.slice none 0 0, Value.int .i64 3, Value.slice none 0 0, Value.slice none 0 0, Value.slice none 0 0] : List Value).toArray 64))) rfl rfl rfl (ex_boxT rfl rfl) ?_
 simp only [Act.put, sa, sz, ss]
 have o_Js2 : Hid (w.heap.size ≤ u0.heap.size) := H1.out.2.size
 have H2 : Hid (Mm (u0.alloc (.cells ([Value.int .i64 0, Value.int .i64 0, Value.string ⟨#[]⟩, Value.string ⟨#[]⟩, Value.string ⟨#[]⟩, Value.slice none 0 0, Value.slice none 0 0, Value.int .i64 3, Value.slice none 0 0, Value.slice none 0 0, Value.slice none 0 0] : List Value).toArray 64)) ((u0.heap.size, [Value.int .i64 0, Value.int .i64 0, Value.string ⟨#[]⟩, Value.string ⟨#[]⟩, Value.string ⟨#[]⟩, Value.slice none 0 0, Value.slice none 0 0, Value.int .i64 3, Value.slice none 0 0, Value.slice none 0 0, Value.slice none 0 0]) :: []) ∧ Below w.heap.size w (u0.alloc (.cells ([Value.int .i64 0, Value.int .i64 0, Value.string ⟨#[]⟩, Value.string ⟨#[]⟩, Value.string ⟨#[]⟩, Value.slice none 0 0, Value.slice none 0 0, Value.int .i64 3, Value.slice none 0 0, Value.slice none 0 0, Value.slice none 0 0] : List Value).toArray 64))) := ⟨H1.out.1.alloc _ 64 rfl, H1.out.2.trans (((Below.refl _ _).alloc (Nat.le_refl _) _).mono H1.out.2.size)⟩
 clear H1
 generalize hgw : u0.alloc (.cells ([Value.int .i64 0, Value.int .i64 0, Value.string ⟨#[]⟩, Value.string ⟨#[]⟩, Value.string ⟨#[]⟩, Value.slice none 0 0, Value.slice none 0 0, Value.int .i64 3, Value.slice none 0 0, Value.slice none 0 0, Value.slice none 0 0] : List Value).toArray 64) = w2 at H2 ⊢
 clear hgw
 generalize u0.heap.size = Js2 at o_Js2 H2 ⊢
 refine zA (d := 2) (v := .int .i64 0) (w' := w2) rfl rfl rfl (rfl) ?_
 simp only [Act.put, sa, sz, ss]
 refine zC (zB (wp_seq ?_))
 refine zD (l := [0, 1, 2, 3, 4, 5, 6]) rfl ?_
 refine zA (d := 6) (v := .agg ([Value.int .i64 0, Value.int .i64 0, Value.string ⟨#[]⟩, Value.string ⟨#[]⟩, Value.string ⟨#[]⟩, Value.slice none 0 0, Value.slice none 0 0, Value.int .i64 3, Value.slice none 0 0, Value.slice none 0 0, Value.slice none 0 0]).toArray) (w' := w2) rfl rfl rfl (ex_loadT H2.out.1 0 rfl rfl rfl Ai64 As64 rfl rfl) ?_
 simp only [Act.put, sa, sz, ss]
 refine zF (d := 7) (R := fun vv w' => vv = .tuple #[.slice none 0 0, .int .i64 2] ∧ Below w2.heap.size w2 w') rfl rfl rfl (zG (args := #[.agg ([Value.int .i64 0, Value.int .i64 0, Value.string ⟨#[]⟩, Value.string ⟨#[]⟩, Value.string ⟨#[]⟩, Value.slice none 0 0, Value.slice none 0 0, Value.int .i64 3, Value.slice none 0 0, Value.slice none 0 0, Value.slice none 0 0]).toArray]) rfl call19 rfl (mpn rfl)) (Calls.mono (Entry_3 w2) (fun e w2 hh => ⟨_, hh.1, rfl, hh.2⟩)) ?_
 rintro _ w3 ⟨rfl, hb⟩
 have H3 : Hid (Mm w3 [(Js2, [Value.int .i64 0, Value.int .i64 0, Value.string ⟨#[]⟩, Value.string ⟨#[]⟩, Value.string ⟨#[]⟩, Value.slice none 0 0, Value.slice none 0 0, Value.int .i64 3, Value.slice none 0 0, Value.slice none 0 0, Value.slice none 0 0])] ∧ Below w.heap.size w w3) := ⟨H2.out.1.below hb, H2.out.2.trans (hb.mono H2.out.2.size)⟩
 clear hb
 clear H2
 simp only [Act.put, sa, sz, ss]
 refine zA (d := 5) (v := .tuple #[.slice none 0 0, .int .i64 2]) (w' := w3) rfl rfl rfl (rfl) ?_
 simp only [Act.put, sa, sz, ss]
 refine zA (d := 8) (v := .slice none 0 0) (w' := w3) rfl rfl rfl (by go_simp) ?_
 simp only [Act.put, sa, sz, ss]
 refine zA (d := 9) (v := .int .i64 2) (w' := w3) rfl rfl rfl (by go_simp) ?_
 simp only [Act.put, sa, sz, ss]
 refine zA (d := 3) (v := .slice none 0 0) (w' := w3) rfl rfl rfl (rfl) ?_
 simp only [Act.put, sa, sz, ss]
 refine zA (d := 4) (v := .int .i64 2) (w' := w3) rfl rfl rfl (rfl) ?_
 simp only [Act.put, sa, sz, ss]
 refine zC (zB (wp_seq ?_))
 refine zD (l := [0, 1]) rfl ?_
 refine zA (d := 10) (v := .int .i64 2) (w' := w3) rfl rfl rfl (rfl) ?_
 simp only [Act.put, sa, sz, ss]
 refine zA (d := 2) (v := .int .i64 2) (w' := w3) rfl rfl rfl (rfl) ?_
 simp only [Act.put, sa, sz, ss]
 refine zC (zB (wp_ret ?_))
 repeat (first | refine zL ?_ | refine zK ?_)
 refine bodyPost_ret (v := .int .i64 2) (by simp [results, Tryz.results25, go_sem, *]) rfl ?_
 exact ⟨rfl, H3.out.2⟩
set_option maxHeartbeats 2000000 in
theorem Check_4 (gn : Nat) (w : World) (hm : Mm w [(gn, zE 65521)]) :
  Calls Tryz.prog 25 #[.agg ([Value.int .i64 0, Value.int .i64 0, Value.string ⟨#[]⟩, Value.string ⟨#[]⟩, Value.string ⟨#[]⟩, Value.slice none 0 0, Value.slice none 0 0, Value.int .i64 1, Value.slice (some ⟨gn, 0, none⟩) 1 1, Value.slice none 0 0, Value.slice none 0 0]).toArray] w (Rt w (.int .i64 2)) := by
 have H0 : Hid (_ ∧ _) := ⟨hm, Below.refl w.heap.size w⟩
 clear hm
 go_enter Tryz.func25, Tryz.ntmps25
 refine wp_seq ?_
 refine zN (l := [0, 1]) rfl (fun u0 hu0 => ?_)
 have H1 : Hid (Mm u0 [(gn, zE 65521)] ∧ Below w.heap.size w u0) := by rw [hu0]; exact H0
 clear hu0 H0
 refine zA (d := 1) (v := PT u0.heap.size 0) (w' := (u0.alloc (.cells ([Value.int .i64 0, Value.int .i64 0, Value.string ⟨#[]⟩, Value.string ⟨#[]⟩, Value.string ⟨#[]⟩, Value.slice none 0 0, Value.slice none 0 0, Value.int .i64 1, Value.slice (some ⟨gn, 0, none⟩) 1 1, Value.slice none 0 0, Value.slice none 0 0] : List Value).toArray 64))) rfl rfl rfl (ex_boxT rfl rfl) ?_
 simp only [Act.put, sa, sz, ss]
 have o_Js2 : Hid (w.heap.size ≤ u0.heap.size) := H1.out.2.size
 have H2 : Hid (Mm (u0.alloc (.cells ([Value.int .i64 0, Value.int .i64 0, Value.string ⟨#[]⟩, Value.string ⟨#[]⟩, Value.string ⟨#[]⟩, Value.slice none 0 0, Value.slice none 0 0, Value.int .i64 1, Value.slice (some ⟨gn, 0, none⟩) 1 1, Value.slice none 0 0, Value.slice none 0 0] : List Value).toArray 64)) ((u0.heap.size, [Value.int .i64 0, Value.int .i64 0, Value.string ⟨#[]⟩, Value.string ⟨#[]⟩, Value.string ⟨#[]⟩, Value.slice none 0 0, Value.slice none 0 0, Value.int .i64 1, Value.slice (some ⟨gn, 0, none⟩) 1 1, Value.slice none 0 0, Value.slice none 0 0]) :: [(gn, zE 65521)]) ∧ Below w.heap.size w (u0.alloc (.cells ([Value.int .i64 0, Value.int .i64 0, Value.string ⟨#[]⟩, Value.string ⟨#[]⟩, Value.string ⟨#[]⟩, Value.slice none 0 0, Value.slice none 0 0, Value.int .i64 1, Value.slice (some ⟨gn, 0, none⟩) 1 1, Value.slice none 0 0, Value.slice none 0 0] : List Value).toArray 64))) := ⟨H1.out.1.alloc _ 64 rfl, H1.out.2.trans (((Below.refl _ _).alloc (Nat.le_refl _) _).mono H1.out.2.size)⟩
 clear H1
 generalize hgw : u0.alloc (.cells ([Value.int .i64 0, Value.int .i64 0, Value.string ⟨#[]⟩, Value.string ⟨#[]⟩, Value.string ⟨#[]⟩, Value.slice none 0 0, Value.slice none 0 0, Value.int .i64 1, Value.slice (some ⟨gn, 0, none⟩) 1 1, Value.slice none 0 0, Value.slice none 0 0] : List Value).toArray 64) = w2 at H2 ⊢
 clear hgw
 generalize u0.heap.size = Js2 at o_Js2 H2 ⊢
 refine zA (d := 2) (v := .int .i64 0) (w' := w2) rfl rfl rfl (rfl) ?_
 simp only [Act.put, sa, sz, ss]
 refine zC (zB (wp_seq ?_))
 refine zD (l := [0, 1, 2, 3, 4, 5, 6]) rfl ?_
 refine zA (d := 6) (v := .agg ([Value.int .i64 0, Value.int .i64 0, Value.string ⟨#[]⟩, Value.string ⟨#[]⟩, Value.string ⟨#[]⟩, Value.slice none 0 0, Value.slice none 0 0, Value.int .i64 1, Value.slice (some ⟨gn, 0, none⟩) 1 1, Value.slice none 0 0, Value.slice none 0 0]).toArray) (w' := w2) rfl rfl rfl (ex_loadT H2.out.1 0 rfl rfl rfl Ai64 As64 rfl rfl) ?_
 simp only [Act.put, sa, sz, ss]
 refine zF (d := 7) (R := fun vv w' => vv = .tuple #[.slice none 0 0, .int .i64 2] ∧ Below w2.heap.size w2 w') rfl rfl rfl (zG (args := #[.agg ([Value.int .i64 0, Value.int .i64 0, Value.string ⟨#[]⟩, Value.string ⟨#[]⟩, Value.string ⟨#[]⟩, Value.slice none 0 0, Value.slice none 0 0, Value.int .i64 1, Value.slice (some ⟨gn, 0, none⟩) 1 1, Value.slice none 0 0, Value.slice none 0 0]).toArray]) rfl call19 rfl (mpn rfl)) (Calls.mono (Entry_4 gn w2 (H2.out.1.one 1 rfl)) (fun e w2 hh => ⟨_, hh.1, rfl, hh.2⟩)) ?_
 rintro _ w3 ⟨rfl, hb⟩
 have H3 : Hid (Mm w3 [(Js2, [Value.int .i64 0, Value.int .i64 0, Value.string ⟨#[]⟩, Value.string ⟨#[]⟩, Value.string ⟨#[]⟩, Value.slice none 0 0, Value.slice none 0 0, Value.int .i64 1, Value.slice (some ⟨gn, 0, none⟩) 1 1, Value.slice none 0 0, Value.slice none 0 0]), (gn, zE 65521)] ∧ Below w.heap.size w w3) := ⟨H2.out.1.below hb, H2.out.2.trans (hb.mono H2.out.2.size)⟩
 clear hb
 clear H2
 simp only [Act.put, sa, sz, ss]
 refine zA (d := 5) (v := .tuple #[.slice none 0 0, .int .i64 2]) (w' := w3) rfl rfl rfl (rfl) ?_
 simp only [Act.put, sa, sz, ss]
 refine zA (d := 8) (v := .slice none 0 0) (w' := w3) rfl rfl rfl (by go_simp) ?_
 simp only [Act.put, sa, sz, ss]
 refine zA (d := 9) (v := .int .i64 2) (w' := w3) rfl rfl rfl (by go_simp) ?_
 simp only [Act.put, sa, sz, ss]
 refine zA (d := 3) (v := .slice none 0 0) (w' := w3) rfl rfl rfl (rfl) ?_
 simp only [Act.put, sa, sz, ss]
 refine zA (d := 4) (v := .int .i64 2) (w' := w3) rfl rfl rfl (rfl) ?_
 simp only [Act.put, sa, sz, ss]
 refine zC (zB (wp_seq ?_))
 refine zD (l := [0, 1]) rfl ?_
 refine zA (d := 10) (v := .int .i64 2) (w' := w3) rfl rfl rfl (rfl) ?_
 simp only [Act.put, sa, sz, ss]
 refine zA (d := 2) (v := .int .i64 2) (w' := w3) rfl rfl rfl (rfl) ?_
 simp only [Act.put, sa, sz, ss]
 refine zC (zB (wp_ret ?_))
 repeat (first | refine zL ?_ | refine zK ?_)
 refine bodyPost_ret (v := .int .i64 2) (by simp [results, Tryz.results25, go_sem, *]) rfl ?_
 exact ⟨rfl, H3.out.2⟩
set_option maxHeartbeats 2000000 in
theorem Check_5 (gk : Nat) (w : World) (hm : Mm w [(gk, zkc), (0, dtab)]) :
  Calls Tryz.prog 25 #[.agg ([Value.int .i64 0, Value.int .i64 0, Value.string ⟨#[]⟩, Value.string ⟨#[]⟩, Value.string ⟨#[]⟩, Value.slice none 0 0, Value.slice none 0 0, Value.int .i64 0, Value.slice none 0 0, Value.slice (some ⟨gk, 0, none⟩) 1 1, Value.slice none 0 0]).toArray] w (Rt w (.int .i64 5)) := by
 have H0 : Hid (_ ∧ _) := ⟨hm, Below.refl w.heap.size w⟩
 clear hm
 go_enter Tryz.func25, Tryz.ntmps25
 refine wp_seq ?_
 refine zN (l := [0, 1]) rfl (fun u0 hu0 => ?_)
 have H1 : Hid (Mm u0 [(gk, zkc), (0, dtab)] ∧ Below w.heap.size w u0) := by rw [hu0]; exact H0
 clear hu0 H0
 refine zA (d := 1) (v := PT u0.heap.size 0) (w' := (u0.alloc (.cells ([Value.int .i64 0, Value.int .i64 0, Value.string ⟨#[]⟩, Value.string ⟨#[]⟩, Value.string ⟨#[]⟩, Value.slice none 0 0, Value.slice none 0 0, Value.int .i64 0, Value.slice none 0 0, Value.slice (some ⟨gk, 0, none⟩) 1 1, Value.slice none 0 0] : List Value).toArray 64))) rfl rfl rfl (ex_boxT rfl rfl) ?_
 simp only [Act.put, sa, sz, ss]
 have o_Js2 : Hid (w.heap.size ≤ u0.heap.size) := H1.out.2.size
 have H2 : Hid (Mm (u0.alloc (.cells ([Value.int .i64 0, Value.int .i64 0, Value.string ⟨#[]⟩, Value.string ⟨#[]⟩, Value.string ⟨#[]⟩, Value.slice none 0 0, Value.slice none 0 0, Value.int .i64 0, Value.slice none 0 0, Value.slice (some ⟨gk, 0, none⟩) 1 1, Value.slice none 0 0] : List Value).toArray 64)) ((u0.heap.size, [Value.int .i64 0, Value.int .i64 0, Value.string ⟨#[]⟩, Value.string ⟨#[]⟩, Value.string ⟨#[]⟩, Value.slice none 0 0, Value.slice none 0 0, Value.int .i64 0, Value.slice none 0 0, Value.slice (some ⟨gk, 0, none⟩) 1 1, Value.slice none 0 0]) :: [(gk, zkc), (0, dtab)]) ∧ Below w.heap.size w (u0.alloc (.cells ([Value.int .i64 0, Value.int .i64 0, Value.string ⟨#[]⟩, Value.string ⟨#[]⟩, Value.string ⟨#[]⟩, Value.slice none 0 0, Value.slice none 0 0, Value.int .i64 0, Value.slice none 0 0, Value.slice (some ⟨gk, 0, none⟩) 1 1, Value.slice none 0 0] : List Value).toArray 64))) := ⟨H1.out.1.alloc _ 64 rfl, H1.out.2.trans (((Below.refl _ _).alloc (Nat.le_refl _) _).mono H1.out.2.size)⟩
 clear H1
 generalize hgw : u0.alloc (.cells ([Value.int .i64 0, Value.int .i64 0, Value.string ⟨#[]⟩, Value.string ⟨#[]⟩, Value.string ⟨#[]⟩, Value.slice none 0 0, Value.slice none 0 0, Value.int .i64 0, Value.slice none 0 0, Value.slice (some ⟨gk, 0, none⟩) 1 1, Value.slice none 0 0] : List Value).toArray 64) = w2 at H2 ⊢
 clear hgw
 generalize u0.heap.size = Js2 at o_Js2 H2 ⊢
 refine zA (d := 2) (v := .int .i64 0) (w' := w2) rfl rfl rfl (rfl) ?_
 simp only [Act.put, sa, sz, ss]
 refine zC (zB (wp_seq ?_))
 refine zD (l := [0, 1, 2, 3, 4, 5, 6]) rfl ?_
 refine zA (d := 6) (v := .agg ([Value.int .i64 0, Value.int .i64 0, Value.string ⟨#[]⟩, Value.string ⟨#[]⟩, Value.string ⟨#[]⟩, Value.slice none 0 0, Value.slice none 0 0, Value.int .i64 0, Value.slice none 0 0, Value.slice (some ⟨gk, 0, none⟩) 1 1, Value.slice none 0 0]).toArray) (w' := w2) rfl rfl rfl (ex_loadT H2.out.1 0 rfl rfl rfl Ai64 As64 rfl rfl) ?_
 simp only [Act.put, sa, sz, ss]
 refine zF (d := 7) (R := fun vv w' => vv = .tuple #[.slice none 0 0, .int .i64 5] ∧ Below w2.heap.size w2 w') rfl rfl rfl (zG (args := #[.agg ([Value.int .i64 0, Value.int .i64 0, Value.string ⟨#[]⟩, Value.string ⟨#[]⟩, Value.string ⟨#[]⟩, Value.slice none 0 0, Value.slice none 0 0, Value.int .i64 0, Value.slice none 0 0, Value.slice (some ⟨gk, 0, none⟩) 1 1, Value.slice none 0 0]).toArray]) rfl call19 rfl (mpn rfl)) (Calls.mono (Entry_5 gk w2 (H2.out.1.two 1 2 rfl rfl (by decide))) (fun e w2 hh => ⟨_, hh.1, rfl, hh.2⟩)) ?_
 rintro _ w3 ⟨rfl, hb⟩
 have H3 : Hid (Mm w3 [(Js2, [Value.int .i64 0, Value.int .i64 0, Value.string ⟨#[]⟩, Value.string ⟨#[]⟩, Value.string ⟨#[]⟩, Value.slice none 0 0, Value.slice none 0 0, Value.int .i64 0, Value.slice none 0 0, Value.slice (some ⟨gk, 0, none⟩) 1 1, Value.slice none 0 0]), (gk, zkc), (0, dtab)] ∧ Below w.heap.size w w3) := ⟨H2.out.1.below hb, H2.out.2.trans (hb.mono H2.out.2.size)⟩
 clear hb
 clear H2
 simp only [Act.put, sa, sz, ss]
 refine zA (d := 5) (v := .tuple #[.slice none 0 0, .int .i64 5]) (w' := w3) rfl rfl rfl (rfl) ?_
 simp only [Act.put, sa, sz, ss]
 refine zA (d := 8) (v := .slice none 0 0) (w' := w3) rfl rfl rfl (by go_simp) ?_
 simp only [Act.put, sa, sz, ss]
 refine zA (d := 9) (v := .int .i64 5) (w' := w3) rfl rfl rfl (by go_simp) ?_
 simp only [Act.put, sa, sz, ss]
 refine zA (d := 3) (v := .slice none 0 0) (w' := w3) rfl rfl rfl (rfl) ?_
 simp only [Act.put, sa, sz, ss]
 refine zA (d := 4) (v := .int .i64 5) (w' := w3) rfl rfl rfl (rfl) ?_
 simp only [Act.put, sa, sz, ss]
 refine zC (zB (wp_seq ?_))
 refine zD (l := [0, 1]) rfl ?_
 refine zA (d := 10) (v := .int .i64 5) (w' := w3) rfl rfl rfl (rfl) ?_
 simp only [Act.put, sa, sz, ss]
 refine zA (d := 2) (v := .int .i64 5) (w' := w3) rfl rfl rfl (rfl) ?_
 simp only [Act.put, sa, sz, ss]
 refine zC (zB (wp_ret ?_))
 repeat (first | refine zL ?_ | refine zK ?_)
 refine bodyPost_ret (v := .int .i64 5) (by simp [results, Tryz.results25, go_sem, *]) rfl ?_
 exact ⟨rfl, H3.out.2⟩
end Wi
end Rg
end Go.Proofs.YtahghpkjkfaieaaGreatDoor
end
