/- Texts of the proof, joined. -/
import Derived.Test.YtmanelnacifgcaaGreatDoorP6
import Derived.Laws.Append
import Derived.Laws.AppendOwn
import Derived.Laws.BytesArg
set_option maxRecDepth 100000
section
namespace Go.Proofs.YtmanelnacifgcaaGreatDoor
open Go.RowKit
namespace Rg
def cat8 (f : Nat → Int) (n : Nat) (f2 : Nat → Int) : Nat → Int := fun j => if j < n then f j else f2 (j - n)
theorem cat8_app (f f2 : Nat → Int) (n m : Nat) : by8 f n ++ by8 f2 m = by8 (cat8 f n f2) (n + m) := by
 apply List.ext_getElem?
 intro j
 rw [List.getElem?_append, by8_len]
 by_cases h : j < n
 ·rw [if_pos h, by8_get f h, by8_get _ (by omega)]
  unfold cat8
  rw [if_pos h]
 ·rw [if_neg h]
  by_cases h2 : j < n + m
  ·rw [by8_get f2 (by omega), by8_get _ h2]
   unfold cat8
   rw [if_neg h]
  ·rw [List.getElem?_eq_none (by rw [by8_len]; omega), List.getElem?_eq_none (by rw [by8_len]; omega)]
theorem Blk.first {w : World} {g : Nat} {cs ds : List Value} (h : Blk w g (cs ++ ds)) : Blk w g cs := fun j v hj => h j v (by
 have := (List.getElem?_eq_some_iff.1 hj).1
 rw [List.getElem?_append, if_pos this]
 exact hj)
theorem Mm.first {w : World} {L : List (Nat × List Value)} {g : Nat} {cs ds : List Value} (h : Mm w ((g, cs ++ ds) :: L)) : Mm w ((g, cs) :: L) :=
 ⟨fun p hp => by
  rcases List.mem_cons.1 hp with rfl | hp
  ·exact ⟨(h.blk _ (List.mem_cons_self ..)).1, Blk.first (h.blk _ (List.mem_cons_self ..)).2⟩
  ·exact h.blk p (List.mem_cons_of_mem _ hp), by
  have := h.nd
  rw [List.pairwise_cons] at this ⊢
  exact this⟩
theorem rest_app8 {ops : Array Oper} {Q : Exit → Act → World → Prop} {a : Act} {w w0 : World} {L : List (Nat × List Value)} {i : Nat} {r : List Nat} {o : Oper} {s x : Operand} {g1 g2 n1 n2 c1 c2 d : Nat} {f1 f2 : Nat → Int}
  (ho : ops[i]? = some o) (hw : Region.wanted o (yielded ops a.tmps) = true) (hop : o.op = .call { callee := .builtin .append, args := #[s, x], argTypes := #[55, 55] }) (hd : o.dst = some d)
  (hs : a.eval s = .slice (some ⟨g1, 0, none⟩) n1 c1) (hx : a.eval x = .slice (some ⟨g2, 0, none⟩) n2 c2) (H : Hid (Mm w L ∧ Below w0.heap.size w0 w)) (k1 k2 : Nat) (h1 : L[k1]? = some (g1, by8 f1 n1)) (h2 : L[k2]? = some (g2, by8 f2 n2)) (hc : c1 < n1 + n2) (hb : n1 + n2 ≤ 1048576)
  (h : ∀ g cap w', Hid (w0.heap.size ≤ g) → Hid (Mm w' ((g, by8 (cat8 f1 n1 f2) (n1 + n2)) :: L) ∧ Below w0.heap.size w0 w') → wpOps Tryz.prog ops Q r (a.put (some d) (.slice (some ⟨g, 0, none⟩) (n1 + n2) (n1 + n2 + cap))) w') : wpOps Tryz.prog ops Q (i :: r) a w := by
 obtain ⟨i0, hi⟩ : ∃ i0, Tryz.prog.info? 5 = some i0 := Option.isSome_iff_exists.1 (by kernel_rfl)
 have hz : (Tryz.prog.info? 5).map (fun i => (i.zero, i.size, i.bytes)) = some (some (.int .u8 0), 1, 1) := by kernel_rfl
 rw [hi] at hz
 simp only [Option.map_some, Option.some.injEq, Prod.mk.injEq] at hz
 obtain ⟨hz0, hz1, hz2⟩ := hz
 have hr := run_append_grow (P := Tryz.prog) w 55 o.type 5 i0 (.int .u8 0) Tryz.underlying55 hi hz0 ⟨g1, 0, none⟩ n1 c1 (by8 f1 n1) (by rw [hz1, by8_len, Nat.mul_one])
  (fun j v hj => by rw [Addr.add_lit, Nat.zero_add]; exact H.out.1.cell (List.mem_of_getElem? h1) hj)
  ⟨g2, 0, none⟩ n2 c2 (by8 f2 n2) (by rw [hz1, by8_len, Nat.mul_one])
  (fun j v hj => by rw [Addr.add_lit, Nat.zero_add]; exact H.out.1.cell (List.mem_of_getElem? h2) hj) hc (by omega) (by rw [hz2]; exact growslice_fits hc (by omega))
 have hv : (execOp a.eval o).run Tryz.prog w = .ok (.value (.slice (some ⟨w.heap.size, 0, none⟩) (n1 + n2) (grownCap w (n1 + n2) c1 5))) (w.drew.alloc (.cells ((by8 f1 n1).toArray ++ (by8 f2 n2).toArray ++ Builtin.zeroCells (Value.int .u8 0).cells (grownCap w (n1 + n2) c1 5 - (n1 + n2))) 5)) := by
  unfold execOp
  simp only [hop, resolve, invoke, builtin, Sem.run_bind, Sem.run_pure, Result.andThen_ok, List.map_toArray, List.map_cons, List.map_nil, hs, hx, hr]
 refine rest_value ho hw hv ?_
 rw [hd]
 obtain ⟨q, hq⟩ := Nat.exists_eq_add_of_le (grownCap_ge w (n1 + n2) c1 5)
 generalize Builtin.zeroCells (Value.int .u8 0).cells (grownCap w (n1 + n2) c1 5 - (n1 + n2)) = Z
 have e : (by8 f1 n1).toArray ++ (by8 f2 n2).toArray ++ Z = (by8 (cat8 f1 n1 f2) (n1 + n2) ++ Z.toList).toArray := by
  rw [← cat8_app]
  apply Array.ext'
  simp
 rw [e, hq]
 exact h _ q _ H.out.2.size ⟨(H.out.1.drew.alloc _ 5 rfl).first, H.out.2.drew.alloc H.out.2.size _⟩
set_option maxHeartbeats 2000000 in
theorem bytes2_ok (x0 x1 y0 y1 : Nat) (zb bl : Bool) (ck : ∀ w, Mm w [(2, dtab)] → Calls Tryz.prog 31 #[.agg (pc2 x0 x1 y0 y1 zb).toArray] w (Rt w (.bool true))) (cb : ∀ x w, Calls Tryz.prog 50 #[N x] w fun e w' => Below w.heap.size w w' ∧ ∃ g, e = .returned (.slice (some ⟨g, 0, none⟩) 48 48) ∧ w.heap.size ≤ g ∧ g < w'.heap.size ∧ Blk w' g (by8 (nby x) 48)) (cg : ∀ w, Calls Tryz.prog 54 #[V [y0, y1]] w (Rt w (.bool bl))) (w : World) (hm : Mm w [(2, dtab)]) :
  Calls Tryz.prog 27 #[.agg (pc2 x0 x1 y0 y1 zb).toArray] w fun e w' => Below w.heap.size w w' ∧ ∃ g cap, e = .returned (.tuple #[.slice (some ⟨g, 0, none⟩) 96 (96 + cap), .int .i64 0]) ∧ w.heap.size ≤ g ∧ g < w'.heap.size ∧ Blk w' g (by8 (upd (cat8 (nby x1) 48 (nby x0)) 0 (fl8 zb bl (cat8 (nby x1) 48 (nby x0) 0))) 96) := by
 have H0 : Hid (_ ∧ _) := ⟨hm, Below.refl w.heap.size w⟩
 clear hm
 have CK : Hid _ := ck
 clear ck
 have CB : Hid _ := cb
 clear cb
 have CG : Hid _ := cg
 clear cg
 go_enter Tryz.func27, Tryz.ntmps27
 refine wp_seq ?_
 refine zC 3 [.made (pc2 x0 x1 y0 y1 zb) 35, .q (.slice none 0 0), .q (.int .i64 0)] (sB H0) ?ho1 ?he1
 case ho1 => exact am (zQ rfl rfl) (ar (ar trivial))
 intro J w1 l hM hl
 have H1 : Hid (Mm w1 ([(J 0, pc2 x0 x1 y0 y1 zb)] ++ _) ∧ _) := wB H0 hM hl [0]
 have o1_0 := vB H0 hM hl 0
 clear hM hl l
 generalize J 0 = J1_0 at H1 o1_0 ⊢
 clear J
 refine rN (wp_seq (wp_seq ?_))
 refine zD 3 [.q (.agg (pc2 x0 x1 y0 y1 zb).toArray), .call (.bool true), .q (.bool false)] H1 ?ho2 ?he2
 case ho2 => exact bT 0 Ai35 As35 (ac (fun w' h => eC call31 (CK.out w' (h.one 1 rfl))) (ag trivial))
 intro _ w2 H2
 clear H1
 refine rN (wp_cond_false rfl ?_)
 refine wp_skip (zA (wp_seq ?_))
 refine zP 8 [.q (PT J1_0 0), .q (PT J1_0 6), .q (N x1), .born (fun g => .slice (some ⟨g, 0, none⟩) 48 48) (by8 (nby x1) 48), .q (PT J1_0 0), .q (PT J1_0 0), .q (N x0), .born (fun g => .slice (some ⟨g, 0, none⟩) 48 48) (by8 (nby x0) 48)] (sB H2) ?ho3 ?he3
 case ho3 => exact ag (ag (bN 0 (ak (fun J => ⟨rfl, fun w' h => eC call50 (CB.out x1 w')⟩) (ag (ag (bN 0 (ak (fun J => ⟨rfl, fun w' h => eC call50 (CB.out x0 w')⟩) trivial)))))))
 intro J w3 l hM hl
 have H3 : Hid (Mm w3 ([(J 3, by8 (nby x1) 48), (J 7, by8 (nby x0) 48)] ++ _) ∧ _) := wB H2 hM hl [3, 7]
 have o3_3 := vB H2 hM hl 3
 have o3_7 := vB H2 hM hl 7
 clear hM hl l H2
 generalize J 3 = J3_3 at H3 o3_3 ⊢
 generalize J 7 = J3_7 at H3 o3_7 ⊢
 clear J
 refine zH (l := [8, 9]) rfl ?_
 refine rest_app8 rfl rfl rfl rfl rfl rfl H3 0 1 rfl rfl (by decide) (by decide) ?_
 intro Js4 cap4 w4 o_Js4 H4
 clear H3
 simp only [Act.put, sa, sz, ss]
 refine zF (d := 4) rfl rfl rfl rfl ?_
 simp only [Act.put, sa, sz, ss]
 refine zE (zA (wp_seq ?_))
 refine zS 6 [.q (.slice (some ⟨Js4, 0, none⟩) 96 (96 + cap4)), .q (PT J1_0 24), .q (.bool zb), .q (PT J1_0 12), .q (V [y0, y1]), .call (.bool bl)] H4 ?ho4 ?he4
 case ho4 => exact ar (ag (bC 3 Ai4 (ag (bT 3 Ai33 As33 (ac (fun w' h => eC call54 (CG.out w')) trivial)))))
 intro _ w5 H5
 clear H4
 refine zH (l := [6]) rfl ?_
 refine rest_enter (d := 23) (R := fun vv w' => vv = .tuple #[] ∧ Mm w' [(Js4, by8 (upd (cat8 (nby x1) 48 (nby x0)) 0 (fl8 zb bl (cat8 (nby x1) 48 (nby x0) 0))) 96)] ∧ Kp Js4 w5 w') rfl rfl rfl (exec_call (args := #[.slice (some ⟨Js4, 0, none⟩) 96 (96 + cap4), .bool zb, .bool bl]) rfl call51 rfl (mpn rfl)) (Calls.mono (putM Js4 96 (96 + cap4) (cat8 (nby x1) 48 (nby x0)) zb bl (by decide) w5 (H5.out.1.one 0 rfl)) (fun e w2 hh => ⟨_, hh.1, rfl, hh.2⟩)) ?_
 rintro _ w6 ⟨rfl, hn, hp⟩
 have H6 : Hid (Mm w6 [(Js4, by8 (upd (cat8 (nby x1) 48 (nby x0)) 0 (fl8 zb bl (cat8 (nby x1) 48 (nby x0) 0))) 96), (J3_3, by8 (nby x1) 48), (J3_7, by8 (nby x0) 48), (J1_0, pc2 x0 x1 y0 y1 zb), (2, dtab)] ∧ Below w.heap.size w w6) := ⟨H5.out.1.change 0 rfl hp hn, Below.kp H5.out.2 hp o_Js4.out H5.out.2.size⟩
 clear hn hp H5
 simp only [Act.put, sa, sz, ss]
 refine zE (zA (wp_seq ?_))
 refine zD 3 [.q (.slice (some ⟨Js4, 0, none⟩) 96 (96 + cap4)), .q (.slice (some ⟨Js4, 0, none⟩) 96 (96 + cap4)), .q (.int .i64 0)] H6 ?ho5 ?he5
 case ho5 => exact ar (ar (ar trivial))
 intro _ w7 H7
 clear H6
 refine rN (wp_ret ?_)
 repeat (first | refine zJ ?_ | refine zI ?_)
 refine bodyPost_ret (v := .tuple #[.slice (some ⟨Js4, 0, none⟩) 96 (96 + cap4), .int .i64 0]) (by simp [results, Tryz.results27, go_sem, *]) rfl ?_
 exact ⟨H7.out.2, Js4, cap4, rfl, o_Js4.out, H7.out.1.blk _ (List.mem_of_getElem? (i := 0) rfl)⟩
set_option maxHeartbeats 4000000 in
theorem take_ok (b off n c : Nat) (f : Nat → Int) (hn : 0 < n) (hbig : n ≤ 1048576) (w : World) (hb : b < w.heap.size) (hc : ∀ j, j < n → w.cell? ⟨b, off + j, none⟩ = some (.int .u8 (f j))) (hx : ¬ bits .and .u8 (f 0) 128 = 0) (hz : bits .and .u8 (bits .and .u8 (f 0) 224) 64 = 0) :
  Calls Tryz.prog 91 #[.slice (some ⟨b, off, none⟩) n c, .int .i64 (n : Int)] w fun e w' => Below w.heap.size w w' ∧ ∃ g cap, e = .returned (.tuple #[.slice (some ⟨g, 0, none⟩) n cap, .int .u8 (bits .and .u8 (f 0) 224), .bool true]) ∧ w.heap.size ≤ g ∧ g < w'.heap.size ∧ Blk w' g (by8 (upd f 0 (bits .andNot .u8 (f 0) 224)) n) := by
 have d1 : (0 : Int) < n := by omega
 have h0 : w.cell? ⟨b, off, none⟩ = some (.int .u8 (f 0)) := hc 0 hn
 have CL : Hid _ := clone_any b off n c f w.drew hn hbig (fun j hj => hc j hj)
 have HB : Hid (b < w.heap.size) := hb
 have HN : Hid (0 < n) := hn
 clear hc hb hn hbig
 go_enter Tryz.func91, Tryz.ntmps91
 go_wp2
 go_region_with (go_at_call 122; refine Calls.mono CL.out ?_; rintro e w1 ⟨hB, g, cap, rfl, hg, hgs, hblk⟩; have h01 : w1.cell? ⟨b, off, none⟩ = some (.int .u8 (f 0)) := (hB.cell (p := ⟨b, off, none⟩) HB.out).trans h0; have hq := hblk 0 _ (by8_get f HN.out); have hq1 := hq.1; have hq2 := hq.2; clear hq; have HK : Hid (Below w.drew.heap.size w.drew w1 ∧ w.drew.heap.size ≤ g ∧ g < w1.heap.size ∧ Blk w1 g (by8 f n)) := ⟨hB, hg, hgs, hblk⟩; clear hB hg hgs hblk)
 all_goals
  go_wp2
  refine bodyPost_ret (v := .tuple #[.slice (some ⟨g, 0, none⟩) n cap, .int .u8 (bits .and .u8 (f 0) 224), .bool true]) (by simp [results, Tryz.results91, go_sem]) rfl ?_
  obtain ⟨hB, hg, hgs, hblk⟩ := HK.out
  have hB2 : Below w.heap.size w w1 := ((Below.refl w.heap.size w).drew).trans hB
  exact ⟨hB2.setCell (p := ⟨g, 0, none⟩) hg _, g, cap, rfl, hg, by simpa using hgs, blk_row8 ((row8_blk hblk).set _)⟩
end Rg
end Go.Proofs.YtmanelnacifgcaaGreatDoor
end
section
namespace Go.Proofs.YtmanelnacifgcaaGreatDoor
open Go.RowKit
/-- v is a slice whose bytes are xs, with room for c. -/
structure BSl (w : World) (xs : List Int) (c : Nat) (v : Value) : Prop where
  or : (∃ g o, v = .slice (some ⟨g, o, none⟩) xs.length c ∧ g < w.heap.size ∧ xs.length ≤ c ∧ ∀ i, i < xs.length → w.cell? ⟨g, o + i, none⟩ = some (.int .u8 (xs.getD i 0))) ∨ ∃ p, v = .slice p 0 c ∧ xs = []
theorem BSl.full {w : World} {xs : List Int} {c : Nat} (g o : Nat) (hg : g < w.heap.size) (hc : xs.length ≤ c) (h : ∀ i, i < xs.length → w.cell? ⟨g, o + i, none⟩ = some (.int .u8 (xs.getD i 0))) : BSl w xs c (.slice (some ⟨g, o, none⟩) xs.length c) := ⟨.inl ⟨g, o, rfl, hg, hc, h⟩⟩
theorem BSl.void {w : World} {xs : List Int} {c : Nat} (p : Option Addr) (hx : xs = []) : BSl w xs c (.slice p 0 c) := ⟨.inr ⟨p, rfl, hx⟩⟩
theorem BSl.each {w : World} {xs : List Int} {c : Nat} {M : (v : Value) → BSl w xs c v → Prop} (full : ∀ (g o : Nat) (hg : g < w.heap.size) (hc : xs.length ≤ c) (h : ∀ i, i < xs.length → w.cell? ⟨g, o + i, none⟩ = some (.int .u8 (xs.getD i 0))), M (.slice (some ⟨g, o, none⟩) xs.length c) (BSl.full g o hg hc h)) (void : ∀ (p : Option Addr) (hx : xs = []), M (.slice p 0 c) (BSl.void p hx)) {v : Value} (h : BSl w xs c v) : M v h := by
  rcases h with ⟨⟨g, o, rfl, hg, hc, h⟩ | ⟨p, rfl, hx⟩⟩
  · exact full g o hg hc h
  · exact void p hx
theorem BSl.below {w w' : World} {xs : List Int} {c : Nat} {v : Value} (h : BSl w xs c v) (hb : Below w.heap.size w w') : BSl w' xs c v := by
 cases h using BSl.each with
 | full g o hg hc h => exact .full g o (Nat.lt_of_lt_of_le hg hb.size) hc (fun i hi => by rw [hb.cell (p := ⟨g, o + i, none⟩) hg]; exact h i hi)
 | void p hx => exact .void p hx
theorem BSl.drew {w : World} {xs : List Int} {c : Nat} {v : Value} (h : BSl w xs c v) : BSl w.drew xs c v := h.below ((Below.refl _ _).drew)
theorem BSl.alloc {w : World} {xs : List Int} {c : Nat} {v : Value} (h : BSl w xs c v) (o : Obj) : BSl (w.alloc o) xs c v := h.below ((Below.refl _ _).alloc (Nat.le_refl _) _)
theorem BSl.text {w : World} {xs : List Int} {c : Nat} {v : Value} (h : BSl w xs c v) : (convert 55 9 v).run Tryz.prog w = .ok (.string (strOfNums xs)) w := by
 cases h using BSl.each with
 | full g o hg hc h => exact run_convert_bytes_arg (P := Tryz.prog) w 55 5 (by kernel_rfl) (by kernel_rfl) g o xs.length c xs rfl h 9 (by kernel_rfl)
 | void p hx =>
  subst hx
  cases p with
  | none => exact run_convert_bytes_nil (P := Tryz.prog) w 55 5 (by kernel_rfl) (by kernel_rfl) 0 c 9 (by kernel_rfl)
  | some a =>
   have hl : (loadCells a 0).run Tryz.prog w = .ok (([] : List Int).map (Value.int .u8)).toArray w := by simpa using run_loadCells_list (P := Tryz.prog) w a [] (by simp)
   rw [run_convert_bytes_string w 55 9 5 _ 0 c (by kernel_rfl) (by kernel_rfl) (by kernel_rfl), run_bytesToString w _ 0 c [] hl, foldl_push_bytes]
   rfl
set_option maxHeartbeats 400000 in
theorem same_any {xs : List Int} {c c' : Nat} {v v' : Value} (w : World) (h : BSl w xs c v) (h' : BSl w xs c' v') :
  Calls Tryz.prog 29 #[v, v'] w fun e w' => e = .returned (.bool true) ∧ w' = w := by
 have h1 := h.text
 have h2 := h'.text
 clear h h'
 go_enter Tryz.func29, Tryz.ntmps29
 go_wp2
 go_ret
 exact ⟨rfl, rfl⟩
end Go.Proofs.YtmanelnacifgcaaGreatDoor
end
section
namespace Go.Proofs.YtmanelnacifgcaaGreatDoor
open Go.RowKit
namespace Rg
theorem zero_1 {α : Type} {en : α → Nat} {fa fs fm : α → α → α} {fi : α → α} {z u b : α} {g : Nat} {tn : Value} (_C : Fd1 g en fa fs fm fi z) (w : World) (hm : Mm w [(g, zT pB), (2, dtab)]) :
  Calls Tryz.prog 89 #[.agg (G1 g tn (en u) (en b)).toArray] w (Rt w (V [0, en u, 0])) := by
 have H0 : Hid (_ ∧ _) := ⟨hm, Below.refl w.heap.size w⟩
 clear hm
 go_enter Tryz.func89, Tryz.ntmps89
 refine wp_seq ?_
 refine zC 2 [.made (G1 g tn (en u) (en b)) 82, .made (cel [0, 0, 0]) 124] (sB H0) ?ho1 ?he1
 case ho1 => exact am (zQ rfl rfl) (am (ex_madeTN rfl) trivial)
 intro J w1 l hM hl
 have H1 : Hid (Mm w1 ([(J 0, G1 g tn (en u) (en b)), (J 1, cel [0, 0, 0])] ++ _) ∧ _) := wB H0 hM hl [0, 1]
 have o1_0 := vB H0 hM hl 0
 have o1_1 := vB H0 hM hl 1
 clear hM hl l
 generalize J 0 = J1_0 at H1 o1_0 ⊢
 generalize J 1 = J1_1 at H1 o1_1 ⊢
 clear J
 refine rN (wp_seq ?_)
 refine zD 4 [.q (PT J1_0 0), .q (PT J1_0 5), .q (N (en u)), .q (V [0, en u, 0])] H1 ?ho2 ?he2
 case ho2 => exact ag (ag (bN 0 (ak (fun J => ⟨rfl, fun w' _ => ex_buildTNy rfl rfl⟩) trivial)))
 intro _ w2 H2
 clear H1
 refine zH (l := [4]) rfl ?_
 refine sF 1 [0, en u, 0] [_, _, _, _] H2 o1_1 As124 fun w3 H3 => ?_
 clear H2
 refine zE (zA (wp_ret ?_))
 repeat (first | refine zJ ?_ | refine zI ?_)
 have hf0 := cel_var (k := 3) H3.out.1 1 rfl Ai124 As124 rfl
 refine bodyPost_ret (v := V [0, en u, 0]) (by simp [results, Tryz.results89, asAddr, hf0]) rfl ?_
 exact ⟨rfl, H3.out.2⟩
theorem liftT_1 {α : Type} {en : α → Nat} {fa fs fm : α → α → α} {fi : α → α} {z u b : α} {g : Nat} {tn : Value} (C : Fd1 g en fa fs fm fi z) (x y : Nat) (w : World) (hm : Mm w [(g, zT pB), (2, dtab)]) :
  Calls Tryz.prog 74 #[.agg (G1 g tn (en u) (en b)).toArray, .agg (zW x y true).toArray] w (Rt w (V [0, en u, 0])) := by
 have H0 : Hid (_ ∧ _) := ⟨hm, Below.refl w.heap.size w⟩
 clear hm
 go_enter Tryz.func74, Tryz.ntmps74
 refine wp_seq ?_
 refine zC 3 [.made (G1 g tn (en u) (en b)) 82, .made (zW x y true) 85, .made (cel [0, 0, 0]) 124] (sB H0) ?ho1 ?he1
 case ho1 => exact am (zQ rfl rfl) (am (zQ rfl rfl) (am (ex_madeTN rfl) trivial))
 intro J w1 l hM hl
 have H1 : Hid (Mm w1 ([(J 0, G1 g tn (en u) (en b)), (J 1, zW x y true), (J 2, cel [0, 0, 0])] ++ _) ∧ _) := wB H0 hM hl [0, 1, 2]
 have o1_0 := vB H0 hM hl 0
 have o1_1 := vB H0 hM hl 1
 have o1_2 := vB H0 hM hl 2
 clear hM hl l
 generalize J 0 = J1_0 at H1 o1_0 ⊢
 generalize J 1 = J1_1 at H1 o1_1 ⊢
 generalize J 2 = J1_2 at H1 o1_2 ⊢
 clear J
 refine rN (wp_seq (wp_seq ?_))
 refine zD 2 [.q (PT J1_1 12), .q (.bool true)] H1 ?ho2 ?he2
 case ho2 => exact ag (bC 1 Ai4 trivial)
 intro _ w2 H2
 clear H1
 refine rN (wp_cond_true rfl (wp_seq ?_))
 refine zD 2 [.q (.agg (G1 g tn (en u) (en b)).toArray), .call (V [0, en u, 0])] H2 ?ho3 ?he3
 case ho3 => exact bT 0 Ai82 As82 (ac (fun w' h => eC call89 (zero_1 C w' (h.two 3 4 rfl rfl (by decide)))) trivial)
 intro _ w3 H3
 clear H2
 refine zH (l := [2]) rfl ?_
 refine sF 2 [0, en u, 0] [_, _, _, _, _] H3 o1_2 As124 fun w4 H4 => ?_
 clear H3
 refine zE (zA (wp_ret ?_))
 repeat (first | refine zJ ?_ | refine zI ?_)
 have hf0 := cel_var (k := 3) H4.out.1 2 rfl Ai124 As124 rfl
 refine bodyPost_ret (v := V [0, en u, 0]) (by simp [results, Tryz.results74, asAddr, hf0]) rfl ?_
 exact ⟨rfl, H4.out.2⟩
theorem liftF_1 {α : Type} {en : α → Nat} {fa fs fm : α → α → α} {fi : α → α} {z u b : α} {g : Nat} {tn : Value} (_C : Fd1 g en fa fs fm fi z) (x y : Nat) (w : World) (hm : Mm w [(g, zT pB), (2, dtab)]) :
  Calls Tryz.prog 74 #[.agg (G1 g tn (en u) (en b)).toArray, .agg (zW x y false).toArray] w (Rt w (V [x, y, en u])) := by
 have H0 : Hid (_ ∧ _) := ⟨hm, Below.refl w.heap.size w⟩
 clear hm
 go_enter Tryz.func74, Tryz.ntmps74
 refine wp_seq ?_
 refine zC 3 [.made (G1 g tn (en u) (en b)) 82, .made (zW x y false) 85, .made (cel [0, 0, 0]) 124] (sB H0) ?ho1 ?he1
 case ho1 => exact am (zQ rfl rfl) (am (zQ rfl rfl) (am (ex_madeTN rfl) trivial))
 intro J w1 l hM hl
 have H1 : Hid (Mm w1 ([(J 0, G1 g tn (en u) (en b)), (J 1, zW x y false), (J 2, cel [0, 0, 0])] ++ _) ∧ _) := wB H0 hM hl [0, 1, 2]
 have o1_0 := vB H0 hM hl 0
 have o1_1 := vB H0 hM hl 1
 have o1_2 := vB H0 hM hl 2
 clear hM hl l
 generalize J 0 = J1_0 at H1 o1_0 ⊢
 generalize J 1 = J1_1 at H1 o1_1 ⊢
 generalize J 2 = J1_2 at H1 o1_2 ⊢
 clear J
 refine rN (wp_seq (wp_seq ?_))
 refine zD 2 [.q (PT J1_1 12), .q (.bool false)] H1 ?ho2 ?he2
 case ho2 => exact ag (bC 1 Ai4 trivial)
 intro _ w2 H2
 clear H1
 refine rN (wp_cond_false rfl ?_)
 refine wp_skip (zA (wp_seq ?_))
 refine zD 8 [.q (PT J1_1 0), .q (N x), .q (PT J1_1 6), .q (N y), .q (PT J1_0 0), .q (PT J1_0 5), .q (N (en u)), .q (V [x, y, en u])] H2 ?ho3 ?he3
 case ho3 => exact ag (bN 1 (ag (bN 1 (ag (ag (bN 0 (ak (fun J => ⟨rfl, fun w' _ => ex_buildTN rfl rfl rfl rfl⟩) trivial)))))))
 intro _ w3 H3
 clear H2
 refine zH (l := [8]) rfl ?_
 refine sF 2 [x, y, en u] [_, _, _, _, _] H3 o1_2 As124 fun w4 H4 => ?_
 clear H3
 refine zE (zA (wp_ret ?_))
 repeat (first | refine zJ ?_ | refine zI ?_)
 have hf0 := cel_var (k := 3) H4.out.1 2 rfl Ai124 As124 rfl
 refine bodyPost_ret (v := V [x, y, en u]) (by simp [results, Tryz.results74, asAddr, hf0]) rfl ?_
 exact ⟨rfl, H4.out.2⟩
theorem isZero_1 (x y t : Nat) (bz : Bool) (hz : ∀ w, (Op.equalIn 10000 24 (N t) (N 0)).run Tryz.prog w = .ok bz w) (w : World) :
  Calls Tryz.prog 118 #[V [x, y, t]] w (Rt w (.bool bz)) := by
 have H0 : Hid (_ ∧ _) := ⟨Mm.nil w, Below.refl w.heap.size w⟩
 have HZ : Hid _ := hz
 clear hz
 go_enter Tryz.func118, Tryz.ntmps118
 refine wp_seq ?_
 refine zC 2 [.made (cel [x, y, t]) 124, .q (.bool false)] (sB H0) ?ho1 ?he1
 case ho1 => exact am (ex_boxA rfl rfl) (ar trivial)
 intro J w1 l hM hl
 have H1 : Hid (Mm w1 [(J 0, cel [x, y, t])] ∧ _) := wB H0 hM hl [0]
 have o1_0 := vB H0 hM hl 0
 clear hM hl l
 generalize J 0 = J1_0 at H1 o1_0 ⊢
 clear J
 refine rN (wp_seq ?_)
 refine zC 1 [.made zero6 24] (sB H1) ?ho2 ?he2
 case ho2 => exact am (zG rfl) trivial
 intro J w2 l hM hl
 have H2 : Hid (Mm w2 ([(J 0, zero6)] ++ _) ∧ _) := wB H1 hM hl [0]
 have o2_0 := vB H1 hM hl 0
 clear hM hl l H1
 generalize J 0 = J2_0 at H2 o2_0 ⊢
 clear J
 refine rN (wp_seq ?_)
 refine zD 5 [.q (PT J1_0 12), .q (N t), .q (N 0), .q (.bool bz), .q (.bool bz)] H2 ?ho3 ?he3
 case ho3 => exact ag (aq (fun w' h => zO (i := 2) h 1 rfl rfl rfl rfl) (aq (fun w' h => ex_load6 (v := 0) h 0 rfl rfl rfl zero_take) (ak (fun J => ⟨rfl, fun w' _ => exec_eq6 HZ.out rfl rfl rfl⟩) (ar trivial))))
 intro _ w3 H3
 clear H2
 refine rN (wp_ret ?_)
 repeat (first | refine zJ ?_ | refine zI ?_)
 refine bodyPost_ret (v := .bool bz) (by simp [results, Tryz.results118, go_sem, *]) rfl ?_
 exact ⟨rfl, H3.out.2⟩
set_option maxHeartbeats 4000000 in
theorem togetherV_1 {α : Type} {en : α → Nat} {fa fs fm : α → α → α} {fi : α → α} {z u b : α} {g : Nat} {tn : Value} (C : Fd1 g en fa fs fm fi z) (x1 y1 z1 x2 y2 z2 : α) (v1 v2 v3 v4 v5 v6 v7 v8 v9 v10 v11 v12 v13 v14 v15 v16 v17 v18 v19 v20 v21 v22 v23 v24 v25 v26 v27 v28 v29 v30 v31 v32 v33 v34 : α) (hv1 : fm x1 x2 = v1) (hv2 : fm y1 y2 = v2) (hv3 : fm z1 z2 = v3) (hv4 : fa x1 y1 = v4) (hv5 : fa x2 y2 = v5) (hv6 : fm v4 v5 = v6) (hv7 : fa v1 v2 = v7) (hv8 : fs v6 v7 = v8) (hv9 : fa y1 z1 = v9) (hv10 : fa y2 z2 = v10) (hv11 : fm v9 v10 = v11) (hv12 : fa v2 v3 = v12) (hv13 : fs v11 v12 = v13) (hv14 : fa x1 z1 = v14) (hv15 : fa x2 z2 = v15) (hv16 : fm v14 v15 = v16) (hv17 : fa v1 v3 = v17) (hv18 : fs v16 v17 = v18) (hv19 : fa (fa v1 v1) v1 = v19) (hv20 : fm b v18 = v20) (hv21 : fa (fa v20 v20) v20 = v21) (hv22 : fm b v3 = v22) (hv23 : fa (fa v22 v22) v22 = v23) (hv24 : fs v2 v23 = v24) (hv25 : fa v2 v23 = v25) (hv26 : fm v24 v8 = v26) (hv27 : fm v13 v21 = v27) (hv28 : fs v26 v27 = v28) (hv29 : fm v24 v25 = v29) (hv30 : fm v19 v21 = v30) (hv31 : fa v29 v30 = v31) (hv32 : fm v25 v13 = v32) (hv33 : fm v19 v8 = v33) (hv34 : fa v32 v33 = v34) (w : World) (hm : Mm w [(g, zT pB), (2, dtab)]) :
  Calls Tryz.prog 88 #[.agg (G1 g tn (en u) (en b)).toArray, V [en x1, en y1, en z1], V [en x2, en y2, en z2]] w (Rt w (V [en v28, en v31, en v34])) := by
 have H0 : Hid (_ ∧ _) := ⟨hm, Below.refl w.heap.size w⟩
 clear hm
 have HV1 : Hid _ := hv1
 clear hv1
 have HV2 : Hid _ := hv2
 clear hv2
 have HV3 : Hid _ := hv3
 clear hv3
 have HV4 : Hid _ := hv4
 clear hv4
 have HV5 : Hid _ := hv5
 clear hv5
 have HV6 : Hid _ := hv6
 clear hv6
 have HV7 : Hid _ := hv7
 clear hv7
 have HV8 : Hid _ := hv8
 clear hv8
 have HV9 : Hid _ := hv9
 clear hv9
 have HV10 : Hid _ := hv10
 clear hv10
 have HV11 : Hid _ := hv11
 clear hv11
 have HV12 : Hid _ := hv12
 clear hv12
 have HV13 : Hid _ := hv13
 clear hv13
 have HV14 : Hid _ := hv14
 clear hv14
 have HV15 : Hid _ := hv15
 clear hv15
 have HV16 : Hid _ := hv16
 clear hv16
 have HV17 : Hid _ := hv17
 clear hv17
 have HV18 : Hid _ := hv18
 clear hv18
 have HV19 : Hid _ := hv19
 clear hv19
 have HV20 : Hid _ := hv20
 clear hv20
 have HV21 : Hid _ := hv21
 clear hv21
 have HV22 : Hid _ := hv22
 clear hv22
 have HV23 : Hid _ := hv23
 clear hv23
 have HV24 : Hid _ := hv24
 clear hv24
 have HV25 : Hid _ := hv25
 clear hv25
 have HV26 : Hid _ := hv26
 clear hv26
 have HV27 : Hid _ := hv27
 clear hv27
 have HV28 : Hid _ := hv28
 clear hv28
 have HV29 : Hid _ := hv29
 clear hv29
 have HV30 : Hid _ := hv30
 clear hv30
 have HV31 : Hid _ := hv31
 clear hv31
 have HV32 : Hid _ := hv32
 clear hv32
 have HV33 : Hid _ := hv33
 clear hv33
 have HV34 : Hid _ := hv34
 clear hv34
 go_enter Tryz.func88, Tryz.ntmps88
 refine wp_seq ?_
 refine zC 4 [.made (G1 g tn (en u) (en b)) 82, .made (cel [en x1, en y1, en z1]) 124, .made (cel [en x2, en y2, en z2]) 124, .made (cel [0, 0, 0]) 124] (sB H0) ?ho1 ?he1
 case ho1 => exact am (zQ rfl rfl) (am (ex_boxA rfl rfl) (am (ex_boxA rfl rfl) (am (ex_madeTN rfl) trivial)))
 intro J w1 l hM hl
 have H1 : Hid (Mm w1 ([(J 0, G1 g tn (en u) (en b)), (J 1, cel [en x1, en y1, en z1]), (J 2, cel [en x2, en y2, en z2]), (J 3, cel [0, 0, 0])] ++ _) ∧ _) := wB H0 hM hl [0, 1, 2, 3]
 have o1_0 := vB H0 hM hl 0
 have o1_1 := vB H0 hM hl 1
 have o1_2 := vB H0 hM hl 2
 have o1_3 := vB H0 hM hl 3
 clear hM hl l
 generalize J 0 = J1_0 at H1 o1_0 ⊢
 generalize J 1 = J1_1 at H1 o1_1 ⊢
 generalize J 2 = J1_2 at H1 o1_2 ⊢
 generalize J 3 = J1_3 at H1 o1_3 ⊢
 clear J
 refine rN (wp_seq ?_)
 refine zP 30 [.q (PT J1_0 0), .q (PT J1_0 2), .q (.func (.func 70) #[PT g 0] #[]), .q (PT J1_1 0), .q (N (en x1)), .q (PT J1_2 0), .q (N (en x2)), .call (N (en v1)), .q (PT J1_0 0), .q (PT J1_0 2), .q (.func (.func 70) #[PT g 0] #[]), .q (PT J1_1 6), .q (N (en y1)), .q (PT J1_2 6), .q (N (en y2)), .call (N (en v2)), .q (PT J1_0 0), .q (PT J1_0 2), .q (.func (.func 70) #[PT g 0] #[]), .q (PT J1_1 12), .q (N (en z1)), .q (PT J1_2 12), .q (N (en z2)), .call (N (en v3)), .made zero6 24, .made zero6 24, .made zero6 24, .laid 24 zero6 (zB (en v1)), .laid 25 zero6 (zB (en v2)), .laid 26 zero6 (zB (en v3))] (sB H1) ?ho2 ?he2 (hL := ?hL2)
 case hL2 => exact ⟨⟨_, rfl⟩, ⟨_, rfl⟩, ⟨_, rfl⟩, trivial⟩
 case ho2 => exact ag (ag (bC 0 Ai76 (ag (aq (fun w' h => zO (i := 0) h 1 rfl rfl rfl rfl) (ag (aq (fun w' h => zO (i := 0) h 2 rfl rfl rfl rfl) (ac (fun w' h => ⟨70, #[PT g 0, N (en x1), N (en x2)], zM rfl call70 rfl (mpn rfl) rfl, C.km HV1.out w' (h.two 4 5 rfl rfl (by decide))⟩) (ag (ag (bC 0 Ai76 (ag (aq (fun w' h => zO (i := 1) h 1 rfl rfl rfl rfl) (ag (aq (fun w' h => zO (i := 1) h 2 rfl rfl rfl rfl) (ac (fun w' h => ⟨70, #[PT g 0, N (en y1), N (en y2)], zM rfl call70 rfl (mpn rfl) rfl, C.km HV2.out w' (h.two 4 5 rfl rfl (by decide))⟩) (ag (ag (bC 0 Ai76 (ag (aq (fun w' h => zO (i := 2) h 1 rfl rfl rfl rfl) (ag (aq (fun w' h => zO (i := 2) h 2 rfl rfl rfl rfl) (ac (fun w' h => ⟨70, #[PT g 0, N (en z1), N (en z2)], zM rfl call70 rfl (mpn rfl) rfl, C.km HV3.out w' (h.two 4 5 rfl rfl (by decide))⟩) (am (zG rfl) (am (zG rfl) (am (zG rfl) (ak (fun J => ⟨rfl, rfl, rfl, fun w' h => zK h rfl rfl rfl⟩) (ak (fun J => ⟨rfl, rfl, rfl, fun w' h => zK h rfl rfl rfl⟩) (ak (fun J => ⟨rfl, rfl, rfl, fun w' h => zK h rfl rfl rfl⟩) trivial)))))))))))))))))))))))))))))
 intro J w2 l hM hl
 have H2 : Hid (Mm w2 ([(J 24, zB (en v1)), (J 25, zB (en v2)), (J 26, zB (en v3))] ++ _) ∧ _) := wB H1 hM hl [24, 25, 26]
 have o2_24 := vB H1 hM hl 24
 have o2_25 := vB H1 hM hl 25
 have o2_26 := vB H1 hM hl 26
 clear hM hl l H1
 generalize J 24 = J2_24 at H2 o2_24 ⊢
 generalize J 25 = J2_25 at H2 o2_25 ⊢
 generalize J 26 = J2_26 at H2 o2_26 ⊢
 clear J
 refine rN (wp_seq ?_)
 refine zP 32 [.q (PT J1_0 0), .q (PT J1_0 1), .q (.func (.func 69) #[PT g 0] #[]), .q (PT J1_0 0), .q (PT J1_0 2), .q (.func (.func 70) #[PT g 0] #[]), .q (PT J1_0 0), .q (PT J1_0 0), .q (.func (.func 68) #[PT g 0] #[]), .q (PT J1_1 0), .q (N (en x1)), .q (PT J1_1 6), .q (N (en y1)), .call (N (en v4)), .q (PT J1_0 0), .q (PT J1_0 0), .q (.func (.func 68) #[PT g 0] #[]), .q (PT J1_2 0), .q (N (en x2)), .q (PT J1_2 6), .q (N (en y2)), .call (N (en v5)), .call (N (en v6)), .q (PT J1_0 0), .q (PT J1_0 0), .q (.func (.func 68) #[PT g 0] #[]), .q (N (en v1)), .q (N (en v2)), .call (N (en v7)), .call (N (en v8)), .made zero6 24, .laid 30 zero6 (zB (en v8))] (sB H2) ?ho3 ?he3 (hL := ?hL3)
 case hL3 => exact ⟨⟨_, rfl⟩, trivial⟩
 case ho3 => exact ag (ag (bC 3 Ai76 (ag (ag (bC 3 Ai76 (ag (ag (bC 3 Ai76 (ag (aq (fun w' h => zO (i := 0) h 4 rfl rfl rfl rfl) (ag (aq (fun w' h => zO (i := 1) h 4 rfl rfl rfl rfl) (ac (fun w' h => ⟨68, #[PT g 0, N (en x1), N (en y1)], zM rfl call68 rfl (mpn rfl) rfl, C.ka HV4.out w' (h.two 7 8 rfl rfl (by decide))⟩) (ag (ag (bC 3 Ai76 (ag (aq (fun w' h => zO (i := 0) h 5 rfl rfl rfl rfl) (ag (aq (fun w' h => zO (i := 1) h 5 rfl rfl rfl rfl) (ac (fun w' h => ⟨68, #[PT g 0, N (en x2), N (en y2)], zM rfl call68 rfl (mpn rfl) rfl, C.ka HV5.out w' (h.two 7 8 rfl rfl (by decide))⟩) (ac (fun w' h => ⟨70, #[PT g 0, N (en v4), N (en v5)], zM rfl call70 rfl (mpn rfl) rfl, C.km HV6.out w' (h.two 7 8 rfl rfl (by decide))⟩) (ag (ag (bC 3 Ai76 (bN 0 (bN 1 (ac (fun w' h => ⟨68, #[PT g 0, N (en v1), N (en v2)], zM rfl call68 rfl (mpn rfl) rfl, C.ka HV7.out w' (h.two 7 8 rfl rfl (by decide))⟩) (ac (fun w' h => ⟨69, #[PT g 0, N (en v6), N (en v7)], zM rfl call69 rfl (mpn rfl) rfl, C.ks HV8.out w' (h.two 7 8 rfl rfl (by decide))⟩) (am (zG rfl) (ak (fun J => ⟨rfl, rfl, rfl, fun w' h => zK h rfl rfl rfl⟩) trivial)))))))))))))))))))))))))))))))
 intro J w3 l hM hl
 have H3 : Hid (Mm w3 ([(J 30, zB (en v8))] ++ _) ∧ _) := wB H2 hM hl [30]
 have o3_30 := vB H2 hM hl 30
 clear hM hl l H2
 generalize J 30 = J3_30 at H3 o3_30 ⊢
 clear J
 refine rN (wp_seq ?_)
 refine zP 32 [.q (PT J1_0 0), .q (PT J1_0 1), .q (.func (.func 69) #[PT g 0] #[]), .q (PT J1_0 0), .q (PT J1_0 2), .q (.func (.func 70) #[PT g 0] #[]), .q (PT J1_0 0), .q (PT J1_0 0), .q (.func (.func 68) #[PT g 0] #[]), .q (PT J1_1 6), .q (N (en y1)), .q (PT J1_1 12), .q (N (en z1)), .call (N (en v9)), .q (PT J1_0 0), .q (PT J1_0 0), .q (.func (.func 68) #[PT g 0] #[]), .q (PT J1_2 6), .q (N (en y2)), .q (PT J1_2 12), .q (N (en z2)), .call (N (en v10)), .call (N (en v11)), .q (PT J1_0 0), .q (PT J1_0 0), .q (.func (.func 68) #[PT g 0] #[]), .q (N (en v2)), .q (N (en v3)), .call (N (en v12)), .call (N (en v13)), .made zero6 24, .laid 30 zero6 (zB (en v13))] (sB H3) ?ho4 ?he4 (hL := ?hL4)
 case hL4 => exact ⟨⟨_, rfl⟩, trivial⟩
 case ho4 => exact ag (ag (bC 4 Ai76 (ag (ag (bC 4 Ai76 (ag (ag (bC 4 Ai76 (ag (aq (fun w' h => zO (i := 1) h 5 rfl rfl rfl rfl) (ag (aq (fun w' h => zO (i := 2) h 5 rfl rfl rfl rfl) (ac (fun w' h => ⟨68, #[PT g 0, N (en y1), N (en z1)], zM rfl call68 rfl (mpn rfl) rfl, C.ka HV9.out w' (h.two 8 9 rfl rfl (by decide))⟩) (ag (ag (bC 4 Ai76 (ag (aq (fun w' h => zO (i := 1) h 6 rfl rfl rfl rfl) (ag (aq (fun w' h => zO (i := 2) h 6 rfl rfl rfl rfl) (ac (fun w' h => ⟨68, #[PT g 0, N (en y2), N (en z2)], zM rfl call68 rfl (mpn rfl) rfl, C.ka HV10.out w' (h.two 8 9 rfl rfl (by decide))⟩) (ac (fun w' h => ⟨70, #[PT g 0, N (en v9), N (en v10)], zM rfl call70 rfl (mpn rfl) rfl, C.km HV11.out w' (h.two 8 9 rfl rfl (by decide))⟩) (ag (ag (bC 4 Ai76 (bN 2 (bN 3 (ac (fun w' h => ⟨68, #[PT g 0, N (en v2), N (en v3)], zM rfl call68 rfl (mpn rfl) rfl, C.ka HV12.out w' (h.two 8 9 rfl rfl (by decide))⟩) (ac (fun w' h => ⟨69, #[PT g 0, N (en v11), N (en v12)], zM rfl call69 rfl (mpn rfl) rfl, C.ks HV13.out w' (h.two 8 9 rfl rfl (by decide))⟩) (am (zG rfl) (ak (fun J => ⟨rfl, rfl, rfl, fun w' h => zK h rfl rfl rfl⟩) trivial)))))))))))))))))))))))))))))))
 intro J w4 l hM hl
 have H4 : Hid (Mm w4 ([(J 30, zB (en v13))] ++ _) ∧ _) := wB H3 hM hl [30]
 have o4_30 := vB H3 hM hl 30
 clear hM hl l H3
 generalize J 30 = J4_30 at H4 o4_30 ⊢
 clear J
 refine rN (wp_seq ?_)
 refine zP 32 [.q (PT J1_0 0), .q (PT J1_0 1), .q (.func (.func 69) #[PT g 0] #[]), .q (PT J1_0 0), .q (PT J1_0 2), .q (.func (.func 70) #[PT g 0] #[]), .q (PT J1_0 0), .q (PT J1_0 0), .q (.func (.func 68) #[PT g 0] #[]), .q (PT J1_1 0), .q (N (en x1)), .q (PT J1_1 12), .q (N (en z1)), .call (N (en v14)), .q (PT J1_0 0), .q (PT J1_0 0), .q (.func (.func 68) #[PT g 0] #[]), .q (PT J1_2 0), .q (N (en x2)), .q (PT J1_2 12), .q (N (en z2)), .call (N (en v15)), .call (N (en v16)), .q (PT J1_0 0), .q (PT J1_0 0), .q (.func (.func 68) #[PT g 0] #[]), .q (N (en v1)), .q (N (en v3)), .call (N (en v17)), .call (N (en v18)), .made zero6 24, .laid 30 zero6 (zB (en v18))] (sB H4) ?ho5 ?he5 (hL := ?hL5)
 case hL5 => exact ⟨⟨_, rfl⟩, trivial⟩
 case ho5 => exact ag (ag (bC 5 Ai76 (ag (ag (bC 5 Ai76 (ag (ag (bC 5 Ai76 (ag (aq (fun w' h => zO (i := 0) h 6 rfl rfl rfl rfl) (ag (aq (fun w' h => zO (i := 2) h 6 rfl rfl rfl rfl) (ac (fun w' h => ⟨68, #[PT g 0, N (en x1), N (en z1)], zM rfl call68 rfl (mpn rfl) rfl, C.ka HV14.out w' (h.two 9 10 rfl rfl (by decide))⟩) (ag (ag (bC 5 Ai76 (ag (aq (fun w' h => zO (i := 0) h 7 rfl rfl rfl rfl) (ag (aq (fun w' h => zO (i := 2) h 7 rfl rfl rfl rfl) (ac (fun w' h => ⟨68, #[PT g 0, N (en x2), N (en z2)], zM rfl call68 rfl (mpn rfl) rfl, C.ka HV15.out w' (h.two 9 10 rfl rfl (by decide))⟩) (ac (fun w' h => ⟨70, #[PT g 0, N (en v14), N (en v15)], zM rfl call70 rfl (mpn rfl) rfl, C.km HV16.out w' (h.two 9 10 rfl rfl (by decide))⟩) (ag (ag (bC 5 Ai76 (bN 2 (bN 4 (ac (fun w' h => ⟨68, #[PT g 0, N (en v1), N (en v3)], zM rfl call68 rfl (mpn rfl) rfl, C.ka HV17.out w' (h.two 9 10 rfl rfl (by decide))⟩) (ac (fun w' h => ⟨69, #[PT g 0, N (en v16), N (en v17)], zM rfl call69 rfl (mpn rfl) rfl, C.ks HV18.out w' (h.two 9 10 rfl rfl (by decide))⟩) (am (zG rfl) (ak (fun J => ⟨rfl, rfl, rfl, fun w' h => zK h rfl rfl rfl⟩) trivial)))))))))))))))))))))))))))))))
 intro J w5 l hM hl
 have H5 : Hid (Mm w5 ([(J 30, zB (en v18))] ++ _) ∧ _) := wB H4 hM hl [30]
 have o5_30 := vB H4 hM hl 30
 clear hM hl l H4
 generalize J 30 = J5_30 at H5 o5_30 ⊢
 clear J
 refine rN (wp_seq ?_)
 refine zP 27 [.q (.agg (G1 g tn (en u) (en b)).toArray), .q (N (en v1)), .call (N (en v19)), .q (.agg (G1 g tn (en u) (en b)).toArray), .q (PT J1_0 0), .q (PT J1_0 2), .q (.func (.func 70) #[PT g 0] #[]), .q (PT J1_0 11), .q (N (en b)), .q (N (en v18)), .call (N (en v20)), .call (N (en v21)), .q (.agg (G1 g tn (en u) (en b)).toArray), .q (PT J1_0 0), .q (PT J1_0 2), .q (.func (.func 70) #[PT g 0] #[]), .q (PT J1_0 11), .q (N (en b)), .q (N (en v3)), .call (N (en v22)), .call (N (en v23)), .made zero6 24, .made zero6 24, .made zero6 24, .laid 21 zero6 (zB (en v19)), .laid 22 zero6 (zB (en v21)), .laid 23 zero6 (zB (en v23))] (sB H5) ?ho6 ?he6 (hL := ?hL6)
 case hL6 => exact ⟨⟨_, rfl⟩, ⟨_, rfl⟩, ⟨_, rfl⟩, trivial⟩
 case ho6 => exact bT 6 Ai82 As82 (bN 3 (ac (fun w' h => eC call119 (thriceN_1 C HV19.out w' (h.two 10 11 rfl rfl (by decide)))) (bT 6 Ai82 As82 (ag (ag (bC 6 Ai76 (ag (bN 6 (bN 0 (ac (fun w' h => ⟨70, #[PT g 0, N (en b), N (en v18)], zM rfl call70 rfl (mpn rfl) rfl, C.km HV20.out w' (h.two 10 11 rfl rfl (by decide))⟩) (ac (fun w' h => eC call119 (thriceN_1 C HV21.out w' (h.two 10 11 rfl rfl (by decide)))) (bT 6 Ai82 As82 (ag (ag (bC 6 Ai76 (ag (bN 6 (bN 5 (ac (fun w' h => ⟨70, #[PT g 0, N (en b), N (en v3)], zM rfl call70 rfl (mpn rfl) rfl, C.km HV22.out w' (h.two 10 11 rfl rfl (by decide))⟩) (ac (fun w' h => eC call119 (thriceN_1 C HV23.out w' (h.two 10 11 rfl rfl (by decide)))) (am (zG rfl) (am (zG rfl) (am (zG rfl) (ak (fun J => ⟨rfl, rfl, rfl, fun w' h => zK h rfl rfl rfl⟩) (ak (fun J => ⟨rfl, rfl, rfl, fun w' h => zK h rfl rfl rfl⟩) (ak (fun J => ⟨rfl, rfl, rfl, fun w' h => zK h rfl rfl rfl⟩) trivial))))))))))))))))))))))))))
 intro J w6 l hM hl
 have H6 : Hid (Mm w6 ([(J 21, zB (en v19)), (J 22, zB (en v21)), (J 23, zB (en v23))] ++ _) ∧ _) := wB H5 hM hl [21, 22, 23]
 have o6_21 := vB H5 hM hl 21
 have o6_22 := vB H5 hM hl 22
 have o6_23 := vB H5 hM hl 23
 clear hM hl l H5
 generalize J 21 = J6_21 at H6 o6_21 ⊢
 generalize J 22 = J6_22 at H6 o6_22 ⊢
 generalize J 23 = J6_23 at H6 o6_23 ⊢
 clear J
 refine rN (wp_seq ?_)
 refine zP 16 [.q (PT J1_0 0), .q (PT J1_0 1), .q (.func (.func 69) #[PT g 0] #[]), .q (N (en v2)), .q (N (en v23)), .call (N (en v24)), .q (PT J1_0 0), .q (PT J1_0 0), .q (.func (.func 68) #[PT g 0] #[]), .q (N (en v2)), .q (N (en v23)), .call (N (en v25)), .made zero6 24, .made zero6 24, .laid 12 zero6 (zB (en v24)), .laid 13 zero6 (zB (en v25))] (sB H6) ?ho7 ?he7 (hL := ?hL7)
 case hL7 => exact ⟨⟨_, rfl⟩, ⟨_, rfl⟩, trivial⟩
 case ho7 => exact ag (ag (bC 9 Ai76 (bN 7 (bN 2 (ac (fun w' h => ⟨69, #[PT g 0, N (en v2), N (en v23)], zM rfl call69 rfl (mpn rfl) rfl, C.ks HV24.out w' (h.two 13 14 rfl rfl (by decide))⟩) (ag (ag (bC 9 Ai76 (bN 7 (bN 2 (ac (fun w' h => ⟨68, #[PT g 0, N (en v2), N (en v23)], zM rfl call68 rfl (mpn rfl) rfl, C.ka HV25.out w' (h.two 13 14 rfl rfl (by decide))⟩) (am (zG rfl) (am (zG rfl) (ak (fun J => ⟨rfl, rfl, rfl, fun w' h => zK h rfl rfl rfl⟩) (ak (fun J => ⟨rfl, rfl, rfl, fun w' h => zK h rfl rfl rfl⟩) trivial)))))))))))))))
 intro J w7 l hM hl
 have H7 : Hid (Mm w7 ([(J 12, zB (en v24)), (J 13, zB (en v25))] ++ _) ∧ _) := wB H6 hM hl [12, 13]
 have o7_12 := vB H6 hM hl 12
 have o7_13 := vB H6 hM hl 13
 clear hM hl l H6
 generalize J 12 = J7_12 at H7 o7_12 ⊢
 generalize J 13 = J7_13 at H7 o7_13 ⊢
 clear J
 refine rN (wp_seq ?_)
 refine zS 49 [.q (PT J1_0 0), .q (PT J1_0 1), .q (.func (.func 69) #[PT g 0] #[]), .q (PT J1_0 0), .q (PT J1_0 2), .q (.func (.func 70) #[PT g 0] #[]), .q (N (en v24)), .q (N (en v8)), .call (N (en v26)), .q (PT J1_0 0), .q (PT J1_0 2), .q (.func (.func 70) #[PT g 0] #[]), .q (N (en v13)), .q (N (en v21)), .call (N (en v27)), .call (N (en v28)), .q (PT J1_0 0), .q (PT J1_0 0), .q (.func (.func 68) #[PT g 0] #[]), .q (PT J1_0 0), .q (PT J1_0 2), .q (.func (.func 70) #[PT g 0] #[]), .q (N (en v24)), .q (N (en v25)), .call (N (en v29)), .q (PT J1_0 0), .q (PT J1_0 2), .q (.func (.func 70) #[PT g 0] #[]), .q (N (en v19)), .q (N (en v21)), .call (N (en v30)), .call (N (en v31)), .q (PT J1_0 0), .q (PT J1_0 0), .q (.func (.func 68) #[PT g 0] #[]), .q (PT J1_0 0), .q (PT J1_0 2), .q (.func (.func 70) #[PT g 0] #[]), .q (N (en v25)), .q (N (en v13)), .call (N (en v32)), .q (PT J1_0 0), .q (PT J1_0 2), .q (.func (.func 70) #[PT g 0] #[]), .q (N (en v19)), .q (N (en v8)), .call (N (en v33)), .call (N (en v34)), .q (V [en v28, en v31, en v34])] H7 ?ho8 ?he8 (hL := ?hL8)
 case hL8 => exact trivial
 case ho8 => exact ag (ag (bC 11 Ai76 (ag (ag (bC 11 Ai76 (bN 0 (bN 7 (ac (fun w' h => ⟨70, #[PT g 0, N (en v24), N (en v8)], zM rfl call70 rfl (mpn rfl) rfl, C.km HV26.out w' (h.two 15 16 rfl rfl (by decide))⟩) (ag (ag (bC 11 Ai76 (bN 6 (bN 3 (ac (fun w' h => ⟨70, #[PT g 0, N (en v13), N (en v21)], zM rfl call70 rfl (mpn rfl) rfl, C.km HV27.out w' (h.two 15 16 rfl rfl (by decide))⟩) (ac (fun w' h => ⟨69, #[PT g 0, N (en v26), N (en v27)], zM rfl call69 rfl (mpn rfl) rfl, C.ks HV28.out w' (h.two 15 16 rfl rfl (by decide))⟩) (ag (ag (bC 11 Ai76 (ag (ag (bC 11 Ai76 (bN 0 (bN 1 (ac (fun w' h => ⟨70, #[PT g 0, N (en v24), N (en v25)], zM rfl call70 rfl (mpn rfl) rfl, C.km HV29.out w' (h.two 15 16 rfl rfl (by decide))⟩) (ag (ag (bC 11 Ai76 (bN 2 (bN 3 (ac (fun w' h => ⟨70, #[PT g 0, N (en v19), N (en v21)], zM rfl call70 rfl (mpn rfl) rfl, C.km HV30.out w' (h.two 15 16 rfl rfl (by decide))⟩) (ac (fun w' h => ⟨68, #[PT g 0, N (en v29), N (en v30)], zM rfl call68 rfl (mpn rfl) rfl, C.ka HV31.out w' (h.two 15 16 rfl rfl (by decide))⟩) (ag (ag (bC 11 Ai76 (ag (ag (bC 11 Ai76 (bN 1 (bN 6 (ac (fun w' h => ⟨70, #[PT g 0, N (en v25), N (en v13)], zM rfl call70 rfl (mpn rfl) rfl, C.km HV32.out w' (h.two 15 16 rfl rfl (by decide))⟩) (ag (ag (bC 11 Ai76 (bN 2 (bN 7 (ac (fun w' h => ⟨70, #[PT g 0, N (en v19), N (en v8)], zM rfl call70 rfl (mpn rfl) rfl, C.km HV33.out w' (h.two 15 16 rfl rfl (by decide))⟩) (ac (fun w' h => ⟨68, #[PT g 0, N (en v32), N (en v33)], zM rfl call68 rfl (mpn rfl) rfl, C.ka HV34.out w' (h.two 15 16 rfl rfl (by decide))⟩) (ak (fun J => ⟨rfl, fun w' _ => ex_buildTN rfl rfl rfl rfl⟩) trivial))))))))))))))))))))))))))))))))))))))))))))))))
 intro _ w8 H8
 clear H7
 refine zH (l := [49]) rfl ?_
 refine sF 14 [en v28, en v31, en v34] [_, _, _, _, _, _, _, _, _, _, _, _, _, _, _, _, _] H8 o1_3 As124 fun w9 H9 => ?_
 clear H8
 refine zE (zA (wp_ret ?_))
 repeat (first | refine zJ ?_ | refine zI ?_)
 have hf0 := cel_var (k := 3) H9.out.1 14 rfl Ai124 As124 rfl
 refine bodyPost_ret (v := V [en v28, en v31, en v34]) (by simp [results, Tryz.results88, asAddr, hf0]) rfl ?_
 exact ⟨rfl, H9.out.2⟩
theorem twiceT_1 {α : Type} {en : α → Nat} {fa fs fm : α → α → α} {fi : α → α} {z u b : α} {g : Nat} {tn : Value} (_C : Fd1 g en fa fs fm fi z) (x y t : Nat) (hz : ∀ w, (Op.equalIn 10000 24 (N t) (N 0)).run Tryz.prog w = .ok true w) (w : World) (hm : Mm w [(g, zT pB), (2, dtab)]) :
  Calls Tryz.prog 109 #[.agg (G1 g tn (en u) (en b)).toArray, V [x, y, t]] w (Rt w (V [x, y, t])) := by
 have H0 : Hid (_ ∧ _) := ⟨hm, Below.refl w.heap.size w⟩
 clear hm
 have HZ : Hid _ := hz
 clear hz
 go_enter Tryz.func109, Tryz.ntmps109
 refine wp_seq ?_
 refine zC 3 [.made (G1 g tn (en u) (en b)) 82, .made (cel [x, y, t]) 124, .made (cel [0, 0, 0]) 124] (sB H0) ?ho1 ?he1
 case ho1 => exact am (zQ rfl rfl) (am (ex_boxA rfl rfl) (am (ex_madeTN rfl) trivial))
 intro J w1 l hM hl
 have H1 : Hid (Mm w1 ([(J 0, G1 g tn (en u) (en b)), (J 1, cel [x, y, t]), (J 2, cel [0, 0, 0])] ++ _) ∧ _) := wB H0 hM hl [0, 1, 2]
 have o1_0 := vB H0 hM hl 0
 have o1_1 := vB H0 hM hl 1
 have o1_2 := vB H0 hM hl 2
 clear hM hl l
 generalize J 0 = J1_0 at H1 o1_0 ⊢
 generalize J 1 = J1_1 at H1 o1_1 ⊢
 generalize J 2 = J1_2 at H1 o1_2 ⊢
 clear J
 refine rN (wp_seq (wp_seq ?_))
 refine zD 2 [.q (V [x, y, t]), .call (.bool true)] H1 ?ho2 ?he2
 case ho2 => exact bA 0 3 1 Ai124 As124 (ac (fun w' h => eC call118 (isZero_1 _ _ _ true HZ.out w')) trivial)
 intro _ w2 H2
 clear H1
 refine rN (wp_cond_true rfl (wp_seq ?_))
 refine zD 1 [.q (V [x, y, t])] H2 ?ho3 ?he3
 case ho3 => exact bA 0 3 1 Ai124 As124 trivial
 intro _ w3 H3
 clear H2
 refine zH (l := [1]) rfl ?_
 refine sF 2 [x, y, t] [_, _, _, _, _] H3 o1_2 As124 fun w4 H4 => ?_
 clear H3
 refine zE (zA (wp_ret ?_))
 repeat (first | refine zJ ?_ | refine zI ?_)
 have hf0 := cel_var (k := 3) H4.out.1 2 rfl Ai124 As124 rfl
 refine bodyPost_ret (v := V [x, y, t]) (by simp [results, Tryz.results109, asAddr, hf0]) rfl ?_
 exact ⟨rfl, H4.out.2⟩
set_option maxHeartbeats 4000000 in
theorem twiceV_1 {α : Type} {en : α → Nat} {fa fs fm : α → α → α} {fi : α → α} {z u b : α} {g : Nat} {tn : Value} (C : Fd1 g en fa fs fm fi z) (x y t : α) (hz : ∀ w, (Op.equalIn 10000 24 (N (en t)) (N 0)).run Tryz.prog w = .ok false w) (v1 v2 v3 v4 v5 v6 v7 v8 v9 v10 v11 v12 v13 v14 v15 v16 v17 v18 : α) (hv1 : fm y y = v1) (hv2 : fm y t = v2) (hv3 : fm t t = v3) (hv4 : fm b v3 = v4) (hv5 : fa (fa v4 v4) v4 = v5) (hv6 : fa v1 v1 = v6) (hv7 : fa v6 v6 = v7) (hv8 : fa v7 v7 = v8) (hv9 : fa (fa v5 v5) v5 = v9) (hv10 : fs v1 v9 = v10) (hv11 : fa v1 v5 = v11) (hv12 : fm x y = v12) (hv13 : fm v10 v12 = v13) (hv14 : fa v13 v13 = v14) (hv15 : fm v10 v11 = v15) (hv16 : fm v8 v5 = v16) (hv17 : fa v15 v16 = v17) (hv18 : fm v8 v2 = v18) (w : World) (hm : Mm w [(g, zT pB), (2, dtab)]) :
  Calls Tryz.prog 109 #[.agg (G1 g tn (en u) (en b)).toArray, V [en x, en y, en t]] w (Rt w (V [en v14, en v17, en v18])) := by
 have H0 : Hid (_ ∧ _) := ⟨hm, Below.refl w.heap.size w⟩
 clear hm
 have HZ : Hid _ := hz
 clear hz
 have HV1 : Hid _ := hv1
 clear hv1
 have HV2 : Hid _ := hv2
 clear hv2
 have HV3 : Hid _ := hv3
 clear hv3
 have HV4 : Hid _ := hv4
 clear hv4
 have HV5 : Hid _ := hv5
 clear hv5
 have HV6 : Hid _ := hv6
 clear hv6
 have HV7 : Hid _ := hv7
 clear hv7
 have HV8 : Hid _ := hv8
 clear hv8
 have HV9 : Hid _ := hv9
 clear hv9
 have HV10 : Hid _ := hv10
 clear hv10
 have HV11 : Hid _ := hv11
 clear hv11
 have HV12 : Hid _ := hv12
 clear hv12
 have HV13 : Hid _ := hv13
 clear hv13
 have HV14 : Hid _ := hv14
 clear hv14
 have HV15 : Hid _ := hv15
 clear hv15
 have HV16 : Hid _ := hv16
 clear hv16
 have HV17 : Hid _ := hv17
 clear hv17
 have HV18 : Hid _ := hv18
 clear hv18
 go_enter Tryz.func109, Tryz.ntmps109
 refine wp_seq ?_
 refine zC 3 [.made (G1 g tn (en u) (en b)) 82, .made (cel [en x, en y, en t]) 124, .made (cel [0, 0, 0]) 124] (sB H0) ?ho1 ?he1
 case ho1 => exact am (zQ rfl rfl) (am (ex_boxA rfl rfl) (am (ex_madeTN rfl) trivial))
 intro J w1 l hM hl
 have H1 : Hid (Mm w1 ([(J 0, G1 g tn (en u) (en b)), (J 1, cel [en x, en y, en t]), (J 2, cel [0, 0, 0])] ++ _) ∧ _) := wB H0 hM hl [0, 1, 2]
 have o1_0 := vB H0 hM hl 0
 have o1_1 := vB H0 hM hl 1
 have o1_2 := vB H0 hM hl 2
 clear hM hl l
 generalize J 0 = J1_0 at H1 o1_0 ⊢
 generalize J 1 = J1_1 at H1 o1_1 ⊢
 generalize J 2 = J1_2 at H1 o1_2 ⊢
 clear J
 refine rN (wp_seq (wp_seq ?_))
 refine zD 2 [.q (V [en x, en y, en t]), .call (.bool false)] H1 ?ho2 ?he2
 case ho2 => exact bA 0 3 1 Ai124 As124 (ac (fun w' h => eC call118 (isZero_1 _ _ _ false HZ.out w')) trivial)
 intro _ w2 H2
 clear H1
 refine rN (wp_cond_false rfl ?_)
 refine wp_skip (zA (wp_seq ?_))
 refine zP 20 [.q (PT J1_0 0), .q (PT J1_0 2), .q (.func (.func 70) #[PT g 0] #[]), .q (PT J1_1 6), .q (N (en y)), .q (PT J1_1 6), .q (N (en y)), .call (N (en v1)), .q (PT J1_0 0), .q (PT J1_0 2), .q (.func (.func 70) #[PT g 0] #[]), .q (PT J1_1 6), .q (N (en y)), .q (PT J1_1 12), .q (N (en t)), .call (N (en v2)), .made zero6 24, .made zero6 24, .laid 16 zero6 (zB (en v1)), .laid 17 zero6 (zB (en v2))] (sB H2) ?ho3 ?he3 (hL := ?hL3)
 case hL3 => exact ⟨⟨_, rfl⟩, ⟨_, rfl⟩, trivial⟩
 case ho3 => exact ag (ag (bC 0 Ai76 (ag (aq (fun w' h => zO (i := 1) h 1 rfl rfl rfl rfl) (ag (aq (fun w' h => zO (i := 1) h 1 rfl rfl rfl rfl) (ac (fun w' h => ⟨70, #[PT g 0, N (en y), N (en y)], zM rfl call70 rfl (mpn rfl) rfl, C.km HV1.out w' (h.two 3 4 rfl rfl (by decide))⟩) (ag (ag (bC 0 Ai76 (ag (aq (fun w' h => zO (i := 1) h 1 rfl rfl rfl rfl) (ag (aq (fun w' h => zO (i := 2) h 1 rfl rfl rfl rfl) (ac (fun w' h => ⟨70, #[PT g 0, N (en y), N (en t)], zM rfl call70 rfl (mpn rfl) rfl, C.km HV2.out w' (h.two 3 4 rfl rfl (by decide))⟩) (am (zG rfl) (am (zG rfl) (ak (fun J => ⟨rfl, rfl, rfl, fun w' h => zK h rfl rfl rfl⟩) (ak (fun J => ⟨rfl, rfl, rfl, fun w' h => zK h rfl rfl rfl⟩) trivial)))))))))))))))))))
 intro J w3 l hM hl
 have H3 : Hid (Mm w3 ([(J 16, zB (en v1)), (J 17, zB (en v2))] ++ _) ∧ _) := wB H2 hM hl [16, 17]
 have o3_16 := vB H2 hM hl 16
 have o3_17 := vB H2 hM hl 17
 clear hM hl l H2
 generalize J 16 = J3_16 at H3 o3_16 ⊢
 generalize J 17 = J3_17 at H3 o3_17 ⊢
 clear J
 refine rN (wp_seq ?_)
 refine zP 18 [.q (.agg (G1 g tn (en u) (en b)).toArray), .q (PT J1_0 0), .q (PT J1_0 2), .q (.func (.func 70) #[PT g 0] #[]), .q (PT J1_0 11), .q (N (en b)), .q (PT J1_0 0), .q (PT J1_0 2), .q (.func (.func 70) #[PT g 0] #[]), .q (PT J1_1 12), .q (N (en t)), .q (PT J1_1 12), .q (N (en t)), .call (N (en v3)), .call (N (en v4)), .call (N (en v5)), .made zero6 24, .laid 16 zero6 (zB (en v5))] (sB H3) ?ho4 ?he4 (hL := ?hL4)
 case hL4 => exact ⟨⟨_, rfl⟩, trivial⟩
 case ho4 => exact bT 2 Ai82 As82 (ag (ag (bC 2 Ai76 (ag (bN 2 (ag (ag (bC 2 Ai76 (ag (aq (fun w' h => zO (i := 2) h 3 rfl rfl rfl rfl) (ag (aq (fun w' h => zO (i := 2) h 3 rfl rfl rfl rfl) (ac (fun w' h => ⟨70, #[PT g 0, N (en t), N (en t)], zM rfl call70 rfl (mpn rfl) rfl, C.km HV3.out w' (h.two 5 6 rfl rfl (by decide))⟩) (ac (fun w' h => ⟨70, #[PT g 0, N (en b), N (en v3)], zM rfl call70 rfl (mpn rfl) rfl, C.km HV4.out w' (h.two 5 6 rfl rfl (by decide))⟩) (ac (fun w' h => eC call119 (thriceN_1 C HV5.out w' (h.two 5 6 rfl rfl (by decide)))) (am (zG rfl) (ak (fun J => ⟨rfl, rfl, rfl, fun w' h => zK h rfl rfl rfl⟩) trivial)))))))))))))))))
 intro J w4 l hM hl
 have H4 : Hid (Mm w4 ([(J 16, zB (en v5))] ++ _) ∧ _) := wB H3 hM hl [16]
 have o4_16 := vB H3 hM hl 16
 clear hM hl l H3
 generalize J 16 = J4_16 at H4 o4_16 ⊢
 clear J
 refine rN (wp_seq ?_)
 refine zP 9 [.q (.agg (G1 g tn (en u) (en b)).toArray), .q (.agg (G1 g tn (en u) (en b)).toArray), .q (.agg (G1 g tn (en u) (en b)).toArray), .q (N (en v1)), .call (N (en v6)), .call (N (en v7)), .call (N (en v8)), .made zero6 24, .laid 7 zero6 (zB (en v8))] (sB H4) ?ho5 ?he5 (hL := ?hL5)
 case hL5 => exact ⟨⟨_, rfl⟩, trivial⟩
 case ho5 => exact bT 3 Ai82 As82 (bT 3 Ai82 As82 (bT 3 Ai82 As82 (bN 1 (ac (fun w' h => eC call135 (doubleN_1 C HV6.out w' (h.two 6 7 rfl rfl (by decide)))) (ac (fun w' h => eC call135 (doubleN_1 C HV7.out w' (h.two 6 7 rfl rfl (by decide)))) (ac (fun w' h => eC call135 (doubleN_1 C HV8.out w' (h.two 6 7 rfl rfl (by decide)))) (am (zG rfl) (ak (fun J => ⟨rfl, rfl, rfl, fun w' h => zK h rfl rfl rfl⟩) trivial))))))))
 intro J w5 l hM hl
 have H5 : Hid (Mm w5 ([(J 7, zB (en v8))] ++ _) ∧ _) := wB H4 hM hl [7]
 have o5_7 := vB H4 hM hl 7
 clear hM hl l H4
 generalize J 7 = J5_7 at H5 o5_7 ⊢
 clear J
 refine rN (wp_seq ?_)
 refine zP 18 [.q (PT J1_0 0), .q (PT J1_0 1), .q (.func (.func 69) #[PT g 0] #[]), .q (N (en v1)), .q (.agg (G1 g tn (en u) (en b)).toArray), .q (N (en v5)), .call (N (en v9)), .call (N (en v10)), .q (PT J1_0 0), .q (PT J1_0 0), .q (.func (.func 68) #[PT g 0] #[]), .q (N (en v1)), .q (N (en v5)), .call (N (en v11)), .made zero6 24, .made zero6 24, .laid 14 zero6 (zB (en v10)), .laid 15 zero6 (zB (en v11))] (sB H5) ?ho6 ?he6 (hL := ?hL6)
 case hL6 => exact ⟨⟨_, rfl⟩, ⟨_, rfl⟩, trivial⟩
 case ho6 => exact ag (ag (bC 4 Ai76 (bN 2 (bT 4 Ai82 As82 (bN 1 (ac (fun w' h => eC call119 (thriceN_1 C HV9.out w' (h.two 7 8 rfl rfl (by decide)))) (ac (fun w' h => ⟨69, #[PT g 0, N (en v1), N (en v9)], zM rfl call69 rfl (mpn rfl) rfl, C.ks HV10.out w' (h.two 7 8 rfl rfl (by decide))⟩) (ag (ag (bC 4 Ai76 (bN 2 (bN 1 (ac (fun w' h => ⟨68, #[PT g 0, N (en v1), N (en v5)], zM rfl call68 rfl (mpn rfl) rfl, C.ka HV11.out w' (h.two 7 8 rfl rfl (by decide))⟩) (am (zG rfl) (am (zG rfl) (ak (fun J => ⟨rfl, rfl, rfl, fun w' h => zK h rfl rfl rfl⟩) (ak (fun J => ⟨rfl, rfl, rfl, fun w' h => zK h rfl rfl rfl⟩) trivial)))))))))))))))))
 intro J w6 l hM hl
 have H6 : Hid (Mm w6 ([(J 14, zB (en v10)), (J 15, zB (en v11))] ++ _) ∧ _) := wB H5 hM hl [14, 15]
 have o6_14 := vB H5 hM hl 14
 have o6_15 := vB H5 hM hl 15
 clear hM hl l H5
 generalize J 14 = J6_14 at H6 o6_14 ⊢
 generalize J 15 = J6_15 at H6 o6_15 ⊢
 clear J
 refine rN (wp_seq ?_)
 refine zS 38 [.q (.agg (G1 g tn (en u) (en b)).toArray), .q (PT J1_0 0), .q (PT J1_0 2), .q (.func (.func 70) #[PT g 0] #[]), .q (N (en v10)), .q (PT J1_0 0), .q (PT J1_0 2), .q (.func (.func 70) #[PT g 0] #[]), .q (PT J1_1 0), .q (N (en x)), .q (PT J1_1 6), .q (N (en y)), .call (N (en v12)), .call (N (en v13)), .call (N (en v14)), .q (PT J1_0 0), .q (PT J1_0 0), .q (.func (.func 68) #[PT g 0] #[]), .q (PT J1_0 0), .q (PT J1_0 2), .q (.func (.func 70) #[PT g 0] #[]), .q (N (en v10)), .q (N (en v11)), .call (N (en v15)), .q (PT J1_0 0), .q (PT J1_0 2), .q (.func (.func 70) #[PT g 0] #[]), .q (N (en v8)), .q (N (en v5)), .call (N (en v16)), .call (N (en v17)), .q (PT J1_0 0), .q (PT J1_0 2), .q (.func (.func 70) #[PT g 0] #[]), .q (N (en v8)), .q (N (en v2)), .call (N (en v18)), .q (V [en v14, en v17, en v18])] H6 ?ho7 ?he7 (hL := ?hL7)
 case hL7 => exact trivial
 case ho7 => exact bT 6 Ai82 As82 (ag (ag (bC 6 Ai76 (bN 0 (ag (ag (bC 6 Ai76 (ag (aq (fun w' h => zO (i := 0) h 7 rfl rfl rfl rfl) (ag (aq (fun w' h => zO (i := 1) h 7 rfl rfl rfl rfl) (ac (fun w' h => ⟨70, #[PT g 0, N (en x), N (en y)], zM rfl call70 rfl (mpn rfl) rfl, C.km HV12.out w' (h.two 9 10 rfl rfl (by decide))⟩) (ac (fun w' h => ⟨70, #[PT g 0, N (en v10), N (en v12)], zM rfl call70 rfl (mpn rfl) rfl, C.km HV13.out w' (h.two 9 10 rfl rfl (by decide))⟩) (ac (fun w' h => eC call135 (doubleN_1 C HV14.out w' (h.two 9 10 rfl rfl (by decide)))) (ag (ag (bC 6 Ai76 (ag (ag (bC 6 Ai76 (bN 0 (bN 1 (ac (fun w' h => ⟨70, #[PT g 0, N (en v10), N (en v11)], zM rfl call70 rfl (mpn rfl) rfl, C.km HV15.out w' (h.two 9 10 rfl rfl (by decide))⟩) (ag (ag (bC 6 Ai76 (bN 2 (bN 3 (ac (fun w' h => ⟨70, #[PT g 0, N (en v8), N (en v5)], zM rfl call70 rfl (mpn rfl) rfl, C.km HV16.out w' (h.two 9 10 rfl rfl (by decide))⟩) (ac (fun w' h => ⟨68, #[PT g 0, N (en v15), N (en v16)], zM rfl call68 rfl (mpn rfl) rfl, C.ka HV17.out w' (h.two 9 10 rfl rfl (by decide))⟩) (ag (ag (bC 6 Ai76 (bN 2 (bN 5 (ac (fun w' h => ⟨70, #[PT g 0, N (en v8), N (en v2)], zM rfl call70 rfl (mpn rfl) rfl, C.km HV18.out w' (h.two 9 10 rfl rfl (by decide))⟩) (ak (fun J => ⟨rfl, fun w' _ => ex_buildTN rfl rfl rfl rfl⟩) trivial)))))))))))))))))))))))))))))))))))))
 intro _ w7 H7
 clear H6
 refine zH (l := [38]) rfl ?_
 refine sF 8 [en v14, en v17, en v18] [_, _, _, _, _, _, _, _, _, _, _] H7 o1_2 As124 fun w8 H8 => ?_
 clear H7
 refine zE (zA (wp_ret ?_))
 repeat (first | refine zJ ?_ | refine zI ?_)
 have hf0 := cel_var (k := 3) H8.out.1 8 rfl Ai124 As124 rfl
 refine bodyPost_ret (v := V [en v14, en v17, en v18]) (by simp [results, Tryz.results109, asAddr, hf0]) rfl ?_
 exact ⟨rfl, H8.out.2⟩
theorem checkZ_1 {α : Type} {en : α → Nat} {fa fs fm : α → α → α} {fi : α → α} {z u b : α} {g : Nat} {tn : Value} (_C : Fd1 g en fa fs fm fi z) (x y : Nat) (be : Bool) (he : ∀ w, (Op.equalIn 10000 85 (.agg (zW x y true).toArray) (.agg (zW 0 0 true).toArray)).run Tryz.prog w = .ok be w) (w : World) (hm : Mm w [(g, zT pB), (2, dtab)]) :
  Calls Tryz.prog 45 #[.agg (G1 g tn (en u) (en b)).toArray, .agg (zW x y true).toArray] w (Rt w (.bool be)) := by
 have H0 : Hid (_ ∧ _) := ⟨hm, Below.refl w.heap.size w⟩
 clear hm
 have HE : Hid _ := he
 clear he
 go_enter Tryz.func45, Tryz.ntmps45
 refine wp_seq ?_
 refine zC 3 [.made (G1 g tn (en u) (en b)) 82, .made (zW x y true) 85, .q (.bool false)] (sB H0) ?ho1 ?he1
 case ho1 => exact am (zQ rfl rfl) (am (zQ rfl rfl) (ar trivial))
 intro J w1 l hM hl
 have H1 : Hid (Mm w1 ([(J 0, G1 g tn (en u) (en b)), (J 1, zW x y true)] ++ _) ∧ _) := wB H0 hM hl [0, 1]
 have o1_0 := vB H0 hM hl 0
 have o1_1 := vB H0 hM hl 1
 clear hM hl l
 generalize J 0 = J1_0 at H1 o1_0 ⊢
 generalize J 1 = J1_1 at H1 o1_1 ⊢
 clear J
 refine rN (wp_seq (wp_seq ?_))
 refine zD 2 [.q (PT J1_1 12), .q (.bool true)] H1 ?ho2 ?he2
 case ho2 => exact ag (bC 1 Ai4 trivial)
 intro _ w2 H2
 clear H1
 refine rN (wp_cond_true rfl (wp_seq ?_))
 refine zD 4 [.q (.agg (zW x y true).toArray), .q (.agg (zW 0 0 true).toArray), .q (.bool be), .q (.bool be)] H2 ?ho3 ?he3
 case ho3 => exact bT 1 Ai85 As85 (ak (fun J => ⟨rfl, fun w' _ => ex_buildPNt rfl rfl⟩) (ak (fun J => ⟨rfl, fun w' _ => exec_eqT85 HE.out rfl rfl rfl⟩) (ar trivial)))
 intro _ w3 H3
 clear H2
 refine rN (wp_ret ?_)
 repeat (first | refine zJ ?_ | refine zI ?_)
 refine bodyPost_ret (v := .bool be) (by simp [results, Tryz.results45, go_sem, *]) rfl ?_
 exact ⟨rfl, H3.out.2⟩
theorem checkX_1 {α : Type} {en : α → Nat} {fa fs fm : α → α → α} {fi : α → α} {z u b : α} {g : Nat} {tn : Value} (_C : Fd1 g en fa fs fm fi z) (x y : Nat) (cx : ∀ w, Mm w [(g, zT pB), (2, dtab)] → Calls Tryz.prog 72 #[N x] w (Rt w (.bool false))) (w : World) (hm : Mm w [(g, zT pB), (2, dtab)]) :
  Calls Tryz.prog 45 #[.agg (G1 g tn (en u) (en b)).toArray, .agg (zW x y false).toArray] w (Rt w (.bool false)) := by
 have H0 : Hid (_ ∧ _) := ⟨hm, Below.refl w.heap.size w⟩
 clear hm
 have CX : Hid _ := cx
 clear cx
 go_enter Tryz.func45, Tryz.ntmps45
 refine wp_seq ?_
 refine zC 3 [.made (G1 g tn (en u) (en b)) 82, .made (zW x y false) 85, .q (.bool false)] (sB H0) ?ho1 ?he1
 case ho1 => exact am (zQ rfl rfl) (am (zQ rfl rfl) (ar trivial))
 intro J w1 l hM hl
 have H1 : Hid (Mm w1 ([(J 0, G1 g tn (en u) (en b)), (J 1, zW x y false)] ++ _) ∧ _) := wB H0 hM hl [0, 1]
 have o1_0 := vB H0 hM hl 0
 have o1_1 := vB H0 hM hl 1
 clear hM hl l
 generalize J 0 = J1_0 at H1 o1_0 ⊢
 generalize J 1 = J1_1 at H1 o1_1 ⊢
 clear J
 refine rN (wp_seq (wp_seq ?_))
 refine zD 2 [.q (PT J1_1 12), .q (.bool false)] H1 ?ho2 ?he2
 case ho2 => exact ag (bC 1 Ai4 trivial)
 intro _ w2 H2
 clear H1
 refine rN (wp_cond_false rfl ?_)
 refine wp_skip (zA (wp_seq ?_))
 refine zS 46 [.q (PT J1_0 0), .q (PT J1_0 4), .q (.func (.func 72) #[] #[]), .q (PT J1_1 0), .q (N x), .call (.bool false), .q (.bool false), .gone, .gone, .gone, .gone, .gone, .gone, .q (.bool false), .q (.bool false), .gone, .gone, .gone, .gone, .gone, .gone, .gone, .gone, .gone, .gone, .gone, .gone, .gone, .gone, .gone, .gone, .gone, .gone, .gone, .gone, .gone, .gone, .gone, .gone, .gone, .gone, .gone, .gone, .gone, .q (.bool false), .q (.bool false)] H2 ?ho3 ?he3 (hL := ?hL3)
 case hL3 => exact trivial
 case ho3 => exact ag (ag (bC 0 Ai46 (ag (bN 1 (ac (fun w' h => ⟨72, #[N x], zM rfl call72 rfl (mpn rfl) rfl, CX.out w' (h.two 2 3 rfl rfl (by decide))⟩) (ar (ak (fun J => rfl) (ak (fun J => rfl) (ak (fun J => rfl) (ak (fun J => rfl) (ak (fun J => rfl) (ak (fun J => rfl) (ag (ar (ak (fun J => rfl) (ak (fun J => rfl) (ak (fun J => rfl) (ak (fun J => rfl) (ak (fun J => rfl) (ak (fun J => rfl) (ak (fun J => rfl) (ak (fun J => rfl) (ak (fun J => rfl) (ak (fun J => rfl) (ak (fun J => rfl) (ak (fun J => rfl) (ak (fun J => rfl) (ak (fun J => rfl) (ak (fun J => rfl) (ak (fun J => rfl) (ak (fun J => rfl) (ak (fun J => rfl) (ak (fun J => rfl) (ak (fun J => rfl) (ak (fun J => rfl) (ak (fun J => rfl) (ak (fun J => rfl) (ak (fun J => rfl) (ak (fun J => rfl) (ak (fun J => rfl) (ak (fun J => rfl) (ak (fun J => rfl) (ak (fun J => rfl) (ag (ar trivial)))))))))))))))))))))))))))))))))))))))))))))
 intro _ w3 H3
 clear H2
 refine rN (wp_ret ?_)
 repeat (first | refine zJ ?_ | refine zI ?_)
 refine bodyPost_ret (v := .bool false) (by simp [results, Tryz.results45, go_sem, *]) rfl ?_
 exact ⟨rfl, H3.out.2⟩
theorem checkY_1 {α : Type} {en : α → Nat} {fa fs fm : α → α → α} {fi : α → α} {z u b : α} {g : Nat} {tn : Value} (_C : Fd1 g en fa fs fm fi z) (x y : Nat) (cx : ∀ w, Mm w [(g, zT pB), (2, dtab)] → Calls Tryz.prog 72 #[N x] w (Rt w (.bool true))) (cy : ∀ w, Mm w [(g, zT pB), (2, dtab)] → Calls Tryz.prog 72 #[N y] w (Rt w (.bool false))) (w : World) (hm : Mm w [(g, zT pB), (2, dtab)]) :
  Calls Tryz.prog 45 #[.agg (G1 g tn (en u) (en b)).toArray, .agg (zW x y false).toArray] w (Rt w (.bool false)) := by
 have H0 : Hid (_ ∧ _) := ⟨hm, Below.refl w.heap.size w⟩
 clear hm
 have CX : Hid _ := cx
 clear cx
 have CY : Hid _ := cy
 clear cy
 go_enter Tryz.func45, Tryz.ntmps45
 refine wp_seq ?_
 refine zC 3 [.made (G1 g tn (en u) (en b)) 82, .made (zW x y false) 85, .q (.bool false)] (sB H0) ?ho1 ?he1
 case ho1 => exact am (zQ rfl rfl) (am (zQ rfl rfl) (ar trivial))
 intro J w1 l hM hl
 have H1 : Hid (Mm w1 ([(J 0, G1 g tn (en u) (en b)), (J 1, zW x y false)] ++ _) ∧ _) := wB H0 hM hl [0, 1]
 have o1_0 := vB H0 hM hl 0
 have o1_1 := vB H0 hM hl 1
 clear hM hl l
 generalize J 0 = J1_0 at H1 o1_0 ⊢
 generalize J 1 = J1_1 at H1 o1_1 ⊢
 clear J
 refine rN (wp_seq (wp_seq ?_))
 refine zD 2 [.q (PT J1_1 12), .q (.bool false)] H1 ?ho2 ?he2
 case ho2 => exact ag (bC 1 Ai4 trivial)
 intro _ w2 H2
 clear H1
 refine rN (wp_cond_false rfl ?_)
 refine wp_skip (zA (wp_seq ?_))
 refine zS 46 [.q (PT J1_0 0), .q (PT J1_0 4), .q (.func (.func 72) #[] #[]), .q (PT J1_1 0), .q (N x), .call (.bool true), .q (.bool true), .q (PT J1_0 0), .q (PT J1_0 4), .q (.func (.func 72) #[] #[]), .q (PT J1_1 6), .q (N y), .call (.bool false), .q (.bool false), .q (.bool false), .gone, .gone, .gone, .gone, .gone, .gone, .gone, .gone, .gone, .gone, .gone, .gone, .gone, .gone, .gone, .gone, .gone, .gone, .gone, .gone, .gone, .gone, .gone, .gone, .gone, .gone, .gone, .gone, .gone, .q (.bool false), .q (.bool false)] H2 ?ho3 ?he3 (hL := ?hL3)
 case hL3 => exact trivial
 case ho3 => exact ag (ag (bC 0 Ai46 (ag (bN 1 (ac (fun w' h => ⟨72, #[N x], zM rfl call72 rfl (mpn rfl) rfl, CX.out w' (h.two 2 3 rfl rfl (by decide))⟩) (ar (ag (ag (bC 0 Ai46 (ag (bN 1 (ac (fun w' h => ⟨72, #[N y], zM rfl call72 rfl (mpn rfl) rfl, CY.out w' (h.two 2 3 rfl rfl (by decide))⟩) (ag (ar (ak (fun J => rfl) (ak (fun J => rfl) (ak (fun J => rfl) (ak (fun J => rfl) (ak (fun J => rfl) (ak (fun J => rfl) (ak (fun J => rfl) (ak (fun J => rfl) (ak (fun J => rfl) (ak (fun J => rfl) (ak (fun J => rfl) (ak (fun J => rfl) (ak (fun J => rfl) (ak (fun J => rfl) (ak (fun J => rfl) (ak (fun J => rfl) (ak (fun J => rfl) (ak (fun J => rfl) (ak (fun J => rfl) (ak (fun J => rfl) (ak (fun J => rfl) (ak (fun J => rfl) (ak (fun J => rfl) (ak (fun J => rfl) (ak (fun J => rfl) (ak (fun J => rfl) (ak (fun J => rfl) (ak (fun J => rfl) (ak (fun J => rfl) (ag (ar trivial)))))))))))))))))))))))))))))))))))))))))))))
 intro _ w3 H3
 clear H2
 refine rN (wp_ret ?_)
 repeat (first | refine zJ ?_ | refine zI ?_)
 refine bodyPost_ret (v := .bool false) (by simp [results, Tryz.results45, go_sem, *]) rfl ?_
 exact ⟨rfl, H3.out.2⟩
set_option maxHeartbeats 4000000 in
theorem checkB_1 {α : Type} {en : α → Nat} {fa fs fm : α → α → α} {fi : α → α} {z u b : α} {g : Nat} {tn : Value} (C : Fd1 g en fa fs fm fi z) (x y : α) (be : Bool) (cx : ∀ w, Mm w [(g, zT pB), (2, dtab)] → Calls Tryz.prog 72 #[N (en x)] w (Rt w (.bool true))) (cy : ∀ w, Mm w [(g, zT pB), (2, dtab)] → Calls Tryz.prog 72 #[N (en y)] w (Rt w (.bool true))) (he : ∀ w, (Op.equalIn 10000 24 (N (en (fm y y))) (N (en (fa (fm x (fm x x)) b)))).run Tryz.prog w = .ok be w) (w : World) (hm : Mm w [(g, zT pB), (2, dtab)]) :
  Calls Tryz.prog 45 #[.agg (G1 g tn (en u) (en b)).toArray, .agg (zW (en x) (en y) false).toArray] w (Rt w (.bool be)) := by
 have H0 : Hid (_ ∧ _) := ⟨hm, Below.refl w.heap.size w⟩
 clear hm
 have CX : Hid _ := cx
 clear cx
 have CY : Hid _ := cy
 clear cy
 have HE : Hid _ := he
 clear he
 go_enter Tryz.func45, Tryz.ntmps45
 refine wp_seq ?_
 refine zC 3 [.made (G1 g tn (en u) (en b)) 82, .made (zW (en x) (en y) false) 85, .q (.bool false)] (sB H0) ?ho1 ?he1
 case ho1 => exact am (zQ rfl rfl) (am (zQ rfl rfl) (ar trivial))
 intro J w1 l hM hl
 have H1 : Hid (Mm w1 ([(J 0, G1 g tn (en u) (en b)), (J 1, zW (en x) (en y) false)] ++ _) ∧ _) := wB H0 hM hl [0, 1]
 have o1_0 := vB H0 hM hl 0
 have o1_1 := vB H0 hM hl 1
 clear hM hl l
 generalize J 0 = J1_0 at H1 o1_0 ⊢
 generalize J 1 = J1_1 at H1 o1_1 ⊢
 clear J
 refine rN (wp_seq (wp_seq ?_))
 refine zD 2 [.q (PT J1_1 12), .q (.bool false)] H1 ?ho2 ?he2
 case ho2 => exact ag (bC 1 Ai4 trivial)
 intro _ w2 H2
 clear H1
 refine rN (wp_cond_false rfl ?_)
 refine wp_skip (zA (wp_seq ?_))
 refine zS 46 [.q (PT J1_0 0), .q (PT J1_0 4), .q (.func (.func 72) #[] #[]), .q (PT J1_1 0), .q (N (en x)), .call (.bool true), .q (.bool true), .q (PT J1_0 0), .q (PT J1_0 4), .q (.func (.func 72) #[] #[]), .q (PT J1_1 6), .q (N (en y)), .call (.bool true), .q (.bool true), .q (.bool true), .q (PT J1_0 0), .q (PT J1_0 2), .q (.func (.func 70) #[PT g 0] #[]), .q (PT J1_1 6), .q (N (en y)), .q (PT J1_1 6), .q (N (en y)), .call (N (en (fm y y))), .q (PT J1_0 0), .q (PT J1_0 0), .q (.func (.func 68) #[PT g 0] #[]), .q (PT J1_0 0), .q (PT J1_0 2), .q (.func (.func 70) #[PT g 0] #[]), .q (PT J1_1 0), .q (N (en x)), .q (PT J1_0 0), .q (PT J1_0 2), .q (.func (.func 70) #[PT g 0] #[]), .q (PT J1_1 0), .q (N (en x)), .q (PT J1_1 0), .q (N (en x)), .call (N (en (fm x x))), .call (N (en (fm x (fm x x)))), .q (PT J1_0 11), .q (N (en b)), .call (N (en (fa (fm x (fm x x)) b))), .q (.bool be), .q (.bool be), .q (.bool be)] H2 ?ho3 ?he3 (hL := ?hL3)
 case hL3 => exact trivial
 case ho3 => exact ag (ag (bC 0 Ai46 (ag (bN 1 (ac (fun w' h => ⟨72, #[N (en x)], zM rfl call72 rfl (mpn rfl) rfl, CX.out w' (h.two 2 3 rfl rfl (by decide))⟩) (ar (ag (ag (bC 0 Ai46 (ag (bN 1 (ac (fun w' h => ⟨72, #[N (en y)], zM rfl call72 rfl (mpn rfl) rfl, CY.out w' (h.two 2 3 rfl rfl (by decide))⟩) (ag (ar (ag (ag (bC 0 Ai76 (ag (bN 1 (ag (bN 1 (ac (fun w' h => ⟨70, #[PT g 0, N (en y), N (en y)], zM rfl call70 rfl (mpn rfl) rfl, C.cm _ _ w' (h.two 2 3 rfl rfl (by decide))⟩) (ag (ag (bC 0 Ai76 (ag (ag (bC 0 Ai76 (ag (bN 1 (ag (ag (bC 0 Ai76 (ag (bN 1 (ag (bN 1 (ac (fun w' h => ⟨70, #[PT g 0, N (en x), N (en x)], zM rfl call70 rfl (mpn rfl) rfl, C.cm _ _ w' (h.two 2 3 rfl rfl (by decide))⟩) (ac (fun w' h => ⟨70, #[PT g 0, N (en x), N (en (fm x x))], zM rfl call70 rfl (mpn rfl) rfl, C.cm _ _ w' (h.two 2 3 rfl rfl (by decide))⟩) (ag (bN 0 (ac (fun w' h => ⟨68, #[PT g 0, N (en (fm x (fm x x))), N (en b)], zM rfl call68 rfl (mpn rfl) rfl, C.ca _ _ w' (h.two 2 3 rfl rfl (by decide))⟩) (ak (fun J => ⟨rfl, fun w' _ => exec_eq6 HE.out rfl rfl rfl⟩) (ag (ar trivial)))))))))))))))))))))))))))))))))))))))))))))
 intro _ w3 H3
 clear H2
 refine rN (wp_ret ?_)
 repeat (first | refine zJ ?_ | refine zI ?_)
 refine bodyPost_ret (v := .bool be) (by simp [results, Tryz.results45, go_sem, *]) rfl ?_
 exact ⟨rfl, H3.out.2⟩
theorem negN_1 {α : Type} {en : α → Nat} {fa fs fm : α → α → α} {fi : α → α} {z u b : α} {g : Nat} {tn : Value} (_C : Fd1 g en fa fs fm fi z) (x y : Nat) (zb : Bool) (ck : ∀ w, Mm w [(g, zT pB), (2, dtab)] → Calls Tryz.prog 45 #[.agg (G1 g tn (en u) (en b)).toArray, .agg (zW x y zb).toArray] w (Rt w (.bool false))) (w : World) (hm : Mm w [(g, zT pB), (2, dtab)]) :
  Calls Tryz.prog 46 #[.agg (G1 g tn (en u) (en b)).toArray, .agg (zW x y zb).toArray] w (Rt w (.tuple #[.agg (zW 0 0 false).toArray, .int .i64 5])) := by
 have H0 : Hid (_ ∧ _) := ⟨hm, Below.refl w.heap.size w⟩
 clear hm
 have CK : Hid _ := ck
 clear ck
 go_enter Tryz.func46, Tryz.ntmps46
 refine wp_seq ?_
 refine zC 4 [.made (G1 g tn (en u) (en b)) 82, .made (zW x y zb) 85, .made (zW 0 0 false) 85, .q (.int .i64 0)] (sB H0) ?ho1 ?he1
 case ho1 => exact am (zQ rfl rfl) (am (zQ rfl rfl) (am (ex_madePN rfl) (ar trivial)))
 intro J w1 l hM hl
 have H1 : Hid (Mm w1 ([(J 0, G1 g tn (en u) (en b)), (J 1, zW x y zb), (J 2, zW 0 0 false)] ++ _) ∧ _) := wB H0 hM hl [0, 1, 2]
 have o1_0 := vB H0 hM hl 0
 have o1_1 := vB H0 hM hl 1
 have o1_2 := vB H0 hM hl 2
 clear hM hl l
 generalize J 0 = J1_0 at H1 o1_0 ⊢
 generalize J 1 = J1_1 at H1 o1_1 ⊢
 generalize J 2 = J1_2 at H1 o1_2 ⊢
 clear J
 refine rN (wp_seq (wp_seq ?_))
 refine zD 4 [.q (.agg (G1 g tn (en u) (en b)).toArray), .q (.agg (zW x y zb).toArray), .call (.bool false), .q (.bool true)] H1 ?ho2 ?he2
 case ho2 => exact bT 0 Ai82 As82 (bT 1 Ai85 As85 (ac (fun w' h => eC call45 (CK.out w' (h.two 3 4 rfl rfl (by decide)))) (ag trivial)))
 intro _ w2 H2
 clear H1
 refine rN (wp_cond_true rfl (wp_seq ?_))
 refine zD 1 [.q (.agg (zW 0 0 false).toArray)] H2 ?ho3 ?he3
 case ho3 => exact ak (fun J => ⟨rfl, fun w' _ => ex_buildPNz rfl⟩) trivial
 intro _ w3 H3
 clear H2
 refine zH (l := [1, 2]) rfl ?_
 refine sG rfl (fun h => ex_storeT (vs := zW 0 0 false) h 2 rfl rfl rfl rfl As85 rfl (Nat.le_of_ble_eq_true rfl)) 2 [_, _, (_, zW 0 0 false), _, _] H3 o1_2 fun w4 H4 => ?_
 clear H3
 refine zF (d := 5) rfl rfl rfl rfl ?_
 simp only [Act.put, sa, sz, ss]
 refine zE (zA (wp_ret ?_))
 repeat (first | refine zJ ?_ | refine zI ?_)
 have hf0 := var_T H4.out.1 2 rfl Ai85 As85 rfl
 refine bodyPost_ret (v := .tuple #[.agg (zW 0 0 false).toArray, .int .i64 5]) (by simp [results, Tryz.results46, asAddr, Act.eval, hf0]) rfl ?_
 exact ⟨rfl, H4.out.2⟩
theorem negY_1 {α : Type} {en : α → Nat} {fa fs fm : α → α → α} {fi : α → α} {z u b : α} {g : Nat} {tn : Value} (C : Fd1 g en fa fs fm fi z) (x : Nat) (y : α) (zb : Bool) (ck : ∀ w, Mm w [(g, zT pB), (2, dtab)] → Calls Tryz.prog 45 #[.agg (G1 g tn (en u) (en b)).toArray, .agg (zW x (en y) zb).toArray] w (Rt w (.bool true))) (w : World) (hm : Mm w [(g, zT pB), (2, dtab)]) :
  Calls Tryz.prog 46 #[.agg (G1 g tn (en u) (en b)).toArray, .agg (zW x (en y) zb).toArray] w (Rt w (.tuple #[.agg (zW x (en (fs z y)) zb).toArray, .int .i64 0])) := by
 have H0 : Hid (_ ∧ _) := ⟨hm, Below.refl w.heap.size w⟩
 clear hm
 have CK : Hid _ := ck
 clear ck
 go_enter Tryz.func46, Tryz.ntmps46
 refine wp_seq ?_
 refine zC 4 [.made (G1 g tn (en u) (en b)) 82, .made (zW x (en y) zb) 85, .made (zW 0 0 false) 85, .q (.int .i64 0)] (sB H0) ?ho1 ?he1
 case ho1 => exact am (zQ rfl rfl) (am (zQ rfl rfl) (am (ex_madePN rfl) (ar trivial)))
 intro J w1 l hM hl
 have H1 : Hid (Mm w1 ([(J 0, G1 g tn (en u) (en b)), (J 1, zW x (en y) zb), (J 2, zW 0 0 false)] ++ _) ∧ _) := wB H0 hM hl [0, 1, 2]
 have o1_0 := vB H0 hM hl 0
 have o1_1 := vB H0 hM hl 1
 have o1_2 := vB H0 hM hl 2
 clear hM hl l
 generalize J 0 = J1_0 at H1 o1_0 ⊢
 generalize J 1 = J1_1 at H1 o1_1 ⊢
 generalize J 2 = J1_2 at H1 o1_2 ⊢
 clear J
 refine rN (wp_seq (wp_seq ?_))
 refine zD 4 [.q (.agg (G1 g tn (en u) (en b)).toArray), .q (.agg (zW x (en y) zb).toArray), .call (.bool true), .q (.bool false)] H1 ?ho2 ?he2
 case ho2 => exact bT 0 Ai82 As82 (bT 1 Ai85 As85 (ac (fun w' h => eC call45 (CK.out w' (h.two 3 4 rfl rfl (by decide)))) (ag trivial)))
 intro _ w2 H2
 clear H1
 refine rN (wp_cond_false rfl ?_)
 refine wp_skip (zA (wp_seq ?_))
 refine zD 5 [.q (.agg (G1 g tn (en u) (en b)).toArray), .q (PT J1_1 6), .q (N (en y)), .call (N (en (fs z y))), .q (PT J1_1 6)] H2 ?ho3 ?he3
 case ho3 => exact bT 0 Ai82 As82 (ag (bN 1 (ac (fun w' h => eC call76 (minus_1 C _ w' (h.two 3 4 rfl rfl (by decide)))) (ag trivial))))
 intro _ w3 H3
 clear H2
 refine zH (l := [5]) rfl ?_
 refine sG rfl (fun h => ex_storeT (vs := cel [en (fs z y)]) h 1 rfl rfl rfl rfl Tryz.sizeOf24 rfl (Nat.le_of_ble_eq_true rfl)) 1 [_, (_, zW x (en (fs z y)) zb), _, _, _] H3 o1_1 fun w4 H4 => ?_
 clear H3
 refine zE (zA (wp_seq ?_))
 refine zD 1 [.q (.agg (zW x (en (fs z y)) zb).toArray)] H4 ?ho4 ?he4
 case ho4 => exact bT 1 Ai85 As85 trivial
 intro _ w5 H5
 clear H4
 refine zH (l := [1, 2]) rfl ?_
 refine sG rfl (fun h => ex_storeT (vs := zW x (en (fs z y)) zb) h 2 rfl rfl rfl rfl As85 rfl (Nat.le_of_ble_eq_true rfl)) 2 [_, _, (_, zW x (en (fs z y)) zb), _, _] H5 o1_2 fun w6 H6 => ?_
 clear H5
 refine zF (d := 5) rfl rfl rfl rfl ?_
 simp only [Act.put, sa, sz, ss]
 refine zE (zA (wp_ret ?_))
 repeat (first | refine zJ ?_ | refine zI ?_)
 have hf0 := var_T H6.out.1 2 rfl Ai85 As85 rfl
 refine bodyPost_ret (v := .tuple #[.agg (zW x (en (fs z y)) zb).toArray, .int .i64 0]) (by simp [results, Tryz.results46, asAddr, Act.eval, hf0]) rfl ?_
 exact ⟨rfl, H6.out.2⟩
theorem checkZ_2 {α : Type} {e0 e1 : α → Nat} {fa fs fm : α → α → α} {fi : α → α} {z u b : α} {tn : Value} (_C : Fd2 e0 e1 fa fs fm fi z) (x0 x1 y0 y1 : Nat) (be : Bool) (he : ∀ w, (Op.equalIn 10000 96 (.agg (pc2 x0 x1 y0 y1 true).toArray) (.agg (pc2 0 0 0 0 true).toArray)).run Tryz.prog w = .ok be w) (w : World) (hm : Mm w [(2, dtab)]) :
  Calls Tryz.prog 57 #[.agg (G2 tn (e0 u) (e1 u) (e0 b) (e1 b)).toArray, .agg (pc2 x0 x1 y0 y1 true).toArray] w (Rt w (.bool be)) := by
 have H0 : Hid (_ ∧ _) := ⟨hm, Below.refl w.heap.size w⟩
 clear hm
 have HE : Hid _ := he
 clear he
 go_enter Tryz.func57, Tryz.ntmps57
 refine wp_seq ?_
 refine zC 3 [.made (G2 tn (e0 u) (e1 u) (e0 b) (e1 b)) 93, .made (pc2 x0 x1 y0 y1 true) 96, .q (.bool false)] (sB H0) ?ho1 ?he1
 case ho1 => exact am (zQ rfl rfl) (am (zQ rfl rfl) (ar trivial))
 intro J w1 l hM hl
 have H1 : Hid (Mm w1 ([(J 0, G2 tn (e0 u) (e1 u) (e0 b) (e1 b)), (J 1, pc2 x0 x1 y0 y1 true)] ++ _) ∧ _) := wB H0 hM hl [0, 1]
 have o1_0 := vB H0 hM hl 0
 have o1_1 := vB H0 hM hl 1
 clear hM hl l
 generalize J 0 = J1_0 at H1 o1_0 ⊢
 generalize J 1 = J1_1 at H1 o1_1 ⊢
 clear J
 refine rN (wp_seq (wp_seq ?_))
 refine zD 2 [.q (PT J1_1 24), .q (.bool true)] H1 ?ho2 ?he2
 case ho2 => exact ag (bC 1 Ai4 trivial)
 intro _ w2 H2
 clear H1
 refine rN (wp_cond_true rfl (wp_seq ?_))
 refine zD 4 [.q (.agg (pc2 x0 x1 y0 y1 true).toArray), .q (.agg (pc2 0 0 0 0 true).toArray), .q (.bool be), .q (.bool be)] H2 ?ho3 ?he3
 case ho3 => exact bT 1 Ai96 As96 (ak (fun J => ⟨rfl, fun w' _ => ex_buildPEt rfl rfl⟩) (ak (fun J => ⟨rfl, fun w' _ => exec_eqT96 HE.out rfl rfl rfl⟩) (ar trivial)))
 intro _ w3 H3
 clear H2
 refine rN (wp_ret ?_)
 repeat (first | refine zJ ?_ | refine zI ?_)
 refine bodyPost_ret (v := .bool be) (by simp [results, Tryz.results57, go_sem, *]) rfl ?_
 exact ⟨rfl, H3.out.2⟩
theorem checkX_2 {α : Type} {e0 e1 : α → Nat} {fa fs fm : α → α → α} {fi : α → α} {z u b : α} {tn : Value} (_C : Fd2 e0 e1 fa fs fm fi z) (x0 x1 y0 y1 : Nat) (cx : ∀ w, Mm w [(2, dtab)] → Calls Tryz.prog 81 #[V [x0, x1]] w (Rt w (.bool false))) (w : World) (hm : Mm w [(2, dtab)]) :
  Calls Tryz.prog 57 #[.agg (G2 tn (e0 u) (e1 u) (e0 b) (e1 b)).toArray, .agg (pc2 x0 x1 y0 y1 false).toArray] w (Rt w (.bool false)) := by
 have H0 : Hid (_ ∧ _) := ⟨hm, Below.refl w.heap.size w⟩
 clear hm
 have CX : Hid _ := cx
 clear cx
 go_enter Tryz.func57, Tryz.ntmps57
 refine wp_seq ?_
 refine zC 3 [.made (G2 tn (e0 u) (e1 u) (e0 b) (e1 b)) 93, .made (pc2 x0 x1 y0 y1 false) 96, .q (.bool false)] (sB H0) ?ho1 ?he1
 case ho1 => exact am (zQ rfl rfl) (am (zQ rfl rfl) (ar trivial))
 intro J w1 l hM hl
 have H1 : Hid (Mm w1 ([(J 0, G2 tn (e0 u) (e1 u) (e0 b) (e1 b)), (J 1, pc2 x0 x1 y0 y1 false)] ++ _) ∧ _) := wB H0 hM hl [0, 1]
 have o1_0 := vB H0 hM hl 0
 have o1_1 := vB H0 hM hl 1
 clear hM hl l
 generalize J 0 = J1_0 at H1 o1_0 ⊢
 generalize J 1 = J1_1 at H1 o1_1 ⊢
 clear J
 refine rN (wp_seq (wp_seq ?_))
 refine zD 2 [.q (PT J1_1 24), .q (.bool false)] H1 ?ho2 ?he2
 case ho2 => exact ag (bC 1 Ai4 trivial)
 intro _ w2 H2
 clear H1
 refine rN (wp_cond_false rfl ?_)
 refine wp_skip (zA (wp_seq ?_))
 refine zS 46 [.q (PT J1_0 0), .q (PT J1_0 4), .q (.func (.func 81) #[] #[]), .q (PT J1_1 0), .q (V [x0, x1]), .call (.bool false), .q (.bool false), .gone, .gone, .gone, .gone, .gone, .gone, .q (.bool false), .q (.bool false), .gone, .gone, .gone, .gone, .gone, .gone, .gone, .gone, .gone, .gone, .gone, .gone, .gone, .gone, .gone, .gone, .gone, .gone, .gone, .gone, .gone, .gone, .gone, .gone, .gone, .gone, .gone, .gone, .gone, .q (.bool false), .q (.bool false)] H2 ?ho3 ?he3 (hL := ?hL3)
 case hL3 => exact trivial
 case ho3 => exact ag (ag (bC 0 Ai88 (ag (bT 1 Ai33 As33 (ac (fun w' h => ⟨81, #[V [x0, x1]], zM rfl call81 rfl (mpn rfl) rfl, CX.out w' (h.one 2 rfl)⟩) (ar (ak (fun J => rfl) (ak (fun J => rfl) (ak (fun J => rfl) (ak (fun J => rfl) (ak (fun J => rfl) (ak (fun J => rfl) (ag (ar (ak (fun J => rfl) (ak (fun J => rfl) (ak (fun J => rfl) (ak (fun J => rfl) (ak (fun J => rfl) (ak (fun J => rfl) (ak (fun J => rfl) (ak (fun J => rfl) (ak (fun J => rfl) (ak (fun J => rfl) (ak (fun J => rfl) (ak (fun J => rfl) (ak (fun J => rfl) (ak (fun J => rfl) (ak (fun J => rfl) (ak (fun J => rfl) (ak (fun J => rfl) (ak (fun J => rfl) (ak (fun J => rfl) (ak (fun J => rfl) (ak (fun J => rfl) (ak (fun J => rfl) (ak (fun J => rfl) (ak (fun J => rfl) (ak (fun J => rfl) (ak (fun J => rfl) (ak (fun J => rfl) (ak (fun J => rfl) (ak (fun J => rfl) (ag (ar trivial)))))))))))))))))))))))))))))))))))))))))))))
 intro _ w3 H3
 clear H2
 refine rN (wp_ret ?_)
 repeat (first | refine zJ ?_ | refine zI ?_)
 refine bodyPost_ret (v := .bool false) (by simp [results, Tryz.results57, go_sem, *]) rfl ?_
 exact ⟨rfl, H3.out.2⟩
theorem checkY_2 {α : Type} {e0 e1 : α → Nat} {fa fs fm : α → α → α} {fi : α → α} {z u b : α} {tn : Value} (_C : Fd2 e0 e1 fa fs fm fi z) (x0 x1 y0 y1 : Nat) (cx : ∀ w, Mm w [(2, dtab)] → Calls Tryz.prog 81 #[V [x0, x1]] w (Rt w (.bool true))) (cy : ∀ w, Mm w [(2, dtab)] → Calls Tryz.prog 81 #[V [y0, y1]] w (Rt w (.bool false))) (w : World) (hm : Mm w [(2, dtab)]) :
  Calls Tryz.prog 57 #[.agg (G2 tn (e0 u) (e1 u) (e0 b) (e1 b)).toArray, .agg (pc2 x0 x1 y0 y1 false).toArray] w (Rt w (.bool false)) := by
 have H0 : Hid (_ ∧ _) := ⟨hm, Below.refl w.heap.size w⟩
 clear hm
 have CX : Hid _ := cx
 clear cx
 have CY : Hid _ := cy
 clear cy
 go_enter Tryz.func57, Tryz.ntmps57
 refine wp_seq ?_
 refine zC 3 [.made (G2 tn (e0 u) (e1 u) (e0 b) (e1 b)) 93, .made (pc2 x0 x1 y0 y1 false) 96, .q (.bool false)] (sB H0) ?ho1 ?he1
 case ho1 => exact am (zQ rfl rfl) (am (zQ rfl rfl) (ar trivial))
 intro J w1 l hM hl
 have H1 : Hid (Mm w1 ([(J 0, G2 tn (e0 u) (e1 u) (e0 b) (e1 b)), (J 1, pc2 x0 x1 y0 y1 false)] ++ _) ∧ _) := wB H0 hM hl [0, 1]
 have o1_0 := vB H0 hM hl 0
 have o1_1 := vB H0 hM hl 1
 clear hM hl l
 generalize J 0 = J1_0 at H1 o1_0 ⊢
 generalize J 1 = J1_1 at H1 o1_1 ⊢
 clear J
 refine rN (wp_seq (wp_seq ?_))
 refine zD 2 [.q (PT J1_1 24), .q (.bool false)] H1 ?ho2 ?he2
 case ho2 => exact ag (bC 1 Ai4 trivial)
 intro _ w2 H2
 clear H1
 refine rN (wp_cond_false rfl ?_)
 refine wp_skip (zA (wp_seq ?_))
 refine zS 46 [.q (PT J1_0 0), .q (PT J1_0 4), .q (.func (.func 81) #[] #[]), .q (PT J1_1 0), .q (V [x0, x1]), .call (.bool true), .q (.bool true), .q (PT J1_0 0), .q (PT J1_0 4), .q (.func (.func 81) #[] #[]), .q (PT J1_1 12), .q (V [y0, y1]), .call (.bool false), .q (.bool false), .q (.bool false), .gone, .gone, .gone, .gone, .gone, .gone, .gone, .gone, .gone, .gone, .gone, .gone, .gone, .gone, .gone, .gone, .gone, .gone, .gone, .gone, .gone, .gone, .gone, .gone, .gone, .gone, .gone, .gone, .gone, .q (.bool false), .q (.bool false)] H2 ?ho3 ?he3 (hL := ?hL3)
 case hL3 => exact trivial
 case ho3 => exact ag (ag (bC 0 Ai88 (ag (bT 1 Ai33 As33 (ac (fun w' h => ⟨81, #[V [x0, x1]], zM rfl call81 rfl (mpn rfl) rfl, CX.out w' (h.one 2 rfl)⟩) (ar (ag (ag (bC 0 Ai88 (ag (bT 1 Ai33 As33 (ac (fun w' h => ⟨81, #[V [y0, y1]], zM rfl call81 rfl (mpn rfl) rfl, CY.out w' (h.one 2 rfl)⟩) (ag (ar (ak (fun J => rfl) (ak (fun J => rfl) (ak (fun J => rfl) (ak (fun J => rfl) (ak (fun J => rfl) (ak (fun J => rfl) (ak (fun J => rfl) (ak (fun J => rfl) (ak (fun J => rfl) (ak (fun J => rfl) (ak (fun J => rfl) (ak (fun J => rfl) (ak (fun J => rfl) (ak (fun J => rfl) (ak (fun J => rfl) (ak (fun J => rfl) (ak (fun J => rfl) (ak (fun J => rfl) (ak (fun J => rfl) (ak (fun J => rfl) (ak (fun J => rfl) (ak (fun J => rfl) (ak (fun J => rfl) (ak (fun J => rfl) (ak (fun J => rfl) (ak (fun J => rfl) (ak (fun J => rfl) (ak (fun J => rfl) (ak (fun J => rfl) (ag (ar trivial)))))))))))))))))))))))))))))))))))))))))))))
 intro _ w3 H3
 clear H2
 refine rN (wp_ret ?_)
 repeat (first | refine zJ ?_ | refine zI ?_)
 refine bodyPost_ret (v := .bool false) (by simp [results, Tryz.results57, go_sem, *]) rfl ?_
 exact ⟨rfl, H3.out.2⟩
set_option maxHeartbeats 4000000 in
theorem checkB_2 {α : Type} {e0 e1 : α → Nat} {fa fs fm : α → α → α} {fi : α → α} {z u b : α} {tn : Value} (C : Fd2 e0 e1 fa fs fm fi z) (x y : α) (be : Bool) (cx : ∀ w, Mm w [(2, dtab)] → Calls Tryz.prog 81 #[V [e0 x, e1 x]] w (Rt w (.bool true))) (cy : ∀ w, Mm w [(2, dtab)] → Calls Tryz.prog 81 #[V [e0 y, e1 y]] w (Rt w (.bool true))) (he : ∀ w, (Op.equalIn 10000 33 (V [e0 (fm y y), e1 (fm y y)]) (V [e0 (fa (fm x (fm x x)) b), e1 (fa (fm x (fm x x)) b)])).run Tryz.prog w = .ok be w) (w : World) (hm : Mm w [(2, dtab)]) :
  Calls Tryz.prog 57 #[.agg (G2 tn (e0 u) (e1 u) (e0 b) (e1 b)).toArray, .agg (pc2 (e0 x) (e1 x) (e0 y) (e1 y) false).toArray] w (Rt w (.bool be)) := by
 have H0 : Hid (_ ∧ _) := ⟨hm, Below.refl w.heap.size w⟩
 clear hm
 have CX : Hid _ := cx
 clear cx
 have CY : Hid _ := cy
 clear cy
 have HE : Hid _ := he
 clear he
 go_enter Tryz.func57, Tryz.ntmps57
 refine wp_seq ?_
 refine zC 3 [.made (G2 tn (e0 u) (e1 u) (e0 b) (e1 b)) 93, .made (pc2 (e0 x) (e1 x) (e0 y) (e1 y) false) 96, .q (.bool false)] (sB H0) ?ho1 ?he1
 case ho1 => exact am (zQ rfl rfl) (am (zQ rfl rfl) (ar trivial))
 intro J w1 l hM hl
 have H1 : Hid (Mm w1 ([(J 0, G2 tn (e0 u) (e1 u) (e0 b) (e1 b)), (J 1, pc2 (e0 x) (e1 x) (e0 y) (e1 y) false)] ++ _) ∧ _) := wB H0 hM hl [0, 1]
 have o1_0 := vB H0 hM hl 0
 have o1_1 := vB H0 hM hl 1
 clear hM hl l
 generalize J 0 = J1_0 at H1 o1_0 ⊢
 generalize J 1 = J1_1 at H1 o1_1 ⊢
 clear J
 refine rN (wp_seq (wp_seq ?_))
 refine zD 2 [.q (PT J1_1 24), .q (.bool false)] H1 ?ho2 ?he2
 case ho2 => exact ag (bC 1 Ai4 trivial)
 intro _ w2 H2
 clear H1
 refine rN (wp_cond_false rfl ?_)
 refine wp_skip (zA (wp_seq ?_))
 refine zS 46 [.q (PT J1_0 0), .q (PT J1_0 4), .q (.func (.func 81) #[] #[]), .q (PT J1_1 0), .q (V [e0 x, e1 x]), .call (.bool true), .q (.bool true), .q (PT J1_0 0), .q (PT J1_0 4), .q (.func (.func 81) #[] #[]), .q (PT J1_1 12), .q (V [e0 y, e1 y]), .call (.bool true), .q (.bool true), .q (.bool true), .q (PT J1_0 0), .q (PT J1_0 2), .q (.func (.func 79) #[] #[]), .q (PT J1_1 12), .q (V [e0 y, e1 y]), .q (PT J1_1 12), .q (V [e0 y, e1 y]), .call (V [e0 (fm y y), e1 (fm y y)]), .q (PT J1_0 0), .q (PT J1_0 0), .q (.func (.func 77) #[] #[]), .q (PT J1_0 0), .q (PT J1_0 2), .q (.func (.func 79) #[] #[]), .q (PT J1_1 0), .q (V [e0 x, e1 x]), .q (PT J1_0 0), .q (PT J1_0 2), .q (.func (.func 79) #[] #[]), .q (PT J1_1 0), .q (V [e0 x, e1 x]), .q (PT J1_1 0), .q (V [e0 x, e1 x]), .call (V [e0 (fm x x), e1 (fm x x)]), .call (V [e0 (fm x (fm x x)), e1 (fm x (fm x x))]), .q (PT J1_0 17), .q (V [e0 b, e1 b]), .call (V [e0 (fa (fm x (fm x x)) b), e1 (fa (fm x (fm x x)) b)]), .q (.bool be), .q (.bool be), .q (.bool be)] H2 ?ho3 ?he3 (hL := ?hL3)
 case hL3 => exact trivial
 case ho3 => exact ag (ag (bC 0 Ai88 (ag (bT 1 Ai33 As33 (ac (fun w' h => ⟨81, #[V [e0 x, e1 x]], zM rfl call81 rfl (mpn rfl) rfl, CX.out w' (h.one 2 rfl)⟩) (ar (ag (ag (bC 0 Ai88 (ag (bT 1 Ai33 As33 (ac (fun w' h => ⟨81, #[V [e0 y, e1 y]], zM rfl call81 rfl (mpn rfl) rfl, CY.out w' (h.one 2 rfl)⟩) (ag (ar (ag (ag (bC 0 Ai86 (ag (bT 1 Ai33 As33 (ag (bT 1 Ai33 As33 (ac (fun w' h => ⟨79, #[V [e0 y, e1 y], V [e0 y, e1 y]], zM rfl call79 rfl (mpn rfl) rfl, C.cm _ _ w' (h.one 2 rfl)⟩) (ag (ag (bC 0 Ai86 (ag (ag (bC 0 Ai86 (ag (bT 1 Ai33 As33 (ag (ag (bC 0 Ai86 (ag (bT 1 Ai33 As33 (ag (bT 1 Ai33 As33 (ac (fun w' h => ⟨79, #[V [e0 x, e1 x], V [e0 x, e1 x]], zM rfl call79 rfl (mpn rfl) rfl, C.cm _ _ w' (h.one 2 rfl)⟩) (ac (fun w' h => ⟨79, #[V [e0 x, e1 x], V [e0 (fm x x), e1 (fm x x)]], zM rfl call79 rfl (mpn rfl) rfl, C.cm _ _ w' (h.one 2 rfl)⟩) (ag (bT 0 Ai33 As33 (ac (fun w' h => ⟨77, #[V [e0 (fm x (fm x x)), e1 (fm x (fm x x))], V [e0 b, e1 b]], zM rfl call77 rfl (mpn rfl) rfl, C.ca _ _ w' (h.one 2 rfl)⟩) (ak (fun J => ⟨rfl, fun w' _ => exec_eqT33 HE.out rfl rfl rfl⟩) (ag (ar trivial)))))))))))))))))))))))))))))))))))))))))))))
 intro _ w3 H3
 clear H2
 refine rN (wp_ret ?_)
 repeat (first | refine zJ ?_ | refine zI ?_)
 refine bodyPost_ret (v := .bool be) (by simp [results, Tryz.results57, go_sem, *]) rfl ?_
 exact ⟨rfl, H3.out.2⟩
theorem negN_2 {α : Type} {e0 e1 : α → Nat} {fa fs fm : α → α → α} {fi : α → α} {z u b : α} {tn : Value} (_C : Fd2 e0 e1 fa fs fm fi z) (x0 x1 y0 y1 : Nat) (zb : Bool) (ck : ∀ w, Mm w [(2, dtab)] → Calls Tryz.prog 57 #[.agg (G2 tn (e0 u) (e1 u) (e0 b) (e1 b)).toArray, .agg (pc2 x0 x1 y0 y1 zb).toArray] w (Rt w (.bool false))) (w : World) (hm : Mm w [(2, dtab)]) :
  Calls Tryz.prog 56 #[.agg (G2 tn (e0 u) (e1 u) (e0 b) (e1 b)).toArray, .agg (pc2 x0 x1 y0 y1 zb).toArray] w (Rt w (.tuple #[.agg (pc2 0 0 0 0 false).toArray, .int .i64 5])) := by
 have H0 : Hid (_ ∧ _) := ⟨hm, Below.refl w.heap.size w⟩
 clear hm
 have CK : Hid _ := ck
 clear ck
 go_enter Tryz.func56, Tryz.ntmps56
 refine wp_seq ?_
 refine zC 4 [.made (G2 tn (e0 u) (e1 u) (e0 b) (e1 b)) 93, .made (pc2 x0 x1 y0 y1 zb) 96, .made (pc2 0 0 0 0 false) 96, .q (.int .i64 0)] (sB H0) ?ho1 ?he1
 case ho1 => exact am (zQ rfl rfl) (am (zQ rfl rfl) (am (ex_madePE rfl) (ar trivial)))
 intro J w1 l hM hl
 have H1 : Hid (Mm w1 ([(J 0, G2 tn (e0 u) (e1 u) (e0 b) (e1 b)), (J 1, pc2 x0 x1 y0 y1 zb), (J 2, pc2 0 0 0 0 false)] ++ _) ∧ _) := wB H0 hM hl [0, 1, 2]
 have o1_0 := vB H0 hM hl 0
 have o1_1 := vB H0 hM hl 1
 have o1_2 := vB H0 hM hl 2
 clear hM hl l
 generalize J 0 = J1_0 at H1 o1_0 ⊢
 generalize J 1 = J1_1 at H1 o1_1 ⊢
 generalize J 2 = J1_2 at H1 o1_2 ⊢
 clear J
 refine rN (wp_seq (wp_seq ?_))
 refine zD 4 [.q (.agg (G2 tn (e0 u) (e1 u) (e0 b) (e1 b)).toArray), .q (.agg (pc2 x0 x1 y0 y1 zb).toArray), .call (.bool false), .q (.bool true)] H1 ?ho2 ?he2
 case ho2 => exact bT 0 Ai93 As93 (bT 1 Ai96 As96 (ac (fun w' h => eC call57 (CK.out w' (h.one 3 rfl))) (ag trivial)))
 intro _ w2 H2
 clear H1
 refine rN (wp_cond_true rfl (wp_seq ?_))
 refine zD 1 [.q (.agg (pc2 0 0 0 0 false).toArray)] H2 ?ho3 ?he3
 case ho3 => exact ak (fun J => ⟨rfl, fun w' _ => ex_buildPEz rfl⟩) trivial
 intro _ w3 H3
 clear H2
 refine zH (l := [1, 2]) rfl ?_
 refine sG rfl (fun h => ex_storeT (vs := pc2 0 0 0 0 false) h 2 rfl rfl rfl rfl As96 rfl (Nat.le_of_ble_eq_true rfl)) 2 [_, _, (_, pc2 0 0 0 0 false), _] H3 o1_2 fun w4 H4 => ?_
 clear H3
 refine zF (d := 5) rfl rfl rfl rfl ?_
 simp only [Act.put, sa, sz, ss]
 refine zE (zA (wp_ret ?_))
 repeat (first | refine zJ ?_ | refine zI ?_)
 have hf0 := var_T H4.out.1 2 rfl Ai96 As96 rfl
 refine bodyPost_ret (v := .tuple #[.agg (pc2 0 0 0 0 false).toArray, .int .i64 5]) (by simp [results, Tryz.results56, asAddr, Act.eval, hf0]) rfl ?_
 exact ⟨rfl, H4.out.2⟩
theorem negY_2 {α : Type} {e0 e1 : α → Nat} {fa fs fm : α → α → α} {fi : α → α} {z u b : α} {tn : Value} (C : Fd2 e0 e1 fa fs fm fi z) (x0 x1 : Nat) (y : α) (zb : Bool) (ck : ∀ w, Mm w [(2, dtab)] → Calls Tryz.prog 57 #[.agg (G2 tn (e0 u) (e1 u) (e0 b) (e1 b)).toArray, .agg (pc2 x0 x1 (e0 y) (e1 y) zb).toArray] w (Rt w (.bool true))) (w : World) (hm : Mm w [(2, dtab)]) :
  Calls Tryz.prog 56 #[.agg (G2 tn (e0 u) (e1 u) (e0 b) (e1 b)).toArray, .agg (pc2 x0 x1 (e0 y) (e1 y) zb).toArray] w (Rt w (.tuple #[.agg (pc2 x0 x1 (e0 (fs z y)) (e1 (fs z y)) zb).toArray, .int .i64 0])) := by
 have H0 : Hid (_ ∧ _) := ⟨hm, Below.refl w.heap.size w⟩
 clear hm
 have CK : Hid _ := ck
 clear ck
 go_enter Tryz.func56, Tryz.ntmps56
 refine wp_seq ?_
 refine zC 4 [.made (G2 tn (e0 u) (e1 u) (e0 b) (e1 b)) 93, .made (pc2 x0 x1 (e0 y) (e1 y) zb) 96, .made (pc2 0 0 0 0 false) 96, .q (.int .i64 0)] (sB H0) ?ho1 ?he1
 case ho1 => exact am (zQ rfl rfl) (am (zQ rfl rfl) (am (ex_madePE rfl) (ar trivial)))
 intro J w1 l hM hl
 have H1 : Hid (Mm w1 ([(J 0, G2 tn (e0 u) (e1 u) (e0 b) (e1 b)), (J 1, pc2 x0 x1 (e0 y) (e1 y) zb), (J 2, pc2 0 0 0 0 false)] ++ _) ∧ _) := wB H0 hM hl [0, 1, 2]
 have o1_0 := vB H0 hM hl 0
 have o1_1 := vB H0 hM hl 1
 have o1_2 := vB H0 hM hl 2
 clear hM hl l
 generalize J 0 = J1_0 at H1 o1_0 ⊢
 generalize J 1 = J1_1 at H1 o1_1 ⊢
 generalize J 2 = J1_2 at H1 o1_2 ⊢
 clear J
 refine rN (wp_seq (wp_seq ?_))
 refine zD 4 [.q (.agg (G2 tn (e0 u) (e1 u) (e0 b) (e1 b)).toArray), .q (.agg (pc2 x0 x1 (e0 y) (e1 y) zb).toArray), .call (.bool true), .q (.bool false)] H1 ?ho2 ?he2
 case ho2 => exact bT 0 Ai93 As93 (bT 1 Ai96 As96 (ac (fun w' h => eC call57 (CK.out w' (h.one 3 rfl))) (ag trivial)))
 intro _ w2 H2
 clear H1
 refine rN (wp_cond_false rfl ?_)
 refine wp_skip (zA (wp_seq ?_))
 refine zD 5 [.q (.agg (G2 tn (e0 u) (e1 u) (e0 b) (e1 b)).toArray), .q (PT J1_1 12), .q (V [e0 y, e1 y]), .call (V [e0 (fs z y), e1 (fs z y)]), .q (PT J1_1 12)] H2 ?ho3 ?he3
 case ho3 => exact bT 0 Ai93 As93 (ag (bT 1 Ai33 As33 (ac (fun w' h => eC call86 (minus_2 C _ w' (h.one 3 rfl))) (ag trivial))))
 intro _ w3 H3
 clear H2
 refine zH (l := [5]) rfl ?_
 refine sG rfl (fun h => ex_storeT (vs := cel [e0 (fs z y), e1 (fs z y)]) h 1 rfl rfl rfl rfl As33 rfl (Nat.le_of_ble_eq_true rfl)) 1 [_, (_, pc2 x0 x1 (e0 (fs z y)) (e1 (fs z y)) zb), _, _] H3 o1_1 fun w4 H4 => ?_
 clear H3
 refine zE (zA (wp_seq ?_))
 refine zD 1 [.q (.agg (pc2 x0 x1 (e0 (fs z y)) (e1 (fs z y)) zb).toArray)] H4 ?ho4 ?he4
 case ho4 => exact bT 1 Ai96 As96 trivial
 intro _ w5 H5
 clear H4
 refine zH (l := [1, 2]) rfl ?_
 refine sG rfl (fun h => ex_storeT (vs := pc2 x0 x1 (e0 (fs z y)) (e1 (fs z y)) zb) h 2 rfl rfl rfl rfl As96 rfl (Nat.le_of_ble_eq_true rfl)) 2 [_, _, (_, pc2 x0 x1 (e0 (fs z y)) (e1 (fs z y)) zb), _] H5 o1_2 fun w6 H6 => ?_
 clear H5
 refine zF (d := 5) rfl rfl rfl rfl ?_
 simp only [Act.put, sa, sz, ss]
 refine zE (zA (wp_ret ?_))
 repeat (first | refine zJ ?_ | refine zI ?_)
 have hf0 := var_T H6.out.1 2 rfl Ai96 As96 rfl
 refine bodyPost_ret (v := .tuple #[.agg (pc2 x0 x1 (e0 (fs z y)) (e1 (fs z y)) zb).toArray, .int .i64 0]) (by simp [results, Tryz.results56, asAddr, Act.eval, hf0]) rfl ?_
 exact ⟨rfl, H6.out.2⟩
end Rg
end Go.Proofs.YtmanelnacifgcaaGreatDoor
end
section
namespace Go.Proofs.YtmanelnacifgcaaGreatDoor
namespace EC
/-- A commutative ring, by its operations. -/
structure Rng (α : Type) where
 add : α → α → α
 mul : α → α → α
 zero : α
 one : α
 neg : α → α
 add_comm : ∀ a b, add a b = add b a
 add_assoc : ∀ a b c, add (add a b) c = add a (add b c)
 zero_add : ∀ a, add zero a = a
 neg_add : ∀ a, add (neg a) a = zero
 mul_comm : ∀ a b, mul a b = mul b a
 mul_assoc : ∀ a b c, mul (mul a b) c = mul a (mul b c)
 one_mul : ∀ a, mul one a = a
 mul_add : ∀ a b c, mul a (add b c) = add (mul a b) (mul a c)
section
variable {α : Type} (R : Rng α)
theorem Rng.add_zero (a : α) : R.add a R.zero = a := by rw [R.add_comm, R.zero_add]
theorem Rng.add_neg (a : α) : R.add a (R.neg a) = R.zero := by rw [R.add_comm, R.neg_add]
theorem Rng.left_comm (a b c : α) : R.add a (R.add b c) = R.add b (R.add a c) := by rw [← R.add_assoc, R.add_comm a b, R.add_assoc]
theorem Rng.cancel {a b c : α} (h : R.add a b = R.add a c) : b = c := by
 have h2 := congrArg (R.add (R.neg a)) h
 rw [← R.add_assoc, ← R.add_assoc, R.neg_add, R.zero_add, R.zero_add] at h2
 exact h2
theorem Rng.mul_zero (a : α) : R.mul a R.zero = R.zero := by
 refine R.cancel (a := R.mul a R.zero) ?_
 rw [← R.mul_add, R.zero_add, R.add_zero]
theorem Rng.zero_mul (a : α) : R.mul R.zero a = R.zero := by rw [R.mul_comm, R.mul_zero]
theorem Rng.add_mul (a b c : α) : R.mul (R.add a b) c = R.add (R.mul a c) (R.mul b c) := by
 rw [R.mul_comm, R.mul_add, R.mul_comm c, R.mul_comm c]
theorem Rng.neg_eq {a b : α} (h : R.add a b = R.zero) : b = R.neg a := by
 refine R.cancel (a := a) ?_
 rw [h, R.add_neg]
theorem Rng.mul_neg (a b : α) : R.mul a (R.neg b) = R.neg (R.mul a b) := by
 refine R.neg_eq ?_
 rw [← R.mul_add, R.add_neg, R.mul_zero]
theorem Rng.neg_zero : R.neg R.zero = R.zero := by
 have h := R.add_neg R.zero
 rw [R.zero_add] at h
 exact h
theorem Rng.neg_add_rev (a b : α) : R.neg (R.add a b) = R.add (R.neg a) (R.neg b) := by
 symm
 refine R.neg_eq ?_
 rw [R.add_assoc, R.left_comm b, ← R.add_assoc, R.add_neg, R.zero_add, R.add_neg]
theorem Rng.four (a b c d : α) : R.add (R.add a b) (R.add c d) = R.add (R.add a c) (R.add b d) := by
 rw [R.add_assoc, R.left_comm b, ← R.add_assoc]
theorem Rng.mul_left_comm (a b c : α) : R.mul a (R.mul b c) = R.mul b (R.mul a c) := by rw [← R.mul_assoc, R.mul_comm a b, R.mul_assoc]
end
/-- What is calculated with. -/
structure Ops (β : Type _) where
 add : β → β → β
 mul : β → β → β
 zero : β
 neg : β → β
 isz : β → Bool
structure Sound {α β : Type} (R : Rng α) (O : Ops β) (ev : β → α) : Prop where
 add : ∀ a b, ev (O.add a b) = R.add (ev a) (ev b)
 mul : ∀ a b, ev (O.mul a b) = R.mul (ev a) (ev b)
 zero : ev O.zero = R.zero
 neg : ∀ a, ev (O.neg a) = R.neg (ev a)
 isz : ∀ a, O.isz a = true → ev a = R.zero
/-! Lists of coefficients: the lowest first. -/
section
variable {α β : Type} (R : Rng α) (O : Ops β)
def ladd : List β → List β → List β
 | [], q => q
 | a :: p, [] => a :: p
 | a :: p, b :: q => O.add a b :: ladd p q
def lsc (c : β) (q : List β) : List β := q.map (O.mul c)
def lmul : List β → List β → List β
 | [], _ => []
 | a :: p, q => if O.isz a then O.zero :: lmul p q else ladd O (lsc O a q) (O.zero :: lmul p q)
def lops : Ops (List β) where
 add := ladd O
 mul := lmul O
 zero := []
 neg := fun p => p.map O.neg
 isz := fun p => p.all O.isz
def lev (ev : β → α) (x : α) : List β → α
 | [] => R.zero
 | a :: p => R.add (ev a) (R.mul x (lev ev x p))
variable {R O} {ev : β → α}
theorem lev_add (S : Sound R O ev) (x : α) : ∀ p q, lev R ev x (ladd O p q) = R.add (lev R ev x p) (lev R ev x q)
 | [], q => (R.zero_add _).symm
 | a :: p, [] => (R.add_zero _).symm
 | a :: p, b :: q => by
  show R.add (ev (O.add a b)) (R.mul x (lev R ev x (ladd O p q))) = R.add (R.add (ev a) (R.mul x (lev R ev x p))) (R.add (ev b) (R.mul x (lev R ev x q)))
  rw [lev_add S x p q, S.add, R.mul_add, R.four]
theorem lev_sc (S : Sound R O ev) (x : α) (c : β) : ∀ q, lev R ev x (lsc O c q) = R.mul (ev c) (lev R ev x q)
 | [] => (R.mul_zero _).symm
 | b :: q => by
  show R.add (ev (O.mul c b)) (R.mul x (lev R ev x (lsc O c q))) = R.mul (ev c) (R.add (ev b) (R.mul x (lev R ev x q)))
  rw [lev_sc S x c q, S.mul, R.mul_add, R.mul_left_comm x]
theorem lev_mul (S : Sound R O ev) (x : α) : ∀ p q, lev R ev x (lmul O p q) = R.mul (lev R ev x p) (lev R ev x q)
 | [], q => (R.zero_mul _).symm
 | a :: p, q => by
  have hz : lev R ev x (O.zero :: lmul O p q) = R.mul x (R.mul (lev R ev x p) (lev R ev x q)) := by
   show R.add (ev O.zero) (R.mul x (lev R ev x (lmul O p q))) = _
   rw [S.zero, R.zero_add, lev_mul S x p q]
  have hg : R.mul (lev R ev x (a :: p)) (lev R ev x q) = R.add (R.mul (ev a) (lev R ev x q)) (R.mul x (R.mul (lev R ev x p) (lev R ev x q))) := by
   show R.mul (R.add (ev a) (R.mul x (lev R ev x p))) (lev R ev x q) = _
   rw [R.add_mul, R.mul_assoc]
  rw [hg]
  unfold lmul
  split
  ·next h =>
   rw [S.isz a h, R.zero_mul, R.zero_add, hz]
  ·rw [lev_add S x, lev_sc S x, hz]
theorem lops_sound (S : Sound R O ev) (x : α) : Sound R (lops O) (lev R ev x) where
 add := lev_add S x
 mul := lev_mul S x
 zero := rfl
 neg := fun p => by
  show lev R ev x (p.map O.neg) = _
  induction p with
  | nil => exact R.neg_zero.symm
  | cons a p ih =>
   show R.add (ev (O.neg a)) (R.mul x (lev R ev x (p.map O.neg))) = R.neg (R.add (ev a) (R.mul x (lev R ev x p)))
   rw [ih, S.neg, R.mul_neg, R.neg_add_rev]
 isz := fun p h => by
  have h' : p.all O.isz = true := h
  clear h
  induction p with
  | nil => rfl
  | cons a p ih =>
   simp only [List.all_cons, Bool.and_eq_true] at h'
   show R.add (ev a) (R.mul x (lev R ev x p)) = R.zero
   rw [S.isz a h'.1, ih h'.2, R.mul_zero, R.zero_add]
end
/-! Roots: u + v y, y y being d. -/
section
variable {α β : Type} (R : Rng α) (O : Ops β)
def xops (d : β) : Ops (β × β) where
 add := fun a b => (O.add a.1 b.1, O.add a.2 b.2)
 mul := fun a b => (O.add (O.mul a.1 b.1) (O.mul d (O.mul a.2 b.2)), O.add (O.mul a.1 b.2) (O.mul a.2 b.1))
 zero := (O.zero, O.zero)
 neg := fun a => (O.neg a.1, O.neg a.2)
 isz := fun a => O.isz a.1 && O.isz a.2
def xev (ev : β → α) (y : α) (a : β × β) : α := R.add (ev a.1) (R.mul y (ev a.2))
theorem xops_sound {R} {O} {ev : β → α} (S : Sound R O ev) {d : β} {y : α} (hy : R.mul y y = ev d) : Sound R (xops O d) (xev R ev y) where
 add := fun a b => by
  show R.add (ev (O.add a.1 b.1)) (R.mul y (ev (O.add a.2 b.2))) = R.add (R.add (ev a.1) (R.mul y (ev a.2))) (R.add (ev b.1) (R.mul y (ev b.2)))
  rw [S.add, S.add, R.mul_add, R.four]
 mul := fun a b => by
  show R.add (ev (O.add (O.mul a.1 b.1) (O.mul d (O.mul a.2 b.2)))) (R.mul y (ev (O.add (O.mul a.1 b.2) (O.mul a.2 b.1)))) = R.mul (R.add (ev a.1) (R.mul y (ev a.2))) (R.add (ev b.1) (R.mul y (ev b.2)))
  rw [S.add, S.add, S.mul, S.mul, S.mul, S.mul, S.mul, ← hy]
  rw [R.add_mul, R.mul_add, R.mul_add, R.mul_add]
  have e1 : R.mul (R.mul y (ev a.2)) (R.mul y (ev b.2)) = R.mul (R.mul y y) (R.mul (ev a.2) (ev b.2)) := by
   rw [R.mul_assoc, R.mul_assoc, R.mul_left_comm (ev a.2)]
  have e2 : R.mul (R.mul y (ev a.2)) (ev b.1) = R.mul y (R.mul (ev a.2) (ev b.1)) := R.mul_assoc _ _ _
  have e3 : R.mul (ev a.1) (R.mul y (ev b.2)) = R.mul y (R.mul (ev a.1) (ev b.2)) := R.mul_left_comm _ _ _
  rw [e1, e2, e3]
  rw [R.add_comm (R.mul y (R.mul (ev a.2) (ev b.1))), R.four]
 zero := by
  show R.add (ev O.zero) (R.mul y (ev O.zero)) = R.zero
  rw [S.zero, R.mul_zero, R.zero_add]
 neg := fun a => by
  show R.add (ev (O.neg a.1)) (R.mul y (ev (O.neg a.2))) = R.neg (R.add (ev a.1) (R.mul y (ev a.2)))
  rw [S.neg, S.neg, R.mul_neg, R.neg_add_rev]
 isz := fun a h => by
  have h' : (O.isz a.1 && O.isz a.2) = true := h
  simp only [Bool.and_eq_true] at h'
  show R.add (ev a.1) (R.mul y (ev a.2)) = R.zero
  rw [S.isz _ h'.1, S.isz _ h'.2, R.mul_zero, R.zero_add]
end
/-! Integers. -/
section
variable {α : Type} (R : Rng α)
def nc : Nat → α
 | 0 => R.zero
 | n + 1 => R.add R.one (nc n)
def ic : Int → α
 | .ofNat n => nc R n
 | .negSucc n => R.neg (nc R (n + 1))
theorem nc_add (m : Nat) : ∀ n, nc R (n + m) = R.add (nc R n) (nc R m)
 | 0 => by rw [Nat.zero_add]; exact (R.zero_add _).symm
 | n + 1 => by
  rw [Nat.succ_add]
  show R.add R.one (nc R (n + m)) = R.add (R.add R.one (nc R n)) (nc R m)
  rw [nc_add m n, R.add_assoc]
theorem nc_mul (m : Nat) : ∀ n, nc R (n * m) = R.mul (nc R n) (nc R m)
 | 0 => by rw [Nat.zero_mul]; exact (R.zero_mul _).symm
 | n + 1 => by
  rw [Nat.succ_mul, nc_add, nc_mul m n]
  show _ = R.mul (R.add R.one (nc R n)) (nc R m)
  rw [R.add_mul, R.one_mul, R.add_comm]
theorem ic_sub (m n : Nat) : ic R ((m : Int) - (n : Int)) = R.add (nc R m) (R.neg (nc R n)) := by
 rcases Nat.le_total n m with h | h
 ·obtain ⟨k, rfl⟩ := Nat.exists_eq_add_of_le h
  rw [show ((n + k : Nat) : Int) - (n : Int) = ((k : Nat) : Int) by omega]
  show nc R k = _
  rw [nc_add, R.add_comm (nc R n), R.add_assoc, R.add_neg, R.add_zero]
 ·obtain ⟨k, rfl⟩ := Nat.exists_eq_add_of_le h
  rw [show (m : Int) - ((m + k : Nat) : Int) = -((k : Nat) : Int) by omega]
  have e : ic R (-((k : Nat) : Int)) = R.neg (nc R k) := by
   cases k with
   | zero => exact R.neg_zero.symm
   | succ k => rfl
  rw [e, nc_add, R.neg_add_rev, ← R.add_assoc, R.add_neg, R.zero_add]
theorem int_sub (a : Int) : ∃ m n : Nat, a = (m : Int) - (n : Int) := by
 cases a with
 | ofNat n => exact ⟨n, 0, by simp⟩
 | negSucc n => exact ⟨0, n + 1, by omega⟩
theorem Rng.neg_neg (a : α) : R.neg (R.neg a) = a := (R.neg_eq (R.neg_add a)).symm
theorem ic_add (a b : Int) : ic R (a + b) = R.add (ic R a) (ic R b) := by
 obtain ⟨m, n, rfl⟩ := int_sub a
 obtain ⟨k, l, rfl⟩ := int_sub b
 rw [show (m : Int) - (n : Int) + ((k : Int) - (l : Int)) = ((m + k : Nat) : Int) - ((n + l : Nat) : Int) by omega, ic_sub, ic_sub, ic_sub, nc_add, nc_add, R.neg_add_rev, R.four]
theorem ic_neg (a : Int) : ic R (-a) = R.neg (ic R a) := by
 obtain ⟨m, n, rfl⟩ := int_sub a
 rw [show -((m : Int) - (n : Int)) = (n : Int) - (m : Int) by omega, ic_sub, ic_sub, R.neg_add_rev, R.neg_neg, R.add_comm]
theorem ic_mul (a b : Int) : ic R (a * b) = R.mul (ic R a) (ic R b) := by
 obtain ⟨m, n, rfl⟩ := int_sub a
 obtain ⟨k, l, rfl⟩ := int_sub b
 have e : ((m : Int) - (n : Int)) * ((k : Int) - (l : Int)) = ((m * k + n * l : Nat) : Int) - ((m * l + n * k : Nat) : Int) := by
  rw [Int.natCast_add, Int.natCast_add, Int.natCast_mul, Int.natCast_mul, Int.natCast_mul, Int.natCast_mul]
  grind
 have nm : ∀ x y, R.mul (R.neg x) y = R.neg (R.mul x y) := fun x y => by rw [R.mul_comm, R.mul_neg, R.mul_comm]
 rw [e, ic_sub, ic_sub, ic_sub, nc_add, nc_add, nc_mul, nc_mul, nc_mul, nc_mul, R.add_mul, R.mul_add, R.mul_add, R.mul_neg, nm, nm, R.mul_neg, R.neg_neg, R.neg_add_rev]
 rw [R.four, R.add_comm (R.mul (nc R n) (nc R l))]
def iops : Ops Int where
 add := Int.add
 mul := Int.mul
 zero := 0
 neg := Int.neg
 isz := fun a => a == 0
theorem iops_sound : Sound R iops (ic R) where
 add := ic_add R
 mul := ic_mul R
 zero := rfl
 neg := ic_neg R
 isz := fun a h => by
  have : a = 0 := by simpa [iops] using h
  rw [this]
  rfl
end
/-! The curve's sum by three numbers. -/
section
variable {β : Type _} (O : Ops β)
abbrev Tri (β : Type _) := β × β × β
def osub (a b : β) : β := O.add a (O.neg b)
def o3 (a : β) : β := O.add (O.add a a) a
def tog (b : β) (p q : Tri β) : Tri β :=
 let xx := O.mul p.1 q.1
 let yy := O.mul p.2.1 q.2.1
 let zz := O.mul p.2.2 q.2.2
 let xy := O.add (O.mul p.1 q.2.1) (O.mul p.2.1 q.1)
 let yz := O.add (O.mul p.2.1 q.2.2) (O.mul p.2.2 q.2.1)
 let xz := O.add (O.mul p.1 q.2.2) (O.mul p.2.2 q.1)
 let xx3 := o3 O xx
 let xz3 := o3 O (O.mul b xz)
 let zz3 := o3 O (O.mul b zz)
 let less := osub O yy zz3
 let more := O.add yy zz3
 (osub O (O.mul less xy) (O.mul yz xz3), O.add (O.mul less more) (O.mul xx3 xz3), O.add (O.mul more yz) (O.mul xx3 xy))
end
abbrev P1 := List Int
abbrev P2 := List P1
abbrev P3 := List P2
abbrev P4 := List P3
def o1 := lops iops
def o2 := lops o1
def o3_ := lops o2
def o4 := lops o3_
/-- b; the three x; what their y y are. -/
def cb : P4 := [[[[0, 1]]]]
def cx1 : P4 := [[[[], [1]]]]
def cx2 : P4 := [[[], [[1]]]]
def cx3 : P4 := [[], [[[1]]]]
def c1 : P4 := [[[[1]]]]
def cd (x : P4) : P4 := o4.add (o4.mul x (o4.mul x x)) cb
def e1 := xops o4 (cd cx1)
def e2 := xops e1 (cd cx2, [])
def e3 := xops e2 ((cd cx3, []), ([], []))
abbrev El := ((P4 × P4) × (P4 × P4)) × ((P4 × P4) × (P4 × P4))
def up (p : P4) : El := (((p, []), ([], [])), (([], []), ([], [])))
def y1_ : El := ((([], c1), ([], [])), (([], []), ([], [])))
def y2_ : El := ((([], []), (c1, [])), (([], []), ([], [])))
def y3_ : El := ((([], []), ([], [])), ((c1, []), ([], [])))
def A : Tri El := (up cx1, y1_, up c1)
def B : Tri El := (up cx2, y2_, up c1)
def C : Tri El := (up cx3, y3_, up c1)
def l1 : El := ((([], [[[[], [0, 0, 0, 0, -32], [], [], [0, 0, 0, 4]], [[0, 0, 0, 0, -96], [], [], [0, 0, 0, 48]], [[], [], [0, 0, 0, 144]], [[], [0, 0, 0, 128], [], [], [0, 0, 2]], [[0, 0, 0, 12], [], [], [0, 0, -6]], [[], [], [0, 0, -18]], [[], [0, 0, -2], [], [], [0, -2]]], [[[0, 0, 0, 0, 192], [], [], [0, 0, 0, -24]], [[], [], [0, 0, 0, -216]], [[], [0, 0, 0, -72], [], [], [0, 0, -18]], [[0, 0, 0, 24], [], [], [0, 0, -192]], [[], [], [0, 0, -216]], [[], [0, 0, -72], [], [], [0, -18]], [[0, 0, -6], [], [], [0, -6]]], [], [[[], [0, 0, 0, 16], [], [], [0, 0, -2]], [[0, 0, 0, 48], [], [], [0, 0, -24]], [[], [], [0, 0, -72]], [[], [0, 0, -64], [], [], [0, -1]], [[0, 0, -6], [], [], [0, 3]], [[], [], [0, 9]], [[], [0, 1], [], [], [1]]]]), ([[[[], [0, 0, 0, 0, -96], [], [], [0, 0, 0, 12]], [[0, 0, 0, 0, -32], [], [], [0, 0, 0, 128], [], [], [0, 0, -2]], [[], [], [0, 0, 0, 144], [], [], [0, 0, -18]], [[], [0, 0, 0, 48], [], [], [0, 0, -6]], [[0, 0, 0, 4], [], [], [0, 0, 2], [], [], [0, -2]]], [[[0, 0, 0, 0, 192], [], [], [0, 0, 0, 24], [], [], [0, 0, -6]], [[], [], [0, 0, 0, -72], [], [], [0, 0, -72]], [[], [0, 0, 0, -216], [], [], [0, 0, -216]], [[0, 0, 0, -24], [], [], [0, 0, -192], [], [], [0, -6]], [[], [], [0, 0, -18], [], [], [0, -18]]], [], [[[], [0, 0, 0, 48], [], [], [0, 0, -6]], [[0, 0, 0, 16], [], [], [0, 0, -64], [], [], [0, 1]], [[], [], [0, 0, -72], [], [], [0, 9]], [[], [0, 0, -24], [], [], [0, 3]], [[0, 0, -2], [], [], [0, -1], [], [], [1]]]], [])), (([[[[], [0, 0, 0, 0, 192], [], [], [0, 0, 0, 84]], [[0, 0, 0, 0, 192], [], [], [0, 0, 0, 240], [], [], [0, 0, -6]], [[], [], [0, 0, 0, 72], [], [], [0, 0, 18]], [[], [0, 0, 0, 240], [], [], [0, 0, 132]], [[0, 0, 0, 84], [], [], [0, 0, 132], [], [], [0, -6]], [[], [], [0, 0, 18], [], [], [0, -36]], [[], [0, 0, -6], [], [], [0, -6]]], [[[0, 0, 0, 0, -32], [], [], [0, 0, 0, -88], [], [], [0, 0, -2]], [[], [], [0, 0, 0, -216]], [[], [0, 0, 0, -216]], [[0, 0, 0, -88], [], [], [0, 0, 100], [], [], [0, -1]], [[], [], [], [], [], [0, -27]], [[], [], [], [], [0, -27]], [[0, 0, -2], [], [], [0, -1], [], [], [1]]]], []), ([], [[[[], [0, 0, 0, 192], [], [], [0, 0, 12]], [[0, 0, 0, 192], [], [], [0, 0, 48]], [[], [], [0, 0, 216]], [[], [0, 0, 48], [], [], [0, -24]], [[0, 0, 12], [], [], [0, -24]]], [[[0, 0, 0, -96], [], [], [0, 0, -24]], [[], [], [0, 0, -72]], [[], [0, 0, -72], [], [], [0, -18]], [[0, 0, -24], [], [], [0, -60]], [[], [], [0, -18]]]])))
def l2 : El := ((([[[[0, 0, 0, 0, 0, -224], [], [], [0, 0, 0, 0, -232], [], [], [0, 0, 0, -8]], [[], [], [0, 0, 0, 0, -360], [], [], [0, 0, 0, -36]], [[], [0, 0, 0, 0, -360], [], [], [0, 0, 0, -198]], [[0, 0, 0, 0, -232], [], [], [0, 0, 0, 4], [], [], [0, 0, -7]], [[], [], [0, 0, 0, -198], [], [], [0, 0, -117]], [[], [0, 0, 0, -36], [], [], [0, 0, -117]], [[0, 0, 0, -8], [], [], [0, 0, -7], [], [], [0, 1]]], [[[], [], [0, 0, 0, 0, 360], [], [], [0, 0, 0, 36]], [[], [0, 0, 0, 0, 432], [], [], [0, 0, 0, 108]], [[0, 0, 0, 0, 360], [], [], [0, 0, 0, 288], [], [], [0, 0, 9]], [[], [], [0, 0, 0, 288], [], [], [0, 0, -36]], [[], [0, 0, 0, 108], [], [], [0, 0, -216]], [[0, 0, 0, 36], [], [], [0, 0, -36], [], [], [0, 9]], [[], [], [0, 0, 9], [], [], [0, 9]]], [[[], [0, 0, 0, 0, -288], [], [], [0, 0, 0, -126]], [[0, 0, 0, 0, -288], [], [], [0, 0, 0, -360], [], [], [0, 0, 9]], [[], [], [0, 0, 0, -108], [], [], [0, 0, -27]], [[], [0, 0, 0, -360], [], [], [0, 0, -198]], [[0, 0, 0, -126], [], [], [0, 0, -198], [], [], [0, 9]], [[], [], [0, 0, -27], [], [], [0, 54]], [[], [0, 0, 9], [], [], [0, 9]]], [[[0, 0, 0, 0, 64], [], [], [0, 0, 0, -16], [], [], [0, 0, 1]], [[], [], [0, 0, 0, -144], [], [], [0, 0, 18]], [[], [0, 0, 0, -144], [], [], [0, 0, 99]], [[0, 0, 0, -16], [], [], [0, 0, 148], [], [], [0, 2]], [[], [], [0, 0, 99], [], [], [0, 18]], [[], [0, 0, 18], [], [], [0, 18]], [[0, 0, 1], [], [], [0, 2], [], [], [1]]]], []), ([], [[[[0, 0, 0, 0, -288], [], [], [0, 0, 0, -72]], [[], [], [0, 0, 0, -216]], [[], [0, 0, 0, -216], [], [], [0, 0, -54]], [[0, 0, 0, -72], [], [], [0, 0, -180]], [[], [], [0, 0, -54]]], [[[], [], [0, 0, 0, 216]], [[], [0, 0, 0, 720], [], [], [0, 0, -36]], [[0, 0, 0, 216], [], [], [0, 0, -108]], [[], [], [0, 0, -108]], [[], [0, 0, -36], [], [], [0, 18]]], [[[], [0, 0, 0, -288], [], [], [0, 0, -18]], [[0, 0, 0, -288], [], [], [0, 0, -72]], [[], [], [0, 0, -324]], [[], [0, 0, -72], [], [], [0, 36]], [[0, 0, -18], [], [], [0, 36]]]])), (([], []), ([], [])))
def l3 : El := ((([], [[[[0, 0, 0, 0, -128], [], [], [0, 0, 0, 16]], [[], [], [0, 0, 0, 144]], [[], [0, 0, 0, 48], [], [], [0, 0, 12]], [[0, 0, 0, -16], [], [], [0, 0, 128]], [[], [], [0, 0, 144]], [[], [0, 0, 48], [], [], [0, 12]], [[0, 0, 4], [], [], [0, 4]]], [], [[[], [0, 0, 0, 48], [], [], [0, 0, -6]], [[0, 0, 0, 144], [], [], [0, 0, -72]], [[], [], [0, 0, -216]], [[], [0, 0, -192], [], [], [0, -3]], [[0, 0, -18], [], [], [0, 9]], [[], [], [0, 27]], [[], [0, 3], [], [], [3]]], [[[0, 0, 0, -32], [], [], [0, 0, 4]], [[], [], [0, 0, 36]], [[], [0, 0, 12], [], [], [0, 3]], [[0, 0, -4], [], [], [0, 32]], [[], [], [0, 36]], [[], [0, 12], [], [], [3]], [[0, 1], [], [], [1]]]]), ([[[[0, 0, 0, 0, -128], [], [], [0, 0, 0, -16], [], [], [0, 0, 4]], [[], [], [0, 0, 0, 48], [], [], [0, 0, 48]], [[], [0, 0, 0, 144], [], [], [0, 0, 144]], [[0, 0, 0, 16], [], [], [0, 0, 128], [], [], [0, 4]], [[], [], [0, 0, 12], [], [], [0, 12]]], [], [[[], [0, 0, 0, 144], [], [], [0, 0, -18]], [[0, 0, 0, 48], [], [], [0, 0, -192], [], [], [0, 3]], [[], [], [0, 0, -216], [], [], [0, 27]], [[], [0, 0, -72], [], [], [0, 9]], [[0, 0, -6], [], [], [0, -3], [], [], [3]]], [[[0, 0, 0, -32], [], [], [0, 0, -4], [], [], [0, 1]], [[], [], [0, 0, 12], [], [], [0, 12]], [[], [0, 0, 36], [], [], [0, 36]], [[0, 0, 4], [], [], [0, 32], [], [], [1]], [[], [], [0, 3], [], [], [3]]]], [])), (([[[[0, 0, 0, 0, 160], [], [], [0, 0, 0, 56], [], [], [0, 0, 4]], [[], [], [0, 0, 0, -72], [], [], [0, 0, 36]], [[], [0, 0, 0, -72], [], [], [0, 0, 198]], [[0, 0, 0, 56], [], [], [0, 0, 196], [], [], [0, 5]], [[], [], [0, 0, 198], [], [], [0, 63]], [[], [0, 0, 36], [], [], [0, 63]], [[0, 0, 4], [], [], [0, 5], [], [], [1]]], [[[], [], [0, 0, 0, 120], [], [], [0, 0, 12]], [[], [0, 0, 0, 144], [], [], [0, 0, 36]], [[0, 0, 0, 120], [], [], [0, 0, 96], [], [], [0, 3]], [[], [], [0, 0, 96], [], [], [0, -12]], [[], [0, 0, 36], [], [], [0, -72]], [[0, 0, 12], [], [], [0, -12], [], [], [3]], [[], [], [0, 3], [], [], [3]]]], []), ([], [[[[0, 0, 0, 96], [], [], [0, 0, 24]], [[], [], [0, 0, 72]], [[], [0, 0, 72], [], [], [0, 18]], [[0, 0, 24], [], [], [0, 60]], [[], [], [0, 18]]], [[[], [], [0, 0, 72]], [[], [0, 0, 240], [], [], [0, -12]], [[0, 0, 72], [], [], [0, -36]], [[], [], [0, -36]], [[], [0, -12], [], [], [6]]]])))
def r1 : El := ((([], [[[[], [0, 0, 0, 0, -32]], [[0, 0, 0, 0, 192]], [], [[], [0, 0, 0, -88]], [[0, 0, 0, 84]], [], [[], [0, 0, -2]]], [[[0, 0, 0, 0, 192]], [], [[], [0, 0, 0, -216]], [[0, 0, 0, 240]], [], [], [[0, 0, -6]]], [[], [[], [0, 0, 0, -216]], [[0, 0, 0, 72]], [], [], [[0, 0, 18]]], [[[], [0, 0, 0, -88]], [[0, 0, 0, 240]], [], [[], [0, 0, 100]], [[0, 0, 132]], [], [[], [0, -1]]], [[[0, 0, 0, 84]], [], [], [[0, 0, 132]], [], [[], [0, -27]], [[0, -6]]], [[], [], [[0, 0, 18]], [], [[], [0, -27]], [[0, -36]]], [[[], [0, 0, -2]], [[0, 0, -6]], [], [[], [0, -1]], [[0, -6]], [], [[], [1]]]]), ([[[[], [0, 0, 0, 0, 192]], [[0, 0, 0, 0, -32], [], [], [0, 0, 0, 16]], [], [[], [0, 0, 0, -24]], [[0, 0, 0, 4], [], [], [0, 0, -2]]], [[[0, 0, 0, 0, -96], [], [], [0, 0, 0, 48]], [], [[], [0, 0, 0, -216]], [[0, 0, 0, 48], [], [], [0, 0, -24]]], [[], [[], [0, 0, 0, -72]], [[0, 0, 0, 144], [], [], [0, 0, -72]], [], [[], [0, 0, -18]]], [[[], [0, 0, 0, 24]], [[0, 0, 0, 128], [], [], [0, 0, -64]], [], [[], [0, 0, -192]], [[0, 0, 2], [], [], [0, -1]]], [[[0, 0, 0, 12], [], [], [0, 0, -6]], [], [[], [0, 0, -216]], [[0, 0, -6], [], [], [0, 3]]], [[], [[], [0, 0, -72]], [[0, 0, -18], [], [], [0, 9]], [], [[], [0, -18]]], [[[], [0, 0, -6]], [[0, 0, -2], [], [], [0, 1]], [], [[], [0, -6]], [[0, -2], [], [], [1]]]], [])), (([[[[], [0, 0, 0, 0, 192]], [[0, 0, 0, 0, -96], [], [], [0, 0, 0, 48]], [], [[], [0, 0, 0, 24]], [[0, 0, 0, 12], [], [], [0, 0, -6]], [], [[], [0, 0, -6]]], [[[0, 0, 0, 0, -32], [], [], [0, 0, 0, 16]], [], [[], [0, 0, 0, -72]], [[0, 0, 0, 128], [], [], [0, 0, -64]], [], [[], [0, 0, -72]], [[0, 0, -2], [], [], [0, 1]]], [[], [[], [0, 0, 0, -216]], [[0, 0, 0, 144], [], [], [0, 0, -72]], [], [[], [0, 0, -216]], [[0, 0, -18], [], [], [0, 9]]], [[[], [0, 0, 0, -24]], [[0, 0, 0, 48], [], [], [0, 0, -24]], [], [[], [0, 0, -192]], [[0, 0, -6], [], [], [0, 3]], [], [[], [0, -6]]], [[[0, 0, 0, 4], [], [], [0, 0, -2]], [], [[], [0, 0, -18]], [[0, 0, 2], [], [], [0, -1]], [], [[], [0, -18]], [[0, -2], [], [], [1]]]], []), ([], [[[[], [0, 0, 0, -96]], [[0, 0, 0, 192]], [], [[], [0, 0, -24]], [[0, 0, 12]]], [[[0, 0, 0, 192]], [], [[], [0, 0, -72]], [[0, 0, 48]]], [[], [[], [0, 0, -72]], [[0, 0, 216]], [], [[], [0, -18]]], [[[], [0, 0, -24]], [[0, 0, 48]], [], [[], [0, -60]], [[0, -24]]], [[[0, 0, 12]], [], [[], [0, -18]], [[0, -24]]]])))
def r2 : El := ((([[[[0, 0, 0, 0, 0, -224], [], [], [0, 0, 0, 0, 64]], [[], [], [0, 0, 0, 0, -288]], [[], [0, 0, 0, 0, 360]], [[0, 0, 0, 0, -232], [], [], [0, 0, 0, -16]], [[], [], [0, 0, 0, -126]], [[], [0, 0, 0, 36]], [[0, 0, 0, -8], [], [], [0, 0, 1]]], [[[], [], [0, 0, 0, 0, -288]], [[], [0, 0, 0, 0, 432]], [[0, 0, 0, 0, -360], [], [], [0, 0, 0, -144]], [[], [], [0, 0, 0, -360]], [[], [0, 0, 0, 108]], [[0, 0, 0, -36], [], [], [0, 0, 18]], [[], [], [0, 0, 9]]], [[[], [0, 0, 0, 0, 360]], [[0, 0, 0, 0, -360], [], [], [0, 0, 0, -144]], [[], [], [0, 0, 0, -108]], [[], [0, 0, 0, 288]], [[0, 0, 0, -198], [], [], [0, 0, 99]], [[], [], [0, 0, -27]], [[], [0, 0, 9]]], [[[0, 0, 0, 0, -232], [], [], [0, 0, 0, -16]], [[], [], [0, 0, 0, -360]], [[], [0, 0, 0, 288]], [[0, 0, 0, 4], [], [], [0, 0, 148]], [[], [], [0, 0, -198]], [[], [0, 0, -36]], [[0, 0, -7], [], [], [0, 2]]], [[[], [], [0, 0, 0, -126]], [[], [0, 0, 0, 108]], [[0, 0, 0, -198], [], [], [0, 0, 99]], [[], [], [0, 0, -198]], [[], [0, 0, -216]], [[0, 0, -117], [], [], [0, 18]], [[], [], [0, 9]]], [[[], [0, 0, 0, 36]], [[0, 0, 0, -36], [], [], [0, 0, 18]], [[], [], [0, 0, -27]], [[], [0, 0, -36]], [[0, 0, -117], [], [], [0, 18]], [[], [], [0, 54]], [[], [0, 9]]], [[[0, 0, 0, -8], [], [], [0, 0, 1]], [[], [], [0, 0, 9]], [[], [0, 0, 9]], [[0, 0, -7], [], [], [0, 2]], [[], [], [0, 9]], [[], [0, 9]], [[0, 1], [], [], [1]]]], []), ([], [])), (([], []), ([[[[0, 0, 0, 0, -288]], [[], [], [0, 0, 0, -288]], [[], [0, 0, 0, 216]], [[0, 0, 0, -72]], [[], [], [0, 0, -18]]], [[[], [], [0, 0, 0, -288]], [[], [0, 0, 0, 720]], [[0, 0, 0, -216]], [[], [], [0, 0, -72]], [[], [0, 0, -36]]], [[[], [0, 0, 0, 216]], [[0, 0, 0, -216]], [[], [], [0, 0, -324]], [[], [0, 0, -108]], [[0, 0, -54]]], [[[0, 0, 0, -72]], [[], [], [0, 0, -72]], [[], [0, 0, -108]], [[0, 0, -180]], [[], [], [0, 36]]], [[[], [], [0, 0, -18]], [[], [0, 0, -36]], [[0, 0, -54]], [[], [], [0, 36]], [[], [0, 18]]]], [])))
def r3 : El := ((([], [[[[0, 0, 0, 0, 160]], [], [[], [0, 0, 0, 120]], [[0, 0, 0, 56]], [], [[], [0, 0, 12]], [[0, 0, 4]]], [[], [[], [0, 0, 0, 144]], [[0, 0, 0, -72]], [], [[], [0, 0, 36]], [[0, 0, 36]]], [[[], [0, 0, 0, 120]], [[0, 0, 0, -72]], [], [[], [0, 0, 96]], [[0, 0, 198]], [], [[], [0, 3]]], [[[0, 0, 0, 56]], [], [[], [0, 0, 96]], [[0, 0, 196]], [], [[], [0, -12]], [[0, 5]]], [[], [[], [0, 0, 36]], [[0, 0, 198]], [], [[], [0, -72]], [[0, 63]]], [[[], [0, 0, 12]], [[0, 0, 36]], [], [[], [0, -12]], [[0, 63]], [], [[], [3]]], [[[0, 0, 4]], [], [[], [0, 3]], [[0, 5]], [], [[], [3]], [[1]]]]), ([[[[0, 0, 0, 0, -128], [], [], [0, 0, 0, -32]], [[], [], [0, 0, 0, 48]], [], [[0, 0, 0, 16], [], [], [0, 0, 4]], [[], [], [0, 0, -6]]], [[[], [], [0, 0, 0, 144]], [], [[0, 0, 0, 144], [], [], [0, 0, 36]], [[], [], [0, 0, -72]]], [[], [[0, 0, 0, 48], [], [], [0, 0, 12]], [[], [], [0, 0, -216]], [], [[0, 0, 12], [], [], [0, 3]]], [[[0, 0, 0, -16], [], [], [0, 0, -4]], [[], [], [0, 0, -192]], [], [[0, 0, 128], [], [], [0, 32]], [[], [], [0, -3]]], [[[], [], [0, 0, -18]], [], [[0, 0, 144], [], [], [0, 36]], [[], [], [0, 9]]], [[], [[0, 0, 48], [], [], [0, 12]], [[], [], [0, 27]], [], [[0, 12], [], [], [3]]], [[[0, 0, 4], [], [], [0, 1]], [[], [], [0, 3]], [], [[0, 4], [], [], [1]], [[], [], [3]]]], [])), (([[[[0, 0, 0, 0, -128], [], [], [0, 0, 0, -32]], [[], [], [0, 0, 0, 144]], [], [[0, 0, 0, -16], [], [], [0, 0, -4]], [[], [], [0, 0, -18]], [], [[0, 0, 4], [], [], [0, 1]]], [[[], [], [0, 0, 0, 48]], [], [[0, 0, 0, 48], [], [], [0, 0, 12]], [[], [], [0, 0, -192]], [], [[0, 0, 48], [], [], [0, 12]], [[], [], [0, 3]]], [[], [[0, 0, 0, 144], [], [], [0, 0, 36]], [[], [], [0, 0, -216]], [], [[0, 0, 144], [], [], [0, 36]], [[], [], [0, 27]]], [[[0, 0, 0, 16], [], [], [0, 0, 4]], [[], [], [0, 0, -72]], [], [[0, 0, 128], [], [], [0, 32]], [[], [], [0, 9]], [], [[0, 4], [], [], [1]]], [[[], [], [0, 0, -6]], [], [[0, 0, 12], [], [], [0, 3]], [[], [], [0, -3]], [], [[0, 12], [], [], [3]], [[], [], [3]]]], []), ([], [[[[0, 0, 0, 96]], [], [[], [0, 0, 72]], [[0, 0, 24]]], [[], [[], [0, 0, 240]], [[0, 0, 72]], [], [[], [0, -12]]], [[[], [0, 0, 72]], [[0, 0, 72]], [], [[], [0, -36]], [[0, 18]]], [[[0, 0, 24]], [], [[], [0, -36]], [[0, 60]]], [[], [[], [0, -12]], [[0, 18]], [], [[], [6]]]])))
/-! What it says in a ring. -/
def rops {α : Type} (R : Rng α) : Ops α where
 add := R.add
 mul := R.mul
 zero := R.zero
 neg := R.neg
 isz := fun _ => false
section
variable {α : Type} (R : Rng α) (b x1 x2 x3 : α)
def v1 := lev R (ic R) b
def v2 := lev R (v1 R b) x1
def v3 := lev R (v2 R b x1) x2
def v4 := lev R (v3 R b x1 x2) x3
theorem s1 : Sound R o1 (v1 R b) := lops_sound (iops_sound R) b
theorem s2 : Sound R o2 (v2 R b x1) := lops_sound (s1 R b) x1
theorem s3 : Sound R o3_ (v3 R b x1 x2) := lops_sound (s2 R b x1) x2
theorem s4 : Sound R o4 (v4 R b x1 x2 x3) := lops_sound (s3 R b x1 x2) x3
theorem ic_1 : ic R 1 = R.one := R.add_zero _
theorem ic_0 : ic R 0 = R.zero := rfl
theorem Rng.mul_one (a : α) : R.mul a R.one = a := by rw [R.mul_comm, R.one_mul]
theorem w_b : v4 R b x1 x2 x3 cb = b := by
 simp only [v4, v3, v2, v1, cb, lev, ic_0, ic_1, R.mul_zero, R.add_zero, R.zero_add, R.mul_one]
theorem w_x1 : v4 R b x1 x2 x3 cx1 = x1 := by
 simp only [v4, v3, v2, v1, cx1, lev, ic_1, R.mul_zero, R.add_zero, R.zero_add, R.mul_one]
theorem w_x2 : v4 R b x1 x2 x3 cx2 = x2 := by
 simp only [v4, v3, v2, v1, cx2, lev, ic_1, R.mul_zero, R.add_zero, R.zero_add, R.mul_one]
theorem w_x3 : v4 R b x1 x2 x3 cx3 = x3 := by
 simp only [v4, v3, v2, v1, cx3, lev, ic_1, R.mul_zero, R.add_zero, R.zero_add, R.mul_one]
def side (x : α) : α := R.add (R.mul x (R.mul x x)) b
theorem w_cd (x : P4) : v4 R b x1 x2 x3 (cd x) = side R b (v4 R b x1 x2 x3 x) := by
 have S := s4 R b x1 x2 x3
 unfold cd side
 rw [S.add, S.mul, S.mul, w_b]
variable (y1 y2 y3 : α)
def u1 := xev R (v4 R b x1 x2 x3) y1
def u2 := xev R (u1 R b x1 x2 x3 y1) y2
def u3 := xev R (u2 R b x1 x2 x3 y1 y2) y3
variable (h1 : R.mul y1 y1 = side R b x1) (h2 : R.mul y2 y2 = side R b x2) (h3 : R.mul y3 y3 = side R b x3)
theorem k1 (h1 : R.mul y1 y1 = side R b x1) : Sound R e1 (u1 R b x1 x2 x3 y1) := xops_sound (s4 R b x1 x2 x3) (by rw [w_cd, w_x1]; exact h1)
theorem k2 (h1 : R.mul y1 y1 = side R b x1) (h2 : R.mul y2 y2 = side R b x2) : Sound R e2 (u2 R b x1 x2 x3 y1 y2) := xops_sound (k1 R b x1 x2 x3 y1 h1) (by
 have e : v4 R b x1 x2 x3 [] = R.zero := rfl
 show _ = R.add (v4 R b x1 x2 x3 (cd cx2)) (R.mul y1 (v4 R b x1 x2 x3 []))
 rw [e, R.mul_zero, R.add_zero, w_cd, w_x2]
 exact h2)
theorem k3 (h1 : R.mul y1 y1 = side R b x1) (h2 : R.mul y2 y2 = side R b x2) (h3 : R.mul y3 y3 = side R b x3) : Sound R e3 (u3 R b x1 x2 x3 y1 y2 y3) := xops_sound (k2 R b x1 x2 x3 y1 y2 h1 h2) (by
 have e : v4 R b x1 x2 x3 [] = R.zero := rfl
 have e2 : u2 R b x1 x2 x3 y1 y2 ((cd cx3, []), ([], [])) = v4 R b x1 x2 x3 (cd cx3) := by simp only [u2, u1, xev, e, R.mul_zero, R.add_zero]
 rw [e2, w_cd, w_x3]
 exact h3)
end
theorem eq_of {α β : Type} {R : Rng α} {O : Ops β} {ev : β → α} (S : Sound R O ev) {a c : β} (h : O.isz (osub O a c) = true) : ev a = ev c := by
 have e := S.isz _ h
 unfold osub at e
 rw [S.add, S.neg] at e
 have e2 : R.add (R.add (ev a) (R.neg (ev c))) (ev c) = R.add R.zero (ev c) := by rw [e]
 rw [R.add_assoc, R.neg_add, R.add_zero, R.zero_add] at e2
 exact e2
end EC
end Go.Proofs.YtmanelnacifgcaaGreatDoor
end
section
namespace Go.Proofs.YtmanelnacifgcaaGreatDoor
namespace EC
/-! Expressions, to be calculated by the kernel. -/
def nth {β : Type} (d : β) : List β → Nat → β
 | [], _ => d
 | a :: _, 0 => a
 | _ :: l, i + 1 => nth d l i
theorem nth_map {β J : Type} (f : β → J) (d : β) : ∀ (l : List β) (i : Nat), f (nth d l i) = nth (f d) (l.map f) i
 | [], _ => rfl
 | _ :: _, 0 => rfl
 | _ :: l, i + 1 => nth_map f d l i
structure Ex where
 ev : {β : Type} → Ops β → β → List β → β
 snd : ∀ {α β : Type} {R : Rng α} {O : Ops β} {f : β → α}, Sound R O f → ∀ {one : β}, f one = R.one → ∀ l : List β, f (ev O one l) = ev (rops R) R.one (l.map f)
def Ex.v (i : Nat) : Ex where
 ev := fun O _ l => nth O.zero l i
 snd := by
  intro _ _ R O f S _ _ l
  show f (nth O.zero l i) = nth R.zero (l.map f) i
  rw [nth_map f, S.zero]
def Ex.z : Ex where
 ev := fun O _ _ => O.zero
 snd := by
  intro _ _ _ _ _ S _ _ _
  exact S.zero
def Ex.o : Ex where
 ev := fun _ one _ => one
 snd := by
  intro _ _ _ _ _ _ _ h _
  exact h
def Ex.a (x y : Ex) : Ex where
 ev := fun O one l => O.add (x.ev O one l) (y.ev O one l)
 snd := by
  intro _ _ R O f S _ h l
  show f (O.add _ _) = R.add _ _
  rw [S.add, x.snd S h l, y.snd S h l]
def Ex.m (x y : Ex) : Ex where
 ev := fun O one l => O.mul (x.ev O one l) (y.ev O one l)
 snd := by
  intro _ _ R O f S _ h l
  show f (O.mul _ _) = R.mul _ _
  rw [S.mul, x.snd S h l, y.snd S h l]
def Ex.n (x : Ex) : Ex where
 ev := fun O one l => O.neg (x.ev O one l)
 snd := by
  intro _ _ R O f S _ h l
  show f (O.neg _) = R.neg _
  rw [S.neg, x.snd S h l]
def exo : Ops Ex where
 add := Ex.a
 mul := Ex.m
 zero := Ex.z
 neg := Ex.n
 isz := fun _ => false
theorem Ex.eqs {α β : Type} {R : Rng α} {O : Ops β} {f : β → α} (S : Sound R O f) {one : β} (h1 : f one = R.one) (l : List β) (x y : Ex) (h : O.isz (osub O (x.ev O one l) (y.ev O one l)) = true) : x.ev (rops R) R.one (l.map f) = y.ev (rops R) R.one (l.map f) := by
 rw [← x.snd S h1 l, ← y.snd S h1 l]
 exact eq_of S h
/-! Any eight numbers. -/
abbrev P5 := List P4
abbrev P6 := List P5
abbrev P7 := List P6
abbrev P8 := List P7
def o5 := lops o4
def o6 := lops o5
def o7 := lops o6
def o8 := lops o7
def f1 : P8 := [[[[[[[[0, 1]]]]]]]]
def f2 : P8 := [[[[[[[[], [1]]]]]]]]
def f3 : P8 := [[[[[[[], [[1]]]]]]]]
def f4 : P8 := [[[[[[], [[[1]]]]]]]]
def f5 : P8 := [[[[[], [[[[1]]]]]]]]
def f6 : P8 := [[[[], [[[[[1]]]]]]]]
def f7 : P8 := [[[], [[[[[[1]]]]]]]]
def f8 : P8 := [[], [[[[[[[1]]]]]]]]
def f0 : P8 := [[[[[[[[1]]]]]]]]
theorem ring_f {α : Type} (R : Rng α) (a b c d e f g h : α) (x y : Ex) (hh : o8.isz (osub o8 (x.ev o8 f0 [f1, f2, f3, f4, f5, f6, f7, f8]) (y.ev o8 f0 [f1, f2, f3, f4, f5, f6, f7, f8])) = true) :
  x.ev (rops R) R.one [a, b, c, d, e, f, g, h] = y.ev (rops R) R.one [a, b, c, d, e, f, g, h] := by
 have S : Sound R o8 _ := lops_sound (lops_sound (lops_sound (lops_sound (lops_sound (lops_sound (lops_sound (lops_sound (iops_sound R) a) b) c) d) e) f) g) h
 have t := Ex.eqs S (one := f0) (by
  simp only [f0, lev, ic_1, R.mul_zero, R.add_zero]) _ x y hh
 simp only [List.map_cons, List.map_nil, f1, f2, f3, f4, f5, f6, f7, f8, lev, ic_0, ic_1, R.mul_zero, R.add_zero, R.zero_add, R.mul_one] at t
 exact t
end EC
end Go.Proofs.YtmanelnacifgcaaGreatDoor
end
section
namespace Go.Proofs.YtmanelnacifgcaaGreatDoor
namespace EC
structure Crv (α : Type) where
 R : Rng α
 inv : α → α
 b : α
 hinv : ∀ a, a ≠ R.zero → R.mul (inv a) a = R.one
 hb : ∀ t, side R b t ≠ R.zero
 h1 : R.one ≠ R.zero
 h2 : R.add R.one R.one ≠ R.zero
section
variable {α : Type} (C : Crv α)
theorem Crv.can {c a d : α} (hc : c ≠ C.R.zero) (h : C.R.mul c a = C.R.mul c d) : a = d := by
 have e := congrArg (C.R.mul (C.inv c)) h
 rw [← C.R.mul_assoc, ← C.R.mul_assoc, C.hinv c hc, C.R.one_mul, C.R.one_mul] at e
 exact e
theorem Crv.ne {a c : α} (ha : a ≠ C.R.zero) (hc : c ≠ C.R.zero) : C.R.mul a c ≠ C.R.zero := fun h => hc (C.can ha (h.trans (C.R.mul_zero a).symm))
theorem Crv.two {a : α} (ha : a ≠ C.R.zero) : C.R.add a a ≠ C.R.zero := fun h => by
 have e : C.R.mul (C.R.add C.R.one C.R.one) a = C.R.add a a := by rw [C.R.add_mul, C.R.one_mul]
 exact C.ne C.h2 ha (e.trans h)
def Crv.on : Option (α × α) → Prop
 | none => True
 | some (x, y) => C.R.mul y y = side C.R C.b x
def Crv.lift : Option (α × α) → Tri α
 | none => (C.R.zero, C.R.one, C.R.zero)
 | some (x, y) => (x, y, C.R.one)
def Crv.neg : Option (α × α) → Option (α × α)
 | none => none
 | some (x, y) => some (x, C.R.neg y)
abbrev Crv.tog (A B : Tri α) : Tri α := EC.tog (rops C.R) C.b A B
def Crv.sc (c : α) (T : Tri α) : Tri α := (C.R.mul c T.1, C.R.mul c T.2.1, C.R.mul c T.2.2)
def Crv.good (T : Tri α) : Prop := T.2.2 = C.R.zero → T.1 = C.R.zero ∧ T.2.1 ≠ C.R.zero
theorem Crv.y_ne {x y : α} (h : C.on (some (x, y))) : y ≠ C.R.zero := fun e => by
 have h' : C.R.mul y y = side C.R C.b x := h
 rw [e, C.R.mul_zero] at h'
 exact C.hb x h'.symm
open Ex in
theorem Crv.tog_comm (A B : Tri α) : C.tog A B = C.tog B A := by
 obtain ⟨x1, y1, z1⟩ := A
 obtain ⟨x2, y2, z2⟩ := B
 refine Prod.ext ?_ (Prod.ext ?_ ?_)
 ·exact ring_f C.R C.b x1 y1 z1 x2 y2 z2 C.b (EC.tog exo (v 0) (v 1, v 2, v 3) (v 4, v 5, v 6)).1 (EC.tog exo (v 0) (v 4, v 5, v 6) (v 1, v 2, v 3)).1 (by decide +kernel)
 ·exact ring_f C.R C.b x1 y1 z1 x2 y2 z2 C.b (EC.tog exo (v 0) (v 1, v 2, v 3) (v 4, v 5, v 6)).2.1 (EC.tog exo (v 0) (v 4, v 5, v 6) (v 1, v 2, v 3)).2.1 (by decide +kernel)
 ·exact ring_f C.R C.b x1 y1 z1 x2 y2 z2 C.b (EC.tog exo (v 0) (v 1, v 2, v 3) (v 4, v 5, v 6)).2.2 (EC.tog exo (v 0) (v 4, v 5, v 6) (v 1, v 2, v 3)).2.2 (by decide +kernel)
open Ex in
open Ex in
theorem Crv.tog_zero (B : Tri α) : C.tog (C.lift none) B = C.sc B.2.1 B := by
 obtain ⟨x2, y2, z2⟩ := B
 refine Prod.ext ?_ (Prod.ext ?_ ?_)
 ·exact ring_f C.R C.b x2 y2 z2 C.b C.b C.b C.b (EC.tog exo (v 0) (z, o, z) (v 1, v 2, v 3)).1 (m (v 2) (v 1)) (by decide +kernel)
 ·exact ring_f C.R C.b x2 y2 z2 C.b C.b C.b C.b (EC.tog exo (v 0) (z, o, z) (v 1, v 2, v 3)).2.1 (m (v 2) (v 2)) (by decide +kernel)
 ·exact ring_f C.R C.b x2 y2 z2 C.b C.b C.b C.b (EC.tog exo (v 0) (z, o, z) (v 1, v 2, v 3)).2.2 (m (v 2) (v 3)) (by decide +kernel)
theorem Crv.lift_y {P : Option (α × α)} (h : C.on P) : (C.lift P).2.1 ≠ C.R.zero := by
 rcases P with _ | ⟨x, y⟩
 ·exact C.h1
 ·exact C.y_ne h
open Ex in
/-- -b would be a cube. -/
theorem Crv.cube {E w : α} (hE : E ≠ C.R.zero) (h : C.R.add (C.R.mul w (C.R.mul w w)) (C.R.mul C.b (C.R.mul E (C.R.mul E E))) = C.R.zero) : False := by
 refine C.hb (C.R.mul w (C.inv E)) ?_
 refine C.can (C.ne hE (C.ne hE hE)) ?_
 rw [C.R.mul_zero, ← h]
 have e := ring_f C.R C.b E w (C.inv E) C.b C.b C.b C.b (m (m (v 1) (m (v 1) (v 1))) (a (m (m (v 2) (v 3)) (m (m (v 2) (v 3)) (m (v 2) (v 3)))) (v 0))) (a (m (m (v 2) (m (v 2) (v 2))) (m (m (v 3) (v 1)) (m (m (v 3) (v 1)) (m (v 3) (v 1))))) (m (v 0) (m (v 1) (m (v 1) (v 1))))) (by decide +kernel)
 refine Eq.trans e ?_
 show C.R.add (C.R.mul (C.R.mul w (C.R.mul w w)) (C.R.mul (C.R.mul (C.inv E) E) (C.R.mul (C.R.mul (C.inv E) E) (C.R.mul (C.inv E) E)))) (C.R.mul C.b (C.R.mul E (C.R.mul E E))) = _
 rw [C.hinv E hE, C.R.one_mul, C.R.one_mul, C.R.mul_one]
open Ex in
theorem Crv.over {c z x : α} (hc : c ≠ C.R.zero) (hz : z ≠ C.R.zero) : C.R.mul (C.R.mul c x) (C.inv (C.R.mul c z)) = C.R.mul x (C.inv z) := by
 refine C.can (C.ne hc hz) ?_
 have e1 : C.R.mul (C.R.mul c z) (C.R.mul (C.R.mul c x) (C.inv (C.R.mul c z))) = C.R.mul (C.R.mul (C.inv (C.R.mul c z)) (C.R.mul c z)) (C.R.mul c x) := by
  rw [C.R.mul_comm (C.R.mul c x), ← C.R.mul_assoc, C.R.mul_comm (C.R.mul c z)]
 have e2 : C.R.mul (C.R.mul c z) (C.R.mul x (C.inv z)) = C.R.mul (C.R.mul (C.inv z) z) (C.R.mul c x) := by
  rw [C.R.mul_comm x, ← C.R.mul_assoc, C.R.mul_assoc c, C.R.mul_comm z, C.R.mul_comm c, C.R.mul_assoc]
 rw [e1, e2, C.hinv _ (C.ne hc hz), C.hinv z hz]
theorem Crv.neg_on {P : Option (α × α)} (h : C.on P) : C.on (C.neg P) := by
 rcases P with _ | ⟨x, y⟩
 ·trivial
 ·have h' : C.R.mul y y = side C.R C.b x := h
  show C.R.mul (C.R.neg y) (C.R.neg y) = side C.R C.b x
  rw [C.R.mul_neg, C.R.mul_comm, C.R.mul_neg, C.R.neg_neg, h']
end
section
variable {α : Type} [DecidableEq α] (C : Crv α)
def Crv.lower (T : Tri α) : Option (α × α) := if T.2.2 = C.R.zero then none else some (C.R.mul T.1 (C.inv T.2.2), C.R.mul T.2.1 (C.inv T.2.2))
def Crv.add (P Q : Option (α × α)) : Option (α × α) := C.lower (C.tog (C.lift P) (C.lift Q))
theorem Crv.lower_none {T : Tri α} (h : T.2.2 = C.R.zero) : C.lower T = none := if_pos h
theorem Crv.lower_some {T : Tri α} (h : T.2.2 ≠ C.R.zero) : C.lower T = some (C.R.mul T.1 (C.inv T.2.2), C.R.mul T.2.1 (C.inv T.2.2)) := if_neg h
theorem Crv.lower_sc {c : α} (hc : c ≠ C.R.zero) (T : Tri α) : C.lower (C.sc c T) = C.lower T := by
 by_cases hz : T.2.2 = C.R.zero
 ·rw [C.lower_none hz, C.lower_none (show C.R.mul c T.2.2 = C.R.zero by rw [hz, C.R.mul_zero])]
 ·rw [C.lower_some hz, C.lower_some (T := C.sc c T) (C.ne hc hz)]
  show some (C.R.mul (C.R.mul c T.1) (C.inv (C.R.mul c T.2.2)), C.R.mul (C.R.mul c T.2.1) (C.inv (C.R.mul c T.2.2))) = _
  rw [C.over hc hz, C.over hc hz]
theorem Crv.lower_lift (P : Option (α × α)) : C.lower (C.lift P) = P := by
 rcases P with _ | ⟨x, y⟩
 ·exact C.lower_none rfl
 ·rw [C.lower_some (T := C.lift (some (x, y))) C.h1]
  have e : C.inv C.R.one = C.R.one := by
   have := C.hinv C.R.one C.h1
   rw [C.R.mul_one] at this
   exact this
  show some (C.R.mul x (C.inv C.R.one), C.R.mul y (C.inv C.R.one)) = _
  rw [e, C.R.mul_one, C.R.mul_one]
theorem Crv.comm (P Q : Option (α × α)) : C.add P Q = C.add Q P := by unfold Crv.add; rw [C.tog_comm]
theorem Crv.zero_add {Q : Option (α × α)} (h : C.on Q) : C.add none Q = Q := by
 unfold Crv.add
 rw [C.tog_zero, C.lower_sc (C.lift_y h), C.lower_lift]
theorem Crv.add_zero {Q : Option (α × α)} (h : C.on Q) : C.add Q none = Q := by rw [C.comm, C.zero_add h]
open Ex in
theorem Crv.add_neg (P : Option (α × α)) : C.add P (C.neg P) = none := by
 rcases P with _ | ⟨x, y⟩
 ·exact C.zero_add (Q := none) trivial
 ·exact C.lower_none (ring_f C.R C.b x y C.b C.b C.b C.b C.b (EC.tog exo (v 0) (v 1, v 2, o) (v 1, n (v 2), o)).2.2 z (by decide +kernel))
open Ex in
theorem Crv.same {S T : Tri α} (hS : C.good S) (hT : C.good T) (h1 : C.R.mul S.1 T.2.2 = C.R.mul S.2.2 T.1) (h2 : C.R.mul S.2.1 T.2.2 = C.R.mul S.2.2 T.2.1) : C.lower S = C.lower T := by
 by_cases hs : S.2.2 = C.R.zero
 ·have ht : T.2.2 = C.R.zero := by
   obtain ⟨_, hy⟩ := hS hs
   rw [hs, C.R.zero_mul] at h2
   exact C.can hy (h2.trans (C.R.mul_zero _).symm)
  rw [C.lower_none hs, C.lower_none ht]
 ·by_cases ht : T.2.2 = C.R.zero
  ·obtain ⟨_, hy⟩ := hT ht
   rw [ht, C.R.mul_zero] at h2
   exact absurd (C.can hs (h2.symm.trans (C.R.mul_zero _).symm)) hy
  ·rw [C.lower_some hs, C.lower_some ht]
   have q : ∀ x y : α, C.R.mul x T.2.2 = C.R.mul S.2.2 y → C.R.mul x (C.inv S.2.2) = C.R.mul y (C.inv T.2.2) := fun x y h => by
    have e := C.over (c := T.2.2) (z := S.2.2) (x := x) ht hs
    rw [← e, C.R.mul_comm T.2.2 x, h, C.R.mul_comm T.2.2 S.2.2, C.over hs ht]
   rw [q _ _ h1, q _ _ h2]
end
end EC
end Go.Proofs.YtmanelnacifgcaaGreatDoor
end
section
namespace Go.Proofs.YtmanelnacifgcaaGreatDoor
namespace EC
section
variable {β : Type _} (O : Ops β)
def od (a : β) : β := O.add a a
def twi (b : β) (p : Tri β) : Tri β :=
 let yy := O.mul p.2.1 p.2.1
 let yz := O.mul p.2.1 p.2.2
 let zz3 := o3 O (O.mul b (O.mul p.2.2 p.2.2))
 let yy8 := od O (od O (od O yy))
 let less := osub O yy (o3 O zz3)
 let more := O.add yy zz3
 (od O (O.mul less (O.mul p.1 p.2.1)), O.add (O.mul less more) (O.mul yy8 zz3), O.mul yy8 yz)
end
section
variable {α : Type} (C : Crv α)
open Ex in
open Ex in
end
section
variable {α : Type} [DecidableEq α] (C : Crv α)
/-- twice: itself, where the third number is 0. -/
def Crv.twice (A : Tri α) : Tri α := if A.2.2 = C.R.zero then A else twi (rops C.R) C.b A
def Crv.times (P : Option (α × α)) : Nat → Option (α × α)
 | 0 => none
 | n + 1 => C.add (Crv.times P n) P
end
end EC
end Go.Proofs.YtmanelnacifgcaaGreatDoor
end
section
namespace Go.Proofs.YtmanelnacifgcaaGreatDoor
namespace EC
open Ex in
def pairR {α : Type} (R : Rng α) : Rng (α × α) where
 add := fun f g => (R.add f.1 g.1, R.add f.2 g.2)
 mul := fun f g => (R.add (R.mul f.1 g.1) (R.neg (R.mul f.2 g.2)), R.add (R.mul f.1 g.2) (R.mul f.2 g.1))
 zero := (R.zero, R.zero)
 one := (R.one, R.zero)
 neg := fun f => (R.neg f.1, R.neg f.2)
 add_comm := fun f g => Prod.ext (R.add_comm _ _) (R.add_comm _ _)
 add_assoc := fun f g h => Prod.ext (R.add_assoc _ _ _) (R.add_assoc _ _ _)
 zero_add := fun f => Prod.ext (R.zero_add _) (R.zero_add _)
 neg_add := fun f => Prod.ext (R.neg_add _) (R.neg_add _)
 mul_comm := fun f g => Prod.ext
  (ring_f R f.1 f.2 g.1 g.2 R.zero R.zero R.zero R.zero (a (m (v 0) (v 2)) (n (m (v 1) (v 3)))) (a (m (v 2) (v 0)) (n (m (v 3) (v 1)))) (by decide +kernel))
  (ring_f R f.1 f.2 g.1 g.2 R.zero R.zero R.zero R.zero (a (m (v 0) (v 3)) (m (v 1) (v 2))) (a (m (v 2) (v 1)) (m (v 3) (v 0))) (by decide +kernel))
 mul_assoc := fun f g h => Prod.ext
  (ring_f R f.1 f.2 g.1 g.2 h.1 h.2 R.zero R.zero (a (m (a (m (v 0) (v 2)) (n (m (v 1) (v 3)))) (v 4)) (n (m (a (m (v 0) (v 3)) (m (v 1) (v 2))) (v 5)))) (a (m (v 0) (a (m (v 2) (v 4)) (n (m (v 3) (v 5))))) (n (m (v 1) (a (m (v 2) (v 5)) (m (v 3) (v 4)))))) (by decide +kernel))
  (ring_f R f.1 f.2 g.1 g.2 h.1 h.2 R.zero R.zero (a (m (a (m (v 0) (v 2)) (n (m (v 1) (v 3)))) (v 5)) (m (a (m (v 0) (v 3)) (m (v 1) (v 2))) (v 4))) (a (m (v 0) (a (m (v 2) (v 5)) (m (v 3) (v 4)))) (m (v 1) (a (m (v 2) (v 4)) (n (m (v 3) (v 5)))))) (by decide +kernel))
 one_mul := fun f => Prod.ext
  (ring_f R f.1 f.2 R.zero R.zero R.zero R.zero R.zero R.zero (a (m o (v 0)) (n (m z (v 1)))) (v 0) (by decide +kernel))
  (ring_f R f.1 f.2 R.zero R.zero R.zero R.zero R.zero R.zero (a (m o (v 1)) (m z (v 0))) (v 1) (by decide +kernel))
 mul_add := fun f g h => Prod.ext
  (ring_f R f.1 f.2 g.1 g.2 h.1 h.2 R.zero R.zero (a (m (v 0) (a (v 2) (v 4))) (n (m (v 1) (a (v 3) (v 5))))) (a (a (m (v 0) (v 2)) (n (m (v 1) (v 3)))) (a (m (v 0) (v 4)) (n (m (v 1) (v 5))))) (by decide +kernel))
  (ring_f R f.1 f.2 g.1 g.2 h.1 h.2 R.zero R.zero (a (m (v 0) (a (v 3) (v 5))) (m (v 1) (a (v 2) (v 4)))) (a (a (m (v 0) (v 3)) (m (v 1) (v 2))) (a (m (v 0) (v 5)) (m (v 1) (v 4)))) (by decide +kernel))
def pinv {α : Type} (R : Rng α) (inv : α → α) (a : α × α) : α × α :=
 (R.mul a.1 (inv (R.add (R.mul a.1 a.1) (R.mul a.2 a.2))), R.neg (R.mul a.2 (inv (R.add (R.mul a.1 a.1) (R.mul a.2 a.2)))))
open Ex in
theorem pinv_mul {α : Type} (R : Rng α) (inv : α → α) (hinv : ∀ a, a ≠ R.zero → R.mul (inv a) a = R.one) (hn : ∀ x y, R.add (R.mul x x) (R.mul y y) = R.zero → x = R.zero ∧ y = R.zero) (f : α × α) (ha : f ≠ (pairR R).zero) : (pairR R).mul (pinv R inv f) f = (pairR R).one := by
 obtain ⟨x, y⟩ := f
 have hd : R.add (R.mul x x) (R.mul y y) ≠ R.zero := fun h => ha (by
  obtain ⟨h1, h2⟩ := hn x y h
  rw [h1, h2]
  rfl)
 have e := hinv _ hd
 refine Prod.ext ?_ ?_
 ·refine Eq.trans (ring_f R x y (inv (R.add (R.mul x x) (R.mul y y))) R.zero R.zero R.zero R.zero R.zero (a (m (m (v 0) (v 2)) (v 0)) (n (m (n (m (v 1) (v 2))) (v 1)))) (m (v 2) (a (m (v 0) (v 0)) (m (v 1) (v 1)))) (by decide +kernel)) e
 ·exact ring_f R x y (inv (R.add (R.mul x x) (R.mul y y))) R.zero R.zero R.zero R.zero R.zero (a (m (m (v 0) (v 2)) (v 1)) (m (n (m (v 1) (v 2))) (v 0))) z (by decide +kernel)
end EC
end Go.Proofs.YtmanelnacifgcaaGreatDoor
end
section
namespace Go.Proofs.YtmanelnacifgcaaGreatDoor
open Go.RowKit
namespace Rg
open NT
abbrev Fp := {n : Nat // n < pB}
theorem pB_pos : 0 < pB := pB_prm.pos
theorem pB_one : 1 < pB := pB_prm.1
theorem pB_four_lt : 4 < pB := by decide +kernel
def fpR : EC.Rng Fp where
 add := fun a b => ⟨(a.1 + b.1) % pB, Nat.mod_lt _ pB_pos⟩
 mul := fun a b => ⟨a.1 * b.1 % pB, Nat.mod_lt _ pB_pos⟩
 zero := ⟨0, pB_pos⟩
 one := ⟨1, pB_one⟩
 neg := fun a => ⟨(pB - a.1) % pB, Nat.mod_lt _ pB_pos⟩
 add_comm := fun a b => Subtype.ext (by dsimp only; rw [Nat.add_comm])
 add_assoc := fun a b c => Subtype.ext (by dsimp only; rw [Nat.mod_add_mod, Nat.add_mod_mod, Nat.add_assoc])
 zero_add := fun a => Subtype.ext (by dsimp only; rw [Nat.zero_add, Nat.mod_eq_of_lt a.2])
 neg_add := fun a => Subtype.ext (by
  dsimp only
  rw [Nat.mod_add_mod, Nat.sub_add_cancel (Nat.le_of_lt a.2), Nat.mod_self])
 mul_comm := fun a b => Subtype.ext (by dsimp only; rw [Nat.mul_comm])
 mul_assoc := fun a b c => Subtype.ext (by dsimp only; rw [Nat.mod_mul_mod, Nat.mul_mod_mod, Nat.mul_assoc])
 one_mul := fun a => Subtype.ext (by dsimp only; rw [Nat.one_mul, Nat.mod_eq_of_lt a.2])
 mul_add := fun a b c => Subtype.ext (by dsimp only; rw [Nat.mul_mod_mod, Nat.mul_add, Nat.add_mod])
def fpI (a : Fp) : Fp := ⟨invm pB a.1 % pB, Nat.mod_lt _ pB_pos⟩
theorem fp_gcd {a : Fp} (h : a ≠ fpR.zero) : Nat.gcd pB a.1 = 1 := by
 refine pB_prm.cop (fun hd => h ?_)
 refine Subtype.ext ?_
 show a.1 = 0
 have h2 := a.2
 rcases Nat.eq_zero_or_pos a.1 with h0 | h0
 ·exact h0
 ·have := Nat.le_of_dvd h0 hd
  omega
theorem fpI_val {a : Fp} (h : a ≠ fpR.zero) : (fpI a).1 = invm pB a.1 := Nat.mod_eq_of_lt (invm_spec pB_ok (fp_gcd h)).1
theorem fpI_mul (a : Fp) (h : a ≠ fpR.zero) : fpR.mul (fpI a) a = fpR.one := by
 refine Subtype.ext ?_
 show (fpI a).1 * a.1 % pB = 1
 rw [fpI_val h]
 exact (invm_spec pB_ok (fp_gcd h)).2
def fp4 : Fp := ⟨4, pB_four_lt⟩
theorem not_dv {k : Nat} (h0 : 0 < k) (h : k < pB) : ¬ Dv (k : Int) := fun hd => by
 have := Nat.le_of_dvd h0 ((dv_nat (k : Int)).1 hd)
 omega
theorem side_dv {t : Fp} (h : EC.side fpR fp4 t = fpR.zero) : Dv ((t.1 : Int) * ((t.1 : Int) * t.1) + 4) := by
 have e : (t.1 * (t.1 * t.1 % pB) % pB + 4) % pB = 0 := congrArg Subtype.val h
 rw [Nat.mul_mod_mod, Nat.mod_add_mod] at e
 have hd : (pB : Int) ∣ ((t.1 * (t.1 * t.1) + 4 : Nat) : Int) := Int.ofNat_dvd.2 (Nat.dvd_of_mod_eq_zero e)
 rw [Int.natCast_add, Int.natCast_mul, Int.natCast_mul] at hd
 exact hd
theorem fp_cube (t : Fp) : EC.side fpR fp4 t ≠ fpR.zero := fun h => by
 have hd := side_dv h
 have h2 : Dv (2 : Int) := two_cb (m := (t.1 : Int) * t.1) (k := 2) ((hd.mul ((t.1 : Int) * ((t.1 : Int) * t.1) - 4)).of (by grind))
 exact not_dv (k := 2) (by decide) (by decide +kernel) h2
theorem fp_two : fpR.add fpR.one fpR.one ≠ fpR.zero := fun h => by
 have e : (1 + 1) % pB = 0 := congrArg Subtype.val h
 revert e
 decide +kernel
theorem fp_one : fpR.one ≠ fpR.zero := fun h => absurd (congrArg Subtype.val h) (by decide)
/-- The first curve. -/
def Inv1 (I : Fp → Fp) : Prop := ∀ a, a ≠ fpR.zero → fpR.mul (I a) a = fpR.one
theorem inv1_ex : ∃ I, Inv1 I := ⟨fpI, fpI_mul⟩
def K1 {I : Fp → Fp} (hI : Inv1 I) : EC.Crv Fp := ⟨fpR, I, fp4, hI, fp_cube, fp_one, fp_two⟩
/-! Pairs. -/
abbrev Fq := Fp × Fp
theorem fp_norm (x y : Fp) (h : fpR.add (fpR.mul x x) (fpR.mul y y) = fpR.zero) : x = fpR.zero ∧ y = fpR.zero := by
 have e : (x.1 * x.1 % pB + y.1 * y.1 % pB) % pB = 0 := congrArg Subtype.val h
 rw [Nat.mod_add_mod, Nat.add_mod_mod] at e
 have hd : (pB : Int) ∣ ((x.1 * x.1 + y.1 * y.1 : Nat) : Int) := Int.ofNat_dvd.2 (Nat.dvd_of_mod_eq_zero e)
 rw [Int.natCast_add, Int.natCast_mul, Int.natCast_mul] at hd
 obtain ⟨h1, h2⟩ := norm0 (x := (x.1 : Int)) (y := (y.1 : Int)) hd
 have z : ∀ a : Fp, Dv (a.1 : Int) → a = fpR.zero := fun a ha => by
  refine Subtype.ext ?_
  show a.1 = 0
  rcases Nat.eq_zero_or_pos a.1 with h0 | h0
  ·exact h0
  ·exact absurd ha (not_dv h0 a.2)
 exact ⟨z x h1, z y h2⟩
def fqR : EC.Rng Fq := EC.pairR fpR
def fq4 : Fq := (fp4, fp4)
theorem fpz (a b : Fp) : (((fpR.add a b).1 : Nat) : Int) % pB = ((a.1 : Int) + b.1) % pB := by
 show (((a.1 + b.1) % pB : Nat) : Int) % pB = _
 rw [Int.natCast_emod, Int.emod_emod, Int.natCast_add]
theorem fpm (a b : Fp) : (((fpR.mul a b).1 : Nat) : Int) % pB = ((a.1 : Int) * b.1) % pB := by
 show (((a.1 * b.1) % pB : Nat) : Int) % pB = _
 rw [Int.natCast_emod, Int.emod_emod, Int.natCast_mul]
theorem fpn (a : Fp) : (((fpR.neg a).1 : Nat) : Int) % pB = (-(a.1 : Int)) % pB := by
 show (((pB - a.1) % pB : Nat) : Int) % pB = _
 rw [Int.natCast_emod, Int.emod_emod, Int.ofNat_sub (Nat.le_of_lt a.2), Int.sub_eq_add_neg, Int.add_emod_left]
/-- A number of the field is congruent to an integer. -/
def Cg (a : Fp) (x : Int) : Prop := Dv ((a.1 : Int) - x)
theorem cg_of {a : Fp} {x : Int} (h : ((a.1 : Nat) : Int) % pB = x % pB) : Cg a x := Int.dvd_of_emod_eq_zero (Int.emod_eq_emod_iff_emod_sub_eq_zero.1 h)
theorem cg_self (a : Fp) : Cg a a.1 := cg_of rfl
theorem Cg.add {a b : Fp} {x y : Int} (h : Cg a x) (k : Cg b y) : Cg (fpR.add a b) (x + y) := by
 have e : Dv (((fpR.add a b).1 : Int) - ((a.1 : Int) + b.1)) := cg_of (fpz a b)
 have h1 : Dv ((a.1 : Int) - x) := h
 have h2 : Dv ((b.1 : Int) - y) := k
 exact Dv.of ((e.add h1).add h2) (by omega)
theorem Cg.mul {a b : Fp} {x y : Int} (h : Cg a x) (k : Cg b y) : Cg (fpR.mul a b) (x * y) := by
 show Dv (((fpR.mul a b).1 : Int) - x * y)
 have e : Dv (((fpR.mul a b).1 : Int) - ((a.1 : Int) * b.1)) := cg_of (fpm a b)
 have h1 : Dv ((a.1 : Int) - x) := h
 have h2 : Dv ((b.1 : Int) - y) := k
 have h3 := h1.mulr (b.1 : Int)
 have h4 := h2.mul x
 clear h k h1 h2
 generalize ((fpR.mul a b).1 : Int) = m at *
 generalize (a.1 : Int) = u at *
 generalize (b.1 : Int) = v at *
 exact Dv.of ((e.add h3).add h4) (by grind)
theorem Cg.neg {a : Fp} {x : Int} (h : Cg a x) : Cg (fpR.neg a) (-x) := by
 have e : Dv (((fpR.neg a).1 : Int) - -(a.1 : Int)) := cg_of (fpn a)
 have h1 : Dv ((a.1 : Int) - x) := h
 exact Dv.of (e.sub h1) (by omega)
theorem Cg.zero {a : Fp} {x : Int} (h : Cg a x) (e : a = fpR.zero) : Dv x := by
 subst e
 exact ((dv_zero).sub h).of (by show 0 - (((0 : Nat) : Int) - x) = x; omega)
theorem fq_cube (t : Fq) : EC.side fqR fq4 t ≠ fqR.zero := fun h => by
 obtain ⟨x, y⟩ := t
 have cx := cg_self x
 have cy := cg_self y
 generalize (x.1 : Int) = X at cx
 generalize (y.1 : Int) = Y at cy
 have c4 : Cg fp4 4 := cg_self fp4
 have h1 := Cg.zero (((cx.mul ((cx.mul cx).add (cy.mul cy).neg)).add (cy.mul ((cx.mul cy).add (cy.mul cx))).neg).add c4) (congrArg Prod.fst h)
 have h2 := Cg.zero (((cx.mul ((cx.mul cy).add (cy.mul cx))).add (cy.mul ((cx.mul cx).add (cy.mul cy).neg))).add c4) (congrArg Prod.snd h)
 clear cx cy c4 h
 have h8 : Dv (8 : Int) := two_cb (m := (X * X + Y * Y) * (X * X + Y * Y)) (k := 8) (by
  have e := (h1.mulr (X * (X * X + -(Y * Y)) + -(Y * (X * Y + Y * X)) - 4)).add (h2.mulr (X * (X * Y + Y * X) + Y * (X * X + -(Y * Y)) - 4))
  have e2 := e.mulr ((X * X + Y * Y) * (X * X + Y * Y) * (X * X + Y * Y) + 32)
  exact e2.of (by grind))
 exact not_dv (k := 8) (by decide) (by decide +kernel) h8
theorem fq_one : fqR.one ≠ fqR.zero := fun h => fp_one (congrArg Prod.fst h)
theorem fq_two : fqR.add fqR.one fqR.one ≠ fqR.zero := fun h => fp_two (congrArg Prod.fst h)
/-- The second curve. -/
def K2 {I : Fp → Fp} (hI : Inv1 I) : EC.Crv Fq := ⟨fqR, EC.pinv fpR I, fq4, fun a h => EC.pinv_mul fpR I hI fp_norm a h, fq_cube, fq_one, fq_two⟩
end Rg
end Go.Proofs.YtmanelnacifgcaaGreatDoor
end
section
namespace Go.Proofs.YtmanelnacifgcaaGreatDoor
namespace EC
section
variable {β : Type _} (O : Ops β)
def ptog (b : β) (p q : Tri β) : Tri β :=
 let xx := O.mul p.1 q.1
 let yy := O.mul p.2.1 q.2.1
 let zz := O.mul p.2.2 q.2.2
 let xy := osub O (O.mul (O.add p.1 p.2.1) (O.add q.1 q.2.1)) (O.add xx yy)
 let yz := osub O (O.mul (O.add p.2.1 p.2.2) (O.add q.2.1 q.2.2)) (O.add yy zz)
 let xz := osub O (O.mul (O.add p.1 p.2.2) (O.add q.1 q.2.2)) (O.add xx zz)
 let xx3 := o3 O xx
 let xz3 := o3 O (O.mul b xz)
 let zz3 := o3 O (O.mul b zz)
 let less := osub O yy zz3
 let more := O.add yy zz3
 (osub O (O.mul less xy) (O.mul yz xz3), O.add (O.mul less more) (O.mul xx3 xz3), O.add (O.mul more yz) (O.mul xx3 xy))
end
section
variable {α : Type} (C : Crv α)
open Ex in
theorem Crv.ptog_eq (A B : Tri α) : ptog (rops C.R) C.b A B = C.tog A B := by
 obtain ⟨x1, y1, z1⟩ := A
 obtain ⟨x2, y2, z2⟩ := B
 refine Prod.ext ?_ (Prod.ext ?_ ?_)
 ·exact ring_f C.R C.b x1 y1 z1 x2 y2 z2 C.b (ptog exo (v 0) (v 1, v 2, v 3) (v 4, v 5, v 6)).1 (EC.tog exo (v 0) (v 1, v 2, v 3) (v 4, v 5, v 6)).1 (by decide +kernel)
 ·exact ring_f C.R C.b x1 y1 z1 x2 y2 z2 C.b (ptog exo (v 0) (v 1, v 2, v 3) (v 4, v 5, v 6)).2.1 (EC.tog exo (v 0) (v 1, v 2, v 3) (v 4, v 5, v 6)).2.1 (by decide +kernel)
 ·exact ring_f C.R C.b x1 y1 z1 x2 y2 z2 C.b (ptog exo (v 0) (v 1, v 2, v 3) (v 4, v 5, v 6)).2.2 (EC.tog exo (v 0) (v 1, v 2, v 3) (v 4, v 5, v 6)).2.2 (by decide +kernel)
end
section
variable {α : Type} [DecidableEq α] (C : Crv α)
open Ex in
/-! Digits of a word, and six words: what the rounds come to. -/
end
end EC
end Go.Proofs.YtmanelnacifgcaaGreatDoor
end
section
namespace Go.Proofs.YtmanelnacifgcaaGreatDoor
open Go.RowKit
namespace Rg
open NT
def p0 (a : Fp) : Nat := a.1
def q0 (a : Fq) : Nat := a.1.1
def q1 (a : Fq) : Nat := a.2.1
theorem p0_big (a : Fp) : p0 a < big := Nat.lt_trans a.2 pB_lt
theorem q0_big (a : Fq) : q0 a < big := Nat.lt_trans a.1.2 pB_lt
theorem q1_big (a : Fq) : q1 a < big := Nat.lt_trans a.2.2 pB_lt
theorem sub_val {I : Fp → Fp} (hI : Inv1 I) (x y : Fp) : subm pB (p0 x) (p0 y) = p0 (EC.osub (EC.rops (K1 hI).R) x y) := by
 show (x.1 + (pB - y.1 % pB)) % pB = (x.1 + (pB - y.1) % pB) % pB
 rw [Nat.mod_eq_of_lt y.2, Nat.add_mod_mod]
theorem iv_I {I : Fp → Fp} (hI : Inv1 I) {x : Fp} (hx : x ≠ fpR.zero) : invm pB (p0 x) = p0 ((K1 hI).inv x) := invm_eq (I x).2 (congrArg Subtype.val (hI x hx))
theorem va_1 {I : Fp → Fp} (hI : Inv1 I) (x y : Fp) : (p0 x + p0 y) % pB = p0 ((K1 hI).R.add x y) := rfl
theorem vm_1 {I : Fp → Fp} (hI : Inv1 I) (x y : Fp) : p0 x * p0 y % pB = p0 ((K1 hI).R.mul x y) := rfl
theorem vz_1 {I : Fp → Fp} (hI : Inv1 I) : p0 (K1 hI).R.zero = 0 := rfl
theorem fd1 {I : Fp → Fp} (hI : Inv1 I) (g : Nat) : Fd1 g p0 (K1 hI).R.add (EC.osub (EC.rops (K1 hI).R)) (K1 hI).R.mul (K1 hI).inv (K1 hI).R.zero where
 ca := fun x y w hm => by
  have h := addm_any (g := g) pB_ok (p0_big x) (p0_big y) w (hm.one 0 rfl)
  rw [va_1 hI] at h
  exact h
 cs := fun x y w hm => by
  have h := subm_any (g := g) pB_ok (p0_big x) (p0_big y) w (hm.one 0 rfl)
  rw [sub_val hI] at h
  exact h
 cm := fun x y w hm => by
  have h := mulm_any (g := g) pB_ok (p0_big x) (p0_big y) w (hm.one 0 rfl)
  rw [vm_1 hI] at h
  exact h
 cz := fun x w hm => by
  have h := subm_any (g := g) pB_ok (p0_big (K1 hI).R.zero) (p0_big x) w (hm.one 0 rfl)
  rw [sub_val hI, vz_1 hI] at h
  exact h
 ci := fun x w hx hm => by
  have h := inv_ok (g := g) pB_ok (p0_big x) (fp_gcd hx) w hm
  rw [iv_I hI hx] at h
  exact h
theorem cg_pz {a : Fp} {x : Int} (h : Cg a x) : pz x = a.1 := by
 have e := (pz_iff (a.1 : Int) x).2 h
 rw [← e, pz_nat, Nat.mod_eq_of_lt a.2]
theorem fq_zero {a : Fq} (h : a ≠ fqR.zero) : ¬ Dv ((q0 a : Int) * q0 a + (q1 a : Int) * q1 a) := fun hd => h (by
 obtain ⟨h1, h2⟩ := norm0 hd
 have z : ∀ c : Fp, Dv (c.1 : Int) → c = fpR.zero := fun c hc => by
  refine Subtype.ext ?_
  show c.1 = 0
  rcases Nat.eq_zero_or_pos c.1 with h0 | h0
  ·exact h0
  ·exact absurd hc (not_dv h0 c.2)
 exact Prod.ext (z a.1 h1) (z a.2 h2))
theorem cq0 (x : Fq) : Cg x.1 (q0 x : Int) := cg_self x.1
theorem cq1 (x : Fq) : Cg x.2 (q1 x : Int) := cg_self x.2
theorem va0 {I : Fp → Fp} (hI : Inv1 I) (x y : Fq) : pz ((q0 x : Int) + q0 y) = q0 ((K2 hI).R.add x y) := cg_pz ((cq0 x).add (cq0 y))
theorem va1 {I : Fp → Fp} (hI : Inv1 I) (x y : Fq) : pz ((q1 x : Int) + q1 y) = q1 ((K2 hI).R.add x y) := cg_pz ((cq1 x).add (cq1 y))
theorem vs0 {I : Fp → Fp} (hI : Inv1 I) (x y : Fq) : pz ((q0 x : Int) - q0 y) = q0 (EC.osub (EC.rops (K2 hI).R) x y) := by
 rw [Int.sub_eq_add_neg]
 exact cg_pz ((cq0 x).add (cq0 y).neg)
theorem vs1 {I : Fp → Fp} (hI : Inv1 I) (x y : Fq) : pz ((q1 x : Int) - q1 y) = q1 (EC.osub (EC.rops (K2 hI).R) x y) := by
 rw [Int.sub_eq_add_neg]
 exact cg_pz ((cq1 x).add (cq1 y).neg)
theorem vm0 {I : Fp → Fp} (hI : Inv1 I) (x y : Fq) : pz ((q0 x : Int) * q0 y - (q1 x : Int) * q1 y) = q0 ((K2 hI).R.mul x y) := by
 rw [Int.sub_eq_add_neg]
 exact cg_pz (((cq0 x).mul (cq0 y)).add ((cq1 x).mul (cq1 y)).neg)
theorem vm1 {I : Fp → Fp} (hI : Inv1 I) (x y : Fq) : pz ((q0 x : Int) * q1 y + (q1 x : Int) * q0 y) = q1 ((K2 hI).R.mul x y) := cg_pz (((cq0 x).mul (cq1 y)).add ((cq1 x).mul (cq0 y)))
theorem vz0 {I : Fp → Fp} (hI : Inv1 I) : q0 (K2 hI).R.zero = 0 := rfl
theorem vz1 {I : Fp → Fp} (hI : Inv1 I) : q1 (K2 hI).R.zero = 0 := rfl
theorem vn (x : Fq) : Cg (fpR.add (fpR.mul x.1 x.1) (fpR.mul x.2 x.2)) ((q0 x : Int) * q0 x + (q1 x : Int) * q1 x) := ((cq0 x).mul (cq0 x)).add ((cq1 x).mul (cq1 x))
theorem vi {I : Fp → Fp} (hI : Inv1 I) {x : Fq} (hx : x ≠ fqR.zero) : iv ((q0 x : Int) * q0 x + (q1 x : Int) * q1 x) = p0 (I (fpR.add (fpR.mul x.1 x.1) (fpR.mul x.2 x.2))) := by
 have hn : fpR.add (fpR.mul x.1 x.1) (fpR.mul x.2 x.2) ≠ fpR.zero := fun e => fq_zero hx ((vn x).zero e)
 unfold iv
 rw [cg_pz (vn x)]
 exact iv_I hI hn
theorem vi0 {I : Fp → Fp} (hI : Inv1 I) (x : Fq) : pz ((q0 x : Int) * (p0 (I (fpR.add (fpR.mul x.1 x.1) (fpR.mul x.2 x.2))) : Int)) = q0 ((K2 hI).inv x) := cg_pz ((cq0 x).mul (cg_self (I (fpR.add (fpR.mul x.1 x.1) (fpR.mul x.2 x.2)))))
theorem vi1 {I : Fp → Fp} (hI : Inv1 I) (x : Fq) : pz (-(q1 x : Int) * (p0 (I (fpR.add (fpR.mul x.1 x.1) (fpR.mul x.2 x.2))) : Int)) = q1 ((K2 hI).inv x) := by
 rw [Int.neg_mul]
 exact cg_pz ((cq1 x).mul (cg_self (I (fpR.add (fpR.mul x.1 x.1) (fpR.mul x.2 x.2))))).neg
theorem fd2 {I : Fp → Fp} (hI : Inv1 I) : Fd2 q0 q1 (K2 hI).R.add (EC.osub (EC.rops (K2 hI).R)) (K2 hI).R.mul (K2 hI).inv (K2 hI).R.zero where
 ca := fun x y w _ => by
  have h := add2_any (q0 x) (q1 x) (q0 y) (q1 y) (q0_big x) (q1_big x) (q0_big y) (q1_big y) w
  rw [va0 hI, va1 hI] at h
  exact h
 cs := fun x y w _ => by
  have h := sub2_any (q0 x) (q1 x) (q0 y) (q1 y) (q0_big x) (q1_big x) (q0_big y) (q1_big y) w
  rw [vs0 hI, vs1 hI] at h
  exact h
 cm := fun x y w _ => by
  have h := mulT_any (q0 x) (q1 x) (q0 y) (q1 y) (q0_big x) (q1_big x) (q0_big y) (q1_big y) w
  rw [vm0 hI, vm1 hI] at h
  exact h
 cz := fun x w _ => by
  have h := sub2_any (q0 (K2 hI).R.zero) (q1 (K2 hI).R.zero) (q0 x) (q1 x) (q0_big _) (q1_big _) (q0_big x) (q1_big x) w
  rw [vs0 hI, vs1 hI, vz0 hI, vz1 hI] at h
  exact h
 ci := fun x w hx hm => by
  have h := invT_good (q0 x) (q1 x) (q0_big x) (q1_big x) (fq_zero hx) w hm
  rw [vi hI hx, vi0 hI, vi1 hI] at h
  exact h
end Rg
end Go.Proofs.YtmanelnacifgcaaGreatDoor
end
section
namespace Go.Proofs.YtmanelnacifgcaaGreatDoor
open Go.RowKit
namespace Rg
theorem rounds_in {P : Program} {c : Code} {Q : Exit → Act → World → Prop} {n : Nat} {a : Act} {w : World} (h : c.wp P (Exit.then (Code.rounds P c Q n) Q) a w) : Code.rounds P c Q (n + 1) a w := h
theorem Mm.pick {w : World} {l : List (Nat × List Value)} (h : Mm w l) (js : List Nat) {l' : List (Nat × List Value)} (e : js.map (fun i => l[i]?) = l'.map some) (hn : js.Pairwise (· ≠ ·)) : Mm w l' := by
 have hpw := List.pairwise_iff_getElem.1 h.nd
 have hlen : js.length = l'.length := by
  have := congrArg List.length e
  simpa using this
 have at_ : ∀ (k : Nat) (hk : k < l'.length), l[js[k]'(by omega)]? = some l'[k] := fun k hk => by
  have h2 : (js.map (fun i => l[i]?))[k]? = (l'.map some)[k]? := by rw [e]
  rw [List.getElem?_map, List.getElem?_map, List.getElem?_eq_getElem (show k < js.length by omega), List.getElem?_eq_getElem hk] at h2
  simpa using h2
 refine ⟨fun p hp => ?_, List.pairwise_iff_getElem.2 fun i j hi hj hij => ?_⟩
 ·obtain ⟨k, hk, ek⟩ := List.getElem_of_mem hp
  have := at_ k hk
  rw [ek] at this
  exact h.blk p (List.mem_of_getElem? this)
 ·have h1 := at_ i hi
  have h2 := at_ j hj
  have hne : js[i]'(by omega) ≠ js[j]'(by omega) := (List.pairwise_iff_getElem.1 hn) i j (by omega) (by omega) hij
  obtain ⟨q1, e1⟩ := List.getElem?_eq_some_iff.1 h1
  obtain ⟨q2, e2⟩ := List.getElem?_eq_some_iff.1 h2
  rw [← e1, ← e2]
  rcases Nat.lt_or_gt_of_ne hne with hl | hl
  ·exact hpw _ _ q1 q2 hl
  ·exact (hpw _ _ q2 q1 hl).symm
set_option maxHeartbeats 2000000 in
theorem first3_gen (n one four : Nat) (qtr : Nat) (ctr : ∀ w, Calls Tryz.prog 32 #[.string bs_tr] w (Rt w (N qtr))) (co : ∀ w, Calls Tryz.prog 17 #[.int .u64 1] w (Rt w (N one))) (cf : ∀ w, Calls Tryz.prog 17 #[.int .u64 4] w (Rt w (N four))) (cb : ∀ w, Calls Tryz.prog 67 #[] w (Rt w (N n))) (cn : ∀ w, Calls Tryz.prog 12 #[N n] w fun e w' => Below w.heap.size w w' ∧ ∃ g, e = .returned (.tuple #[PT g 0, .int .i64 0]) ∧ w.heap.size ≤ g ∧ g < w'.heap.size ∧ Blk w' g (zT n)) (w : World) :
  Calls Tryz.prog 41 #[] w fun e w' => Below w.heap.size w w' ∧ ∃ g x y, e = .returned (.agg (G1 g (.func (.func 73) #[] #[PT x 0, PT y 0]) one four).toArray) ∧ (∀ q ∈ [(g, zT n), (x, [PT g 0]), (y, zB qtr)], w.heap.size ≤ q.1) ∧ Mm w' [(g, zT n), (x, [PT g 0]), (y, zB qtr)] := by
 have H0 : Hid (_ ∧ _) := ⟨Mm.nil w, Below.refl w.heap.size w⟩
 have CTR : Hid _ := ctr
 clear ctr
 have CO : Hid _ := co
 clear co
 have CF : Hid _ := cf
 clear cf
 have CB : Hid _ := cb
 clear cb
 have CN : Hid _ := cn
 clear cn
 go_enter Tryz.func41, Tryz.ntmps41
 refine wp_seq ?_
 refine zC 1 [.made ([Value.nilFunc, Value.nilFunc, Value.nilFunc, Value.nilFunc, Value.nilFunc] ++ (cel [0, 0] ++ [Value.nilFunc, Value.int .i64 0])) 82] (sB H0) ?ho1 ?he1
 case ho1 => exact am (ex_madeGN rfl) trivial
 intro J w1 l hM hl
 have H1 : Hid (Mm w1 [(J 0, [Value.nilFunc, Value.nilFunc, Value.nilFunc, Value.nilFunc, Value.nilFunc] ++ (cel [0, 0] ++ [Value.nilFunc, Value.int .i64 0]))] ∧ _) := wB H0 hM hl [0]
 have o1_0 := vB H0 hM hl 0
 clear hM hl l
 generalize J 0 = J1_0 at H1 o1_0 ⊢
 clear J
 refine rN (wp_seq ?_)
 refine zC 2 [.call (N n), .born (fun g => .tuple #[PT g 0, .int .i64 0]) (zT n)] (sB H1) ?ho2 ?he2
 case ho2 => exact ak (fun J => ⟨rfl, fun w' h => eC call67 (CB.out w')⟩) (ak (fun J => ⟨rfl, fun w' h => eC call12 (CN.out w')⟩) trivial)
 intro J w2 l hM hl
 have H2 : Hid (Mm w2 ([(J 1, zT n)] ++ _) ∧ _) := wB H1 hM hl [1]
 have o2_1 := vB H1 hM hl 1
 clear hM hl l H1
 generalize J 1 = J2_1 at H2 o2_1 ⊢
 clear J
 refine zH (l := [2, 3, 4, 5, 6, 7]) rfl ?_
 refine zF (d := 4) rfl rfl rfl rfl ?_
 simp only [Act.put, sa, sz, ss]
 refine zF (d := 7) (v := PT J2_1 0) (w' := w2) rfl rfl rfl (by go_simp) ?_
 simp only [Act.put, sa, sz, ss]
 refine zF (d := 8) (v := .int .i64 0) (w' := w2) rfl rfl rfl (by go_simp) ?_
 simp only [Act.put, sa, sz, ss]
 refine zF (d := 1) (v := PT w2.heap.size 0) (w' := w2.alloc (.cells ([Value.pointer none] : List Value).toArray 39)) rfl rfl rfl (ex_madeQ rfl) ?_
 simp only [Act.put, sa, sz, ss]
 have o_Js3 : Hid (w.heap.size ≤ w2.heap.size) := H2.out.2.size
 have H3 : Hid (Mm (w2.alloc (.cells ([Value.pointer none] : List Value).toArray 39)) ((w2.heap.size, [Value.pointer none]) :: [(J2_1, zT n), (J1_0, [Value.nilFunc, Value.nilFunc, Value.nilFunc, Value.nilFunc, Value.nilFunc] ++ (cel [0, 0] ++ [Value.nilFunc, Value.int .i64 0]))]) ∧ Below w.heap.size w (w2.alloc (.cells ([Value.pointer none] : List Value).toArray 39))) := ⟨H2.out.1.alloc _ 39 rfl, H2.out.2.alloc H2.out.2.size _⟩
 clear H2
 generalize hgw : w2.alloc (.cells ([Value.pointer none] : List Value).toArray 39) = w3 at H3 ⊢
 clear hgw
 generalize w2.heap.size = Js3 at o_Js3 H3 ⊢
 refine sG rfl (fun h => ex_storeQ h 0 rfl rfl rfl rfl (Nat.le_of_ble_eq_true rfl)) 0 [(_, [PT J2_1 0]), _, _] H3 o_Js3 fun w4 H4 => ?_
 clear H3
 refine zF (d := 2) rfl rfl rfl rfl ?_
 simp only [Act.put, sa, sz, ss]
 refine zE (zA (wp_seq ?_))
 refine zC 3 [.call (N qtr), .made zero6 24, .laid 1 zero6 (zB qtr)] (sB H4) ?ho3 ?he3 (hL := ?hL3)
 case hL3 => exact ⟨⟨_, rfl⟩, trivial⟩
 case ho3 => exact ac (fun w' h => eC call32 (CTR.out w')) (am (zG rfl) (ak (fun J => ⟨rfl, rfl, rfl, fun w' h => zK h rfl rfl rfl⟩) trivial))
 intro J w5 l hM hl
 have H5 : Hid (Mm w5 ([(J 1, zB qtr)] ++ _) ∧ _) := wB H4 hM hl [1]
 have o3_1 := vB H4 hM hl 1
 clear hM hl l H4
 generalize J 1 = J3_1 at H5 o3_1 ⊢
 clear J
 refine rN (wp_seq ?_)
 refine zS 13 [.q (PT J2_1 0), .q (.func (.func 68) #[PT J2_1 0] #[]), .q (PT J2_1 0), .q (.func (.func 69) #[PT J2_1 0] #[]), .q (PT J2_1 0), .q (.func (.func 70) #[PT J2_1 0] #[]), .q (PT J2_1 0), .q (.func (.func 71) #[PT J2_1 0] #[]), .call (N one), .q (.agg ([Value.func (.func 68) #[PT J2_1 0] #[], Value.func (.func 69) #[PT J2_1 0] #[], Value.func (.func 70) #[PT J2_1 0] #[], Value.func (.func 71) #[PT J2_1 0] #[], Value.func (.func 72) #[] #[]] ++ cel [one]).toArray), .call (N four), .q (.func (.func 73) #[] #[PT Js3 0, PT J3_1 0]), .q (.agg (G1 J2_1 (.func (.func 73) #[] #[PT Js3 0, PT J3_1 0]) one four).toArray)] H5 ?ho4 ?he4
 case ho4 => exact bC 1 Ai39 (ak (fun J => ⟨rfl, fun w' _ => ex_makeM rfl (mpn rfl)⟩) (bC 1 Ai39 (ak (fun J => ⟨rfl, fun w' _ => ex_makeM rfl (mpn rfl)⟩) (bC 1 Ai39 (ak (fun J => ⟨rfl, fun w' _ => ex_makeM rfl (mpn rfl)⟩) (bC 1 Ai39 (ak (fun J => ⟨rfl, fun w' _ => ex_makeM rfl (mpn rfl)⟩) (ac (fun w' h => eC call17 (CO.out w')) (ak (fun J => ⟨rfl, fun w' _ => ex_buildFN rfl rfl rfl rfl rfl rfl rfl⟩) (ac (fun w' h => eC call17 (CF.out w')) (ak (fun J => ⟨rfl, fun w' _ => ex_makeC rfl (mpn rfl)⟩) (ak (fun J => ⟨rfl, fun w' _ => ex_buildGN rfl rfl rfl rfl rfl⟩) trivial))))))))))))
 intro _ w6 H6
 clear H5
 refine zH (l := [13]) rfl ?_
 refine sG rfl (fun h => ex_storeT (vs := G1 J2_1 (.func (.func 73) #[] #[PT Js3 0, PT J3_1 0]) one four) h 3 rfl rfl rfl rfl As82 rfl (Nat.le_of_ble_eq_true rfl)) 3 [_, _, _, (_, G1 J2_1 (.func (.func 73) #[] #[PT Js3 0, PT J3_1 0]) one four)] H6 o1_0 fun w7 H7 => ?_
 clear H6
 refine zE (zA (wp_ret ?_))
 repeat (first | refine zJ ?_ | refine zI ?_)
 have hf0 := var_T H7.out.1 3 rfl Ai82 As82 rfl
 refine bodyPost_ret (v := .agg (G1 J2_1 (.func (.func 73) #[] #[PT Js3 0, PT J3_1 0]) one four).toArray) (by simp [results, Tryz.results41, asAddr, hf0]) rfl ?_
 refine ⟨H7.out.2, J2_1, Js3, J3_1, rfl, fun q hq => ?_, H7.out.1.pick [2, 1, 0] rfl (by decide)⟩
 simp only [List.mem_cons, List.not_mem_nil, or_false] at hq
 rcases hq with rfl | rfl | rfl
 ·exact o2_1.out
 ·exact o_Js3.out
 ·exact o3_1.out
set_option maxHeartbeats 2000000 in
theorem second3_gen (one four : Nat) (qtx1 qty0 qty1 : Nat) (ctx1 : ∀ w, Calls Tryz.prog 32 #[.string bs_tx1] w (Rt w (N qtx1))) (cty0 : ∀ w, Calls Tryz.prog 32 #[.string bs_ty0] w (Rt w (N qty0))) (cty1 : ∀ w, Calls Tryz.prog 32 #[.string bs_ty1] w (Rt w (N qty1))) (co : ∀ w, Calls Tryz.prog 17 #[.int .u64 1] w (Rt w (N one))) (cf : ∀ w, Calls Tryz.prog 17 #[.int .u64 4] w (Rt w (N four))) (w : World) :
  Calls Tryz.prog 43 #[] w fun e w' => Below w.heap.size w w' ∧ ∃ g x, ∃ _y : Nat, e = .returned (.agg (G2 (.func (.func 82) #[] #[PT g 0, PT x 0]) one 0 four four).toArray) ∧ (∀ q ∈ [(g, cel [0, qtx1]), (x, cel [qty0, qty1])], w.heap.size ≤ q.1) ∧ Mm w' [(g, cel [0, qtx1]), (x, cel [qty0, qty1])] := by
 have H0 : Hid (_ ∧ _) := ⟨Mm.nil w, Below.refl w.heap.size w⟩
 have CTX1 : Hid _ := ctx1
 clear ctx1
 have CTY0 : Hid _ := cty0
 clear cty0
 have CTY1 : Hid _ := cty1
 clear cty1
 have CO : Hid _ := co
 clear co
 have CF : Hid _ := cf
 clear cf
 go_enter Tryz.func43, Tryz.ntmps43
 refine wp_seq ?_
 refine zC 1 [.made ([Value.nilFunc, Value.nilFunc, Value.nilFunc, Value.nilFunc, Value.nilFunc] ++ (cel [0, 0, 0, 0] ++ [Value.nilFunc, Value.int .i64 0])) 93] (sB H0) ?ho1 ?he1
 case ho1 => exact am (ex_madeGE rfl) trivial
 intro J w1 l hM hl
 have H1 : Hid (Mm w1 [(J 0, [Value.nilFunc, Value.nilFunc, Value.nilFunc, Value.nilFunc, Value.nilFunc] ++ (cel [0, 0, 0, 0] ++ [Value.nilFunc, Value.int .i64 0]))] ∧ _) := wB H0 hM hl [0]
 have o1_0 := vB H0 hM hl 0
 clear hM hl l
 generalize J 0 = J1_0 at H1 o1_0 ⊢
 clear J
 refine rN (wp_seq ?_)
 refine zC 10 [.q (N 0), .call (N qtx1), .q (V [0, qtx1]), .call (N qty0), .call (N qty1), .q (V [qty0, qty1]), .made (cel [0, 0]) 33, .made (cel [0, 0]) 33, .laid 6 (cel [0, 0]) (cel [0, qtx1]), .laid 7 (cel [0, 0]) (cel [qty0, qty1])] (sB H1) ?ho2 ?he2 (hL := ?hL2)
 case hL2 => exact ⟨⟨_, rfl⟩, ⟨_, rfl⟩, trivial⟩
 case ho2 => exact ak (by refine fun J => ⟨rfl, fun w' h => ?_⟩; clear h; exact ex_zero6 rfl) (ac (fun w' h => eC call32 (CTX1.out w')) (ak (fun J => ⟨rfl, fun w' _ => ex_buildE2 rfl rfl rfl⟩) (ac (fun w' h => eC call32 (CTY0.out w')) (ac (fun w' h => eC call32 (CTY1.out w')) (ak (fun J => ⟨rfl, fun w' _ => ex_buildE2 rfl rfl rfl⟩) (am (ex_madeE2 rfl) (am (ex_madeE2 rfl) (ak (fun J => ⟨rfl, rfl, rfl, fun w' h => ex_laidA h rfl As33 rfl rfl rfl⟩) (ak (fun J => ⟨rfl, rfl, rfl, fun w' h => ex_laidA h rfl As33 rfl rfl rfl⟩) trivial)))))))))
 intro J w2 l hM hl
 have H2 : Hid (Mm w2 ([(J 6, cel [0, qtx1]), (J 7, cel [qty0, qty1])] ++ _) ∧ _) := wB H1 hM hl [6, 7]
 have o2_6 := vB H1 hM hl 6
 have o2_7 := vB H1 hM hl 7
 clear hM hl l H1
 generalize J 6 = J2_6 at H2 o2_6 ⊢
 generalize J 7 = J2_7 at H2 o2_7 ⊢
 clear J
 refine rN (wp_seq ?_)
 refine zD 8 [.call (N one), .q (V [one, 0]), .q (.agg ([Value.func (.func 77) #[] #[], Value.func (.func 78) #[] #[], Value.func (.func 79) #[] #[], Value.func (.func 80) #[] #[], Value.func (.func 81) #[] #[]] ++ cel [one, 0]).toArray), .call (N four), .call (N four), .q (V [four, four]), .q (.func (.func 82) #[] #[PT J2_6 0, PT J2_7 0]), .q (.agg (G2 (.func (.func 82) #[] #[PT J2_6 0, PT J2_7 0]) one 0 four four).toArray)] H2 ?ho3 ?he3
 case ho3 => exact ac (fun w' h => eC call17 (CO.out w')) (ak (fun J => ⟨rfl, fun w' _ => ex_buildE2a rfl rfl⟩) (ak (fun J => ⟨rfl, fun w' _ => ex_buildFE rfl rfl rfl rfl rfl rfl rfl⟩) (ac (fun w' h => eC call17 (CF.out w')) (ac (fun w' h => eC call17 (CF.out w')) (ak (fun J => ⟨rfl, fun w' _ => ex_buildE2 rfl rfl rfl⟩) (ak (fun J => ⟨rfl, fun w' _ => ex_makeC rfl (mpn rfl)⟩) (ak (fun J => ⟨rfl, fun w' _ => ex_buildGE rfl rfl rfl rfl rfl⟩) trivial)))))))
 intro _ w3 H3
 clear H2
 refine zH (l := [8]) rfl ?_
 refine sG rfl (fun h => ex_storeT (vs := G2 (.func (.func 82) #[] #[PT J2_6 0, PT J2_7 0]) one 0 four four) h 2 rfl rfl rfl rfl As93 rfl (Nat.le_of_ble_eq_true rfl)) 2 [_, _, (_, G2 (.func (.func 82) #[] #[PT J2_6 0, PT J2_7 0]) one 0 four four)] H3 o1_0 fun w4 H4 => ?_
 clear H3
 refine zE (zA (wp_ret ?_))
 repeat (first | refine zJ ?_ | refine zI ?_)
 have hf0 := var_T H4.out.1 2 rfl Ai93 As93 rfl
 refine bodyPost_ret (v := .agg (G2 (.func (.func 82) #[] #[PT J2_6 0, PT J2_7 0]) one 0 four four).toArray) (by simp [results, Tryz.results43, asAddr, hf0]) rfl ?_
 refine ⟨H4.out.2, J2_6, J2_7, 0, rfl, fun q hq => ?_, H4.out.1.pick [0, 1] rfl (by decide)⟩
 simp only [List.mem_cons, List.not_mem_nil, or_false] at hq
 rcases hq with rfl | rfl
 ·exact o2_6.out
 ·exact o2_7.out
end Rg
end Go.Proofs.YtmanelnacifgcaaGreatDoor
end
