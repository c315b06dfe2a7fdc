/- Texts of the proof, joined. -/
import Derived.Test.YtdbejmgomajjmaaGreatDoorP5
section
namespace Go.Proofs.YtdbejmgomajjmaaGreatDoor
open Go.RowKit
namespace Rg
theorem Mm.over {u w : World} {l : List (Nat × List Value)} {g : Nat} {cs : List Value} (h0 : Mm u l) (hge : u.heap.size ≤ g) (h1 : Mm w l) (hb : Blk w g cs) (hlt : g < w.heap.size) : Mm w ((g, cs) :: l) :=
  h1.cons hb hlt (fun p hp => by have := (h0.blk p hp).1; omega)
theorem ex_madeF {ρ : Operand → Value} {o : Oper} {w : World} (ho : o.op = .alloc 100) :
    (execOp ρ o).run Tryz.prog w = .ok (.value (.pointer (some ⟨w.heap.size, 0, none⟩))) (w.alloc (.cells [.pointer none].toArray 100)) := by
  simp only [execOp, ho]
  go_simp
theorem ex_buildF {ρ : Operand → Value} {o : Oper} {x : Operand} {g : Nat} {w : World} (ho : o.op = .build 100 #[(0, x)]) (hx : ρ x = PT g 0) : (execOp ρ o).run Tryz.prog w = .ok (.value (.agg #[PT g 0])) w := by
  simp only [execOp, ho]
  go_simp
theorem ex_storeF {ρ : Operand → Value} {o : Oper} {x y : Operand} {g b : Nat} {cs : List Value} {w : World} {l : List (Nat × List Value)} (h : Mm w l) (k : Nat) (hk : l[k]? = some (g, cs)) (ho : o.op = .store 100 x y) (hx : ρ x = PT g 0) (hy : ρ y = .agg #[PT b 0]) (hc : 0 < cs.length) :
    (execOp ρ o).run Tryz.prog w = .ok .skip (w.setCells g 0 [PT b 0]) := by
  have hm := List.mem_of_getElem? hk
  have e : cs[0]? = some (cs[0]'hc) := List.getElem?_eq_getElem _
  have c0 := h.cell hm e
  have f0 := h.free hm e
  clear h hm hk
  simp only [execOp, ho, hx, hy]
  go_simp
  simp [World.setCells]
set_option maxHeartbeats 1000000 in
set_option maxRecDepth 100000 in
theorem great_gen (n : Nat)
    (c0 : ∀ w, Calls Tryz.prog 99 #[] w fun e w' => e = .returned (N n) ∧ Below w.heap.size w w')
    (c1 : ∀ w, Calls Tryz.prog 98 #[N n] w fun e w' => Below w.heap.size w w' ∧ ∃ g, e = .returned (.tuple #[PT g 0, .int .i64 0]) ∧ w.heap.size ≤ g ∧ g < w'.heap.size ∧ Blk w' g (modc n)) (w : World) :
    Calls Tryz.prog 61 #[] w fun e w' => Below w.heap.size w w' ∧ ∃ g, e = .returned (.agg #[PT g 0]) ∧ w.heap.size ≤ g ∧ g < w'.heap.size ∧ Blk w' g (modc n) := by
  have H0 : Hid (_ ∧ _) := ⟨Mm.nil w, Below.refl w.heap.size w⟩
  have C0 : Hid _ := c0
  have C1 : Hid _ := c1
  clear c0 c1
  go_enter Tryz.func61, Tryz.ntmps61
  refine wp_seq ?_
  refine walk_seqA 1 [.made [.pointer none] 100] (sB H0) ?ho1 ?he1
  case ho1 => exact ak (fun γ => ⟨rfl, fun w' => ex_madeF rfl⟩) trivial
  intro γ w1 l hM hl
  have H1 : Hid (Mm w1 [(γ 0, [.pointer none])] ∧ _) := growB H0 hM (Nat.le_refl _) hl [0] rfl (by decide)
  have o1_0 := ownB H0 hM (Nat.le_refl _) hl (i := 0) rfl
  clear hM hl l
  generalize γ 0 = γ1_0 at H1 o1_0 ⊢
  clear γ
  refine rest0 rfl (then_normal (wp_seq ?_))
  refine walk_seqA 2 [.call (N n), .born (fun g => .tuple #[PT g 0, .int .i64 0]) (modc n)] (sB H1) ?ho2 ?he2
  case ho2 => exact ak (fun γ => ⟨rfl, fun w' h => ⟨99, #[], exec_call rfl call99 rfl (mpn rfl), C0.out w'⟩⟩) (ak (fun γ => ⟨rfl, fun w' h => ⟨98, #[N n], exec_call rfl call98 rfl (mpn rfl), C1.out w'⟩⟩) trivial)
  intro γ w2 l hM hl
  have H2 : Hid (Mm w2 [(γ 1, modc n), (γ1_0, [.pointer none])] ∧ _) := growB H1 hM (Nat.le_refl _) hl [1] rfl (by decide)
  have o2_1 := ownB H1 hM (Nat.le_refl _) hl (i := 1) rfl
  clear hM hl l H1
  generalize γ 1 = γ2_1 at H2 o2_1 ⊢
  clear γ
  refine rest_at (l := [2, 3, 4, 5, 6]) rfl ?_
  refine rest_set (d := 3) rfl rfl rfl rfl ?_
  simp only [Act.put, sa, sz, ss]
  refine rest_set (d := 6) (v := PT γ2_1 0) (w' := w2) rfl rfl rfl (by go_simp) ?_
  simp only [Act.put, sa, sz, ss]
  refine rest_set (d := 7) (v := .int .i64 0) (w' := w2) rfl rfl rfl (by go_simp) ?_
  simp only [Act.put, sa, sz, ss]
  refine rest_set (d := 1) rfl rfl rfl rfl ?_
  simp only [Act.put, sa, sz, ss]
  refine rest_set (d := 2) rfl rfl rfl rfl ?_
  simp only [Act.put, sa, sz, ss]
  refine rest_nil (then_normal (wp_seq ?_))
  refine walk_seqB 2 [.quiet (PT γ2_1 0), .quiet (.agg #[PT γ2_1 0])] H2 ?ho3 ?he3
  case ho3 => exact ak (fun _ => ⟨rfl, fun _ _ => rfl⟩) (ak (fun γ => ⟨rfl, fun w' _ => ex_buildF rfl rfl⟩) trivial)
  intro _ w3 H3
  clear H2
  refine rest_at (l := [2]) rfl ?_
  refine rest_store rfl rfl rfl (ex_storeF H3.out.1 1 rfl rfl rfl rfl (Nat.le_of_ble_eq_true rfl)) ?_
  have H4 : Hid (Mm (w3.setCells γ1_0 0 [PT γ2_1 0]) [(γ2_1, modc n), (γ1_0, [PT γ2_1 0])] ∧ Below w.heap.size w (w3.setCells γ1_0 0 [PT γ2_1 0])) := ⟨H3.out.1.put 1 (off := 0) (vs := [PT γ2_1 0]) rfl (Nat.le_of_ble_eq_true rfl), below_setCells _ o1_0.out _ _ _ H3.out.2⟩
  clear H3
  generalize hgw : World.setCells _ _ _ _ = w4 at H4 ⊢
  clear hgw
  refine rest_nil (then_normal (wp_ret ?_))
  repeat (first | refine then_ret ?_ | refine block_ret ?_)
  have hf0 := H4.out.1.get 1 rfl 0 rfl
  refine bodyPost_ret (v := .agg #[PT γ2_1 0]) (by simp [results, Tryz.results61, go_sem, *]) rfl ?_
  exact ⟨H4.out.2, γ2_1, rfl, o2_1.out, H4.out.1.lt (List.mem_of_getElem? (i := 0) rfl), (H4.out.1.blk _ (List.mem_of_getElem? (i := 0) rfl)).2⟩
set_option maxHeartbeats 1000000 in
set_option maxRecDepth 100000 in
theorem rest_gen (g n o s u0 u1 d x r : Nat) (cx : Bool)
    (c0 : ∀ w, Mm w [(g, modx n o s)] → Calls Tryz.prog 217 #[PT g 0] w fun e w' => e = .returned (N n) ∧ Below w.heap.size w w')
    (c1 : ∀ w, Calls Tryz.prog 208 #[N n, .int .i64 1] w fun e w' => e = .returned (N d) ∧ Below w.heap.size w w')
    (c2 : ∀ w, Calls Tryz.prog 170 #[N u1, N d] w fun e w' => e = .returned (.tuple #[N x, .bool cx]) ∧ Below w.heap.size w w')
    (c3 : ∀ w, Mm w [(g, modx n o s)] → Calls Tryz.prog 218 #[PT g 0, N u0, N x] w fun e w' => e = .returned (N r) ∧ Below w.heap.size w w') (w : World) (hm : Mm w [(g, modx n o s)]) :
    Calls Tryz.prog 193 #[.agg #[PT g 0], V [u0, u1]] w fun e w' => e = .returned (N r) ∧ Below w.heap.size w w' := by
  have H0 : Hid (_ ∧ _) := ⟨hm, Below.refl w.heap.size w⟩
  clear hm
  have C0 : Hid _ := c0
  have C1 : Hid _ := c1
  have C2 : Hid _ := c2
  have C3 : Hid _ := c3
  clear c0 c1 c2 c3
  go_enter Tryz.func193, Tryz.ntmps193
  refine wp_seq ?_
  refine walk_seqA 3 [.made [PT g 0] 100, .made (cel [u0, u1]) 149, .made zero6 24] (sB H0) ?ho1 ?he1
  case ho1 => exact ak (fun γ => ⟨rfl, fun w' => ex_boxF rfl rfl⟩) (ak (fun γ => ⟨rfl, fun w' => ex_boxA rfl rfl⟩) (ak (fun γ => ⟨rfl, fun w' => exec_made6 rfl⟩) trivial))
  intro γ w1 l hM hl
  have H1 : Hid (Mm w1 [(γ 0, [PT g 0]), (γ 1, cel [u0, u1]), (γ 2, zero6), (g, modx n o s)] ∧ _) := growB H0 hM (Nat.le_refl _) hl [0, 1, 2] rfl (by decide)
  have o1_0 := ownB H0 hM (Nat.le_refl _) hl (i := 0) rfl
  have o1_1 := ownB H0 hM (Nat.le_refl _) hl (i := 1) rfl
  have o1_2 := ownB H0 hM (Nat.le_refl _) hl (i := 2) rfl
  clear hM hl l
  generalize γ 0 = γ1_0 at H1 o1_0 ⊢
  generalize γ 1 = γ1_1 at H1 o1_1 ⊢
  generalize γ 2 = γ1_2 at H1 o1_2 ⊢
  clear γ
  refine rest0 rfl (then_normal (wp_seq ?_))
  refine walk_anyA 13 [.quiet (PT γ1_1 6), .quiet (N u1), .quiet (PT γ1_0 0), .quiet (PT g 0), .call (N n), .call (N d), .call (.tuple #[N x, .bool cx]), .quiet (.tuple #[N x, .bool cx]), .quiet (N x), .quiet (.bool cx), .made zero6 24, .laid 10 zero6 (cells6 x), .quiet (.bool cx)] (sB H1) ?ho2 ?he2 (hL := ?hL2)
  case hL2 => exact ⟨⟨_, rfl⟩, trivial⟩
  case ho2 => exact ak (by refine fun γ => ⟨rfl, fun w' h => ?_⟩; clear h; go_simp) (ak (fun γ => ⟨rfl, fun w' h => ex_loadN (i := 1) h 1 rfl rfl rfl rfl⟩) (ak (by refine fun γ => ⟨rfl, fun w' h => ?_⟩; clear h; go_simp) (ak (fun γ => ⟨rfl, fun w' h => ex_loadQ h 0 rfl rfl rfl rfl⟩) (ak (fun γ => ⟨rfl, fun w' h => ⟨217, #[PT g 0], exec_call rfl call217 rfl (mpn rfl), C0.out w' (h.one 3 rfl)⟩⟩) (ak (fun γ => ⟨rfl, fun w' h => ⟨208, #[N n, .int .i64 1], exec_call rfl call208 rfl (mpn rfl), C1.out w'⟩⟩) (ak (fun γ => ⟨rfl, fun w' h => ⟨170, #[N u1, N d], exec_call rfl call170 rfl (mpn rfl), C2.out w'⟩⟩) (ak (fun _ => ⟨rfl, fun _ _ => rfl⟩) (ak (by refine fun γ => ⟨rfl, fun w' h => ?_⟩; clear h; go_simp) (ak (by refine fun γ => ⟨rfl, fun w' h => ?_⟩; clear h; go_simp) (ak (fun γ => ⟨rfl, fun w' => exec_made6 rfl⟩) (ak (fun γ => ⟨rfl, rfl, rfl, fun w' h => exec_laid6 h rfl rfl rfl⟩) (ak (fun _ => ⟨rfl, fun _ _ => rfl⟩) trivial))))))))))))
  intro γ w2 l hM hl
  have H2 : Hid (Mm w2 [(γ 10, cells6 x), (γ1_0, [PT g 0]), (γ1_1, cel [u0, u1]), (γ1_2, zero6), (g, modx n o s)] ∧ _) := growB H1 hM (Nat.le_refl _) hl [10] rfl (by decide)
  have o2_10 := ownB H1 hM (Nat.le_refl _) hl (i := 10) rfl
  clear hM hl l H1
  generalize γ 10 = γ2_10 at H2 o2_10 ⊢
  clear γ
  refine rest0 rfl (then_normal (wp_seq ?_))
  refine walk_seqB 6 [.quiet (PT γ1_0 0), .quiet (PT g 0), .quiet (PT γ1_1 0), .quiet (N u0), .quiet (N x), .call (N r)] H2 ?ho3 ?he3
  case ho3 => exact ak (by refine fun γ => ⟨rfl, fun w' h => ?_⟩; clear h; go_simp) (ak (fun γ => ⟨rfl, fun w' h => ex_loadQ h 1 rfl rfl rfl rfl⟩) (ak (by refine fun γ => ⟨rfl, fun w' h => ?_⟩; clear h; go_simp) (ak (fun γ => ⟨rfl, fun w' h => ex_loadN (i := 0) h 2 rfl rfl rfl rfl⟩) (ak (fun γ => ⟨rfl, fun w' h => ex_load6 h 0 rfl rfl rfl rfl⟩) (ak (fun γ => ⟨rfl, fun w' h => ⟨218, #[PT g 0, N u0, N x], exec_call rfl call218 rfl (mpn rfl), C3.out w' (h.one 4 rfl)⟩⟩) trivial)))))
  intro _ w3 H3
  clear H2
  refine rest_at (l := [6]) rfl ?_
  refine rest_store rfl rfl rfl (ex_store6 H3.out.1 3 rfl rfl rfl rfl (Nat.le_of_ble_eq_true rfl)) ?_
  have H4 : Hid (Mm (w3.setCells γ1_2 0 (cells6 r)) [(γ2_10, cells6 x), (γ1_0, [PT g 0]), (γ1_1, cel [u0, u1]), (γ1_2, cells6 r), (g, modx n o s)] ∧ Below w.heap.size w (w3.setCells γ1_2 0 (cells6 r))) := ⟨H3.out.1.put 3 (off := 0) (vs := cells6 r) rfl (Nat.le_of_ble_eq_true rfl), below_setCells _ o1_2.out _ _ _ H3.out.2⟩
  clear H3
  generalize hgw : World.setCells _ _ _ _ = w4 at H4 ⊢
  clear hgw
  refine rest_nil (then_normal (wp_ret ?_))
  repeat (first | refine then_ret ?_ | refine block_ret ?_)
  have c0 := H4.out.1.get 3 rfl 0 rfl
  have c1 := H4.out.1.get 3 rfl 1 rfl
  have c2 := H4.out.1.get 3 rfl 2 rfl
  have c3 := H4.out.1.get 3 rfl 3 rfl
  have c4 := H4.out.1.get 3 rfl 4 rfl
  have c5 := H4.out.1.get 3 rfl 5 rfl
  refine bodyPost_ret (v := N r) (by simp [results, Tryz.results193, go_sem, *]) rfl ?_
  exact ⟨rfl, H4.out.2⟩
set_option maxHeartbeats 1000000 in
set_option maxRecDepth 100000 in
theorem times2_gen (a0 a1 b0 b1 ta tb f0 f1 g0 g1 t0 t1 x0 x1 y0 y1 z0 z1 : Nat)
    (c0 : ∀ w, Calls Tryz.prog 207 #[N a0, N b0] w fun e w' => e = .returned (V [f0, f1]) ∧ Below w.heap.size w w')
    (c1 : ∀ w, Calls Tryz.prog 207 #[N a1, N b1] w fun e w' => e = .returned (V [g0, g1]) ∧ Below w.heap.size w w')
    (c2 : ∀ w, Calls Tryz.prog 215 #[N a0, N a1] w fun e w' => e = .returned (N ta) ∧ Below w.heap.size w w')
    (c3 : ∀ w, Calls Tryz.prog 215 #[N b0, N b1] w fun e w' => e = .returned (N tb) ∧ Below w.heap.size w w')
    (c4 : ∀ w, Calls Tryz.prog 207 #[N ta, N tb] w fun e w' => e = .returned (V [t0, t1]) ∧ Below w.heap.size w w')
    (c5 : ∀ w, Calls Tryz.prog 191 #[V [f0, f1], V [g0, g1]] w fun e w' => e = .returned (V [x0, x1]) ∧ Below w.heap.size w w')
    (c6 : ∀ w, Calls Tryz.prog 191 #[V [t0, t1], V [f0, f1]] w fun e w' => e = .returned (V [y0, y1]) ∧ Below w.heap.size w w')
    (c7 : ∀ w, Calls Tryz.prog 191 #[V [y0, y1], V [g0, g1]] w fun e w' => e = .returned (V [z0, z1]) ∧ Below w.heap.size w w') (w : World) :
    Calls Tryz.prog 188 #[V [a0, a1], V [b0, b1]] w fun e w' => e = .returned (V [x0, x1, z0, z1]) ∧ Below w.heap.size w w' := by
  have H0 : Hid (_ ∧ _) := ⟨Mm.nil w, Below.refl w.heap.size w⟩
  have C0 : Hid _ := c0
  have C1 : Hid _ := c1
  have C2 : Hid _ := c2
  have C3 : Hid _ := c3
  have C4 : Hid _ := c4
  have C5 : Hid _ := c5
  have C6 : Hid _ := c6
  have C7 : Hid _ := c7
  clear c0 c1 c2 c3 c4 c5 c6 c7
  go_enter Tryz.func188, Tryz.ntmps188
  refine wp_seq ?_
  refine walk_seqA 3 [.made (cel [a0, a1]) 28, .made (cel [b0, b1]) 28, .made (cel [0, 0, 0, 0]) 151] (sB H0) ?ho1 ?he1
  case ho1 => exact ak (fun γ => ⟨rfl, fun w' => ex_boxA rfl rfl⟩) (ak (fun γ => ⟨rfl, fun w' => ex_boxA rfl rfl⟩) (ak (fun γ => ⟨rfl, fun w' => ex_madeW2 rfl⟩) trivial))
  intro γ w1 l hM hl
  have H1 : Hid (Mm w1 [(γ 0, cel [a0, a1]), (γ 1, cel [b0, b1]), (γ 2, cel [0, 0, 0, 0])] ∧ _) := growB H0 hM (Nat.le_refl _) hl [0, 1, 2] rfl (by decide)
  have o1_0 := ownB H0 hM (Nat.le_refl _) hl (i := 0) rfl
  have o1_1 := ownB H0 hM (Nat.le_refl _) hl (i := 1) rfl
  have o1_2 := ownB H0 hM (Nat.le_refl _) hl (i := 2) rfl
  clear hM hl l
  generalize γ 0 = γ1_0 at H1 o1_0 ⊢
  generalize γ 1 = γ1_1 at H1 o1_1 ⊢
  generalize γ 2 = γ1_2 at H1 o1_2 ⊢
  clear γ
  refine rest0 rfl (then_normal (wp_seq ?_))
  refine walk_anyA 14 [.quiet (PT γ1_0 0), .quiet (N a0), .quiet (PT γ1_1 0), .quiet (N b0), .call (V [f0, f1]), .quiet (PT γ1_0 6), .quiet (N a1), .quiet (PT γ1_1 6), .quiet (N b1), .call (V [g0, g1]), .made (cel [0, 0]) 149, .made (cel [0, 0]) 149, .laid 10 (cel [0, 0]) (cel [f0, f1]), .laid 11 (cel [0, 0]) (cel [g0, g1])] (sB H1) ?ho2 ?he2 (hL := ?hL2)
  case hL2 => exact ⟨⟨_, rfl⟩, ⟨_, rfl⟩, trivial⟩
  case ho2 => exact ak (by refine fun γ => ⟨rfl, fun w' h => ?_⟩; clear h; go_simp) (ak (fun γ => ⟨rfl, fun w' h => ex_loadN (i := 0) h 0 rfl rfl rfl rfl⟩) (ak (by refine fun γ => ⟨rfl, fun w' h => ?_⟩; clear h; go_simp) (ak (fun γ => ⟨rfl, fun w' h => ex_loadN (i := 0) h 1 rfl rfl rfl rfl⟩) (ak (fun γ => ⟨rfl, fun w' h => ⟨207, #[N a0, N b0], exec_call rfl call207 rfl (mpn rfl), C0.out w'⟩⟩) (ak (by refine fun γ => ⟨rfl, fun w' h => ?_⟩; clear h; go_simp) (ak (fun γ => ⟨rfl, fun w' h => ex_loadN (i := 1) h 0 rfl rfl rfl rfl⟩) (ak (by refine fun γ => ⟨rfl, fun w' h => ?_⟩; clear h; go_simp) (ak (fun γ => ⟨rfl, fun w' h => ex_loadN (i := 1) h 1 rfl rfl rfl rfl⟩) (ak (fun γ => ⟨rfl, fun w' h => ⟨207, #[N a1, N b1], exec_call rfl call207 rfl (mpn rfl), C1.out w'⟩⟩) (ak (fun γ => ⟨rfl, fun w' => ex_madeWD rfl⟩) (ak (fun γ => ⟨rfl, fun w' => ex_madeWD rfl⟩) (ak (fun γ => ⟨rfl, rfl, rfl, fun w' h => ex_laidA h rfl Tryz.sizeOf149 rfl rfl rfl⟩) (ak (fun γ => ⟨rfl, rfl, rfl, fun w' h => ex_laidA h rfl Tryz.sizeOf149 rfl rfl rfl⟩) trivial)))))))))))))
  intro γ w2 l hM hl
  have H2 : Hid (Mm w2 [(γ 10, cel [f0, f1]), (γ 11, cel [g0, g1]), (γ1_0, cel [a0, a1]), (γ1_1, cel [b0, b1]), (γ1_2, cel [0, 0, 0, 0])] ∧ _) := growB H1 hM (Nat.le_refl _) hl [10, 11] rfl (by decide)
  have o2_10 := ownB H1 hM (Nat.le_refl _) hl (i := 10) rfl
  have o2_11 := ownB H1 hM (Nat.le_refl _) hl (i := 11) rfl
  clear hM hl l H1
  generalize γ 10 = γ2_10 at H2 o2_10 ⊢
  generalize γ 11 = γ2_11 at H2 o2_11 ⊢
  clear γ
  refine rest0 rfl (then_normal (wp_seq ?_))
  refine walk_anyA 13 [.quiet (PT γ1_0 0), .quiet (N a0), .quiet (PT γ1_0 6), .quiet (N a1), .call (N ta), .quiet (PT γ1_1 0), .quiet (N b0), .quiet (PT γ1_1 6), .quiet (N b1), .call (N tb), .call (V [t0, t1]), .made (cel [0, 0]) 149, .laid 11 (cel [0, 0]) (cel [t0, t1])] (sB H2) ?ho3 ?he3 (hL := ?hL3)
  case hL3 => exact ⟨⟨_, rfl⟩, trivial⟩
  case ho3 => exact ak (by refine fun γ => ⟨rfl, fun w' h => ?_⟩; clear h; go_simp) (ak (fun γ => ⟨rfl, fun w' h => ex_loadN (i := 0) h 2 rfl rfl rfl rfl⟩) (ak (by refine fun γ => ⟨rfl, fun w' h => ?_⟩; clear h; go_simp) (ak (fun γ => ⟨rfl, fun w' h => ex_loadN (i := 1) h 2 rfl rfl rfl rfl⟩) (ak (fun γ => ⟨rfl, fun w' h => ⟨215, #[N a0, N a1], exec_call rfl call215 rfl (mpn rfl), C2.out w'⟩⟩) (ak (by refine fun γ => ⟨rfl, fun w' h => ?_⟩; clear h; go_simp) (ak (fun γ => ⟨rfl, fun w' h => ex_loadN (i := 0) h 3 rfl rfl rfl rfl⟩) (ak (by refine fun γ => ⟨rfl, fun w' h => ?_⟩; clear h; go_simp) (ak (fun γ => ⟨rfl, fun w' h => ex_loadN (i := 1) h 3 rfl rfl rfl rfl⟩) (ak (fun γ => ⟨rfl, fun w' h => ⟨215, #[N b0, N b1], exec_call rfl call215 rfl (mpn rfl), C3.out w'⟩⟩) (ak (fun γ => ⟨rfl, fun w' h => ⟨207, #[N ta, N tb], exec_call rfl call207 rfl (mpn rfl), C4.out w'⟩⟩) (ak (fun γ => ⟨rfl, fun w' => ex_madeWD rfl⟩) (ak (fun γ => ⟨rfl, rfl, rfl, fun w' h => ex_laidA h rfl Tryz.sizeOf149 rfl rfl rfl⟩) trivial))))))))))))
  intro γ w3 l hM hl
  have H3 : Hid (Mm w3 [(γ 11, cel [t0, t1]), (γ2_10, cel [f0, f1]), (γ2_11, cel [g0, g1]), (γ1_0, cel [a0, a1]), (γ1_1, cel [b0, b1]), (γ1_2, cel [0, 0, 0, 0])] ∧ _) := growB H2 hM (Nat.le_refl _) hl [11] rfl (by decide)
  have o3_11 := ownB H2 hM (Nat.le_refl _) hl (i := 11) rfl
  clear hM hl l H2
  generalize γ 11 = γ3_11 at H3 o3_11 ⊢
  clear γ
  refine rest0 rfl (then_normal (wp_seq ?_))
  refine walk_anyB 9 [.quiet (V [f0, f1]), .quiet (V [g0, g1]), .call (V [x0, x1]), .quiet (V [t0, t1]), .quiet (V [f0, f1]), .call (V [y0, y1]), .quiet (V [g0, g1]), .call (V [z0, z1]), .quiet (V [x0, x1, z0, z1])] H3 ?ho4 ?he4
  case ho4 => exact ak (fun γ => ⟨rfl, fun w' h => ex_loadA (i := 0) (k := 2) h 1 rfl rfl rfl Tryz.isAgg149 Tryz.sizeOf149 rfl rfl⟩) (ak (fun γ => ⟨rfl, fun w' h => ex_loadA (i := 0) (k := 2) h 2 rfl rfl rfl Tryz.isAgg149 Tryz.sizeOf149 rfl rfl⟩) (ak (fun γ => ⟨rfl, fun w' h => ⟨191, #[V [f0, f1], V [g0, g1]], exec_call rfl call191 rfl (mpn rfl), C5.out w'⟩⟩) (ak (fun γ => ⟨rfl, fun w' h => ex_loadA (i := 0) (k := 2) h 0 rfl rfl rfl Tryz.isAgg149 Tryz.sizeOf149 rfl rfl⟩) (ak (fun γ => ⟨rfl, fun w' h => ex_loadA (i := 0) (k := 2) h 1 rfl rfl rfl Tryz.isAgg149 Tryz.sizeOf149 rfl rfl⟩) (ak (fun γ => ⟨rfl, fun w' h => ⟨191, #[V [t0, t1], V [f0, f1]], exec_call rfl call191 rfl (mpn rfl), C6.out w'⟩⟩) (ak (fun γ => ⟨rfl, fun w' h => ex_loadA (i := 0) (k := 2) h 2 rfl rfl rfl Tryz.isAgg149 Tryz.sizeOf149 rfl rfl⟩) (ak (fun γ => ⟨rfl, fun w' h => ⟨191, #[V [y0, y1], V [g0, g1]], exec_call rfl call191 rfl (mpn rfl), C7.out w'⟩⟩) (ak (fun γ => ⟨rfl, fun w' _ => ex_buildW2 rfl rfl rfl⟩) trivial))))))))
  intro _ w4 H4
  clear H3
  refine rest_at (l := [9]) rfl ?_
  refine rest_store rfl rfl rfl (ex_storeA (i := 0) (ms := [x0, x1, z0, z1]) H4.out.1 5 rfl rfl rfl rfl Tryz.sizeOf151 (Nat.le_of_ble_eq_true rfl)) ?_
  have H5 : Hid (Mm (w4.setCells γ1_2 (6 * 0) (cel [x0, x1, z0, z1])) [(γ3_11, cel [t0, t1]), (γ2_10, cel [f0, f1]), (γ2_11, cel [g0, g1]), (γ1_0, cel [a0, a1]), (γ1_1, cel [b0, b1]), (γ1_2, cel [x0, x1, z0, z1])] ∧ Below w.heap.size w (w4.setCells γ1_2 (6 * 0) (cel [x0, x1, z0, z1]))) := ⟨by
    have h := H4.out.1.put 5 (off := 6 * 0) (vs := cel [x0, x1, z0, z1]) rfl (by simp only [cel_len]; exact Nat.le_of_ble_eq_true rfl)
    rw [cel_patch] at h
    exact h, below_setCells _ o1_2.out _ _ _ H4.out.2⟩
  clear H4
  generalize hgw : World.setCells _ _ _ _ = w5 at H5 ⊢
  clear hgw
  refine rest_nil (then_normal (wp_ret ?_))
  repeat (first | refine then_ret ?_ | refine block_ret ?_)
  have hf0 := cel_var (k := 4) H5.out.1 5 rfl Tryz.isAgg151 Tryz.sizeOf151 rfl
  refine bodyPost_ret (v := V [x0, x1, z0, z1]) (by simp [results, Tryz.results188, asAddr, hf0]) rfl ?_
  exact ⟨rfl, H5.out.2⟩
set_option maxHeartbeats 1000000 in
set_option maxRecDepth 100000 in
theorem rest2_gen (g n o s u0 u1 v0 v1 r0 r1 : Nat)
    (c0 : ∀ w, Mm w [(g, modx n o s)] → Calls Tryz.prog 193 #[.agg #[PT g 0], V [u0, u1]] w fun e w' => e = .returned (N r0) ∧ Below w.heap.size w w')
    (c1 : ∀ w, Mm w [(g, modx n o s)] → Calls Tryz.prog 193 #[.agg #[PT g 0], V [v0, v1]] w fun e w' => e = .returned (N r1) ∧ Below w.heap.size w w') (w : World) (hm : Mm w [(g, modx n o s)]) :
    Calls Tryz.prog 129 #[.agg #[PT g 0], V [u0, u1, v0, v1]] w fun e w' => e = .returned (V [r0, r1]) ∧ Below w.heap.size w w' := by
  have H0 : Hid (_ ∧ _) := ⟨hm, Below.refl w.heap.size w⟩
  clear hm
  have C0 : Hid _ := c0
  have C1 : Hid _ := c1
  clear c0 c1
  go_enter Tryz.func129, Tryz.ntmps129
  refine wp_seq ?_
  refine walk_seqA 3 [.made [PT g 0] 100, .made (cel [u0, u1, v0, v1]) 151, .made (cel [0, 0]) 28] (sB H0) ?ho1 ?he1
  case ho1 => exact ak (fun γ => ⟨rfl, fun w' => ex_boxF rfl rfl⟩) (ak (fun γ => ⟨rfl, fun w' => ex_boxA rfl rfl⟩) (ak (fun γ => ⟨rfl, fun w' => ex_madeE2 rfl⟩) trivial))
  intro γ w1 l hM hl
  have H1 : Hid (Mm w1 [(γ 0, [PT g 0]), (γ 1, cel [u0, u1, v0, v1]), (γ 2, cel [0, 0]), (g, modx n o s)] ∧ _) := growB H0 hM (Nat.le_refl _) hl [0, 1, 2] rfl (by decide)
  have o1_0 := ownB H0 hM (Nat.le_refl _) hl (i := 0) rfl
  have o1_1 := ownB H0 hM (Nat.le_refl _) hl (i := 1) rfl
  have o1_2 := ownB H0 hM (Nat.le_refl _) hl (i := 2) rfl
  clear hM hl l
  generalize γ 0 = γ1_0 at H1 o1_0 ⊢
  generalize γ 1 = γ1_1 at H1 o1_1 ⊢
  generalize γ 2 = γ1_2 at H1 o1_2 ⊢
  clear γ
  refine rest0 rfl (then_normal (wp_seq ?_))
  refine walk_anyB 9 [.quiet (.agg #[PT g 0]), .quiet (PT γ1_1 0), .quiet (V [u0, u1]), .call (N r0), .quiet (.agg #[PT g 0]), .quiet (PT γ1_1 12), .quiet (V [v0, v1]), .call (N r1), .quiet (V [r0, r1])] H1 ?ho2 ?he2
  case ho2 => exact ak (fun γ => ⟨rfl, fun w' h => ex_loadF h 0 rfl rfl rfl rfl⟩) (ak (by refine fun γ => ⟨rfl, fun w' h => ?_⟩; clear h; go_simp) (ak (fun γ => ⟨rfl, fun w' h => ex_loadA (i := 0) (k := 2) h 1 rfl rfl rfl Tryz.isAgg149 Tryz.sizeOf149 rfl rfl⟩) (ak (fun γ => ⟨rfl, fun w' h => ⟨193, #[.agg #[PT g 0], V [u0, u1]], exec_call rfl call193 rfl (mpn rfl), C0.out w' (h.one 3 rfl)⟩⟩) (ak (fun γ => ⟨rfl, fun w' h => ex_loadF h 0 rfl rfl rfl rfl⟩) (ak (by refine fun γ => ⟨rfl, fun w' h => ?_⟩; clear h; go_simp) (ak (fun γ => ⟨rfl, fun w' h => ex_loadA (i := 2) (k := 2) h 1 rfl rfl rfl Tryz.isAgg149 Tryz.sizeOf149 rfl rfl⟩) (ak (fun γ => ⟨rfl, fun w' h => ⟨193, #[.agg #[PT g 0], V [v0, v1]], exec_call rfl call193 rfl (mpn rfl), C1.out w' (h.one 3 rfl)⟩⟩) (ak (fun γ => ⟨rfl, fun w' _ => ex_buildE2 rfl rfl rfl⟩) trivial))))))))
  intro _ w2 H2
  clear H1
  refine rest_at (l := [9]) rfl ?_
  refine rest_store rfl rfl rfl (ex_storeA (i := 0) (ms := [r0, r1]) H2.out.1 2 rfl rfl rfl rfl Tryz.sizeOf28 (Nat.le_of_ble_eq_true rfl)) ?_
  have H3 : Hid (Mm (w2.setCells γ1_2 (6 * 0) (cel [r0, r1])) [(γ1_0, [PT g 0]), (γ1_1, cel [u0, u1, v0, v1]), (γ1_2, cel [r0, r1]), (g, modx n o s)] ∧ Below w.heap.size w (w2.setCells γ1_2 (6 * 0) (cel [r0, r1]))) := ⟨by
    have h := H2.out.1.put 2 (off := 6 * 0) (vs := cel [r0, r1]) rfl (by simp only [cel_len]; exact Nat.le_of_ble_eq_true rfl)
    rw [cel_patch] at h
    exact h, below_setCells _ o1_2.out _ _ _ H2.out.2⟩
  clear H2
  generalize hgw : World.setCells _ _ _ _ = w3 at H3 ⊢
  clear hgw
  refine rest_nil (then_normal (wp_ret ?_))
  repeat (first | refine then_ret ?_ | refine block_ret ?_)
  have hf0 := cel_var (k := 2) H3.out.1 2 rfl Tryz.isAgg28 Tryz.sizeOf28 rfl
  refine bodyPost_ret (v := V [r0, r1]) (by simp [results, Tryz.results129, asAddr, hf0]) rfl ?_
  exact ⟨rfl, H3.out.2⟩
set_option maxHeartbeats 1000000 in
set_option maxRecDepth 100000 in
theorem mul2_gen (g n o s a0 a1 b0 b1 u0 u1 v0 v1 r0 r1 : Nat)
    (c0 : ∀ w, Calls Tryz.prog 188 #[V [a0, a1], V [b0, b1]] w fun e w' => e = .returned (V [u0, u1, v0, v1]) ∧ Below w.heap.size w w')
    (c1 : ∀ w, Mm w [(g, modx n o s)] → Calls Tryz.prog 129 #[.agg #[PT g 0], V [u0, u1, v0, v1]] w fun e w' => e = .returned (V [r0, r1]) ∧ Below w.heap.size w w') (w : World) (hm : Mm w [(g, modx n o s)]) :
    Calls Tryz.prog 158 #[.agg #[PT g 0], V [a0, a1], V [b0, b1]] w fun e w' => e = .returned (V [r0, r1]) ∧ Below w.heap.size w w' := by
  have H0 : Hid (_ ∧ _) := ⟨hm, Below.refl w.heap.size w⟩
  clear hm
  have C0 : Hid _ := c0
  have C1 : Hid _ := c1
  clear c0 c1
  go_enter Tryz.func158, Tryz.ntmps158
  refine wp_seq ?_
  refine walk_seqA 4 [.made [PT g 0] 100, .made (cel [a0, a1]) 28, .made (cel [b0, b1]) 28, .made (cel [0, 0]) 28] (sB H0) ?ho1 ?he1
  case ho1 => exact ak (fun γ => ⟨rfl, fun w' => ex_boxF rfl rfl⟩) (ak (fun γ => ⟨rfl, fun w' => ex_boxA rfl rfl⟩) (ak (fun γ => ⟨rfl, fun w' => ex_boxA rfl rfl⟩) (ak (fun γ => ⟨rfl, fun w' => ex_madeE2 rfl⟩) trivial)))
  intro γ w1 l hM hl
  have H1 : Hid (Mm w1 [(γ 0, [PT g 0]), (γ 1, cel [a0, a1]), (γ 2, cel [b0, b1]), (γ 3, cel [0, 0]), (g, modx n o s)] ∧ _) := growB H0 hM (Nat.le_refl _) hl [0, 1, 2, 3] rfl (by decide)
  have o1_0 := ownB H0 hM (Nat.le_refl _) hl (i := 0) rfl
  have o1_1 := ownB H0 hM (Nat.le_refl _) hl (i := 1) rfl
  have o1_2 := ownB H0 hM (Nat.le_refl _) hl (i := 2) rfl
  have o1_3 := ownB H0 hM (Nat.le_refl _) hl (i := 3) rfl
  clear hM hl l
  generalize γ 0 = γ1_0 at H1 o1_0 ⊢
  generalize γ 1 = γ1_1 at H1 o1_1 ⊢
  generalize γ 2 = γ1_2 at H1 o1_2 ⊢
  generalize γ 3 = γ1_3 at H1 o1_3 ⊢
  clear γ
  refine rest0 rfl (then_normal (wp_seq ?_))
  refine walk_anyB 5 [.quiet (.agg #[PT g 0]), .quiet (V [a0, a1]), .quiet (V [b0, b1]), .call (V [u0, u1, v0, v1]), .call (V [r0, r1])] H1 ?ho2 ?he2
  case ho2 => exact ak (fun γ => ⟨rfl, fun w' h => ex_loadF h 0 rfl rfl rfl rfl⟩) (ak (fun γ => ⟨rfl, fun w' h => ex_loadA (i := 0) (k := 2) h 1 rfl rfl rfl Tryz.isAgg28 Tryz.sizeOf28 rfl rfl⟩) (ak (fun γ => ⟨rfl, fun w' h => ex_loadA (i := 0) (k := 2) h 2 rfl rfl rfl Tryz.isAgg28 Tryz.sizeOf28 rfl rfl⟩) (ak (fun γ => ⟨rfl, fun w' h => ⟨188, #[V [a0, a1], V [b0, b1]], exec_call rfl call188 rfl (mpn rfl), C0.out w'⟩⟩) (ak (fun γ => ⟨rfl, fun w' h => ⟨129, #[.agg #[PT g 0], V [u0, u1, v0, v1]], exec_call rfl call129 rfl (mpn rfl), C1.out w' (h.one 4 rfl)⟩⟩) trivial))))
  intro _ w2 H2
  clear H1
  refine rest_at (l := [5]) rfl ?_
  refine rest_store rfl rfl rfl (ex_storeA (i := 0) (ms := [r0, r1]) H2.out.1 3 rfl rfl rfl rfl Tryz.sizeOf28 (Nat.le_of_ble_eq_true rfl)) ?_
  have H3 : Hid (Mm (w2.setCells γ1_3 (6 * 0) (cel [r0, r1])) [(γ1_0, [PT g 0]), (γ1_1, cel [a0, a1]), (γ1_2, cel [b0, b1]), (γ1_3, cel [r0, r1]), (g, modx n o s)] ∧ Below w.heap.size w (w2.setCells γ1_3 (6 * 0) (cel [r0, r1]))) := ⟨by
    have h := H2.out.1.put 3 (off := 6 * 0) (vs := cel [r0, r1]) rfl (by simp only [cel_len]; exact Nat.le_of_ble_eq_true rfl)
    rw [cel_patch] at h
    exact h, below_setCells _ o1_3.out _ _ _ H2.out.2⟩
  clear H2
  generalize hgw : World.setCells _ _ _ _ = w3 at H3 ⊢
  clear hgw
  refine rest_nil (then_normal (wp_ret ?_))
  repeat (first | refine then_ret ?_ | refine block_ret ?_)
  have hf0 := cel_var (k := 2) H3.out.1 3 rfl Tryz.isAgg28 Tryz.sizeOf28 rfl
  refine bodyPost_ret (v := V [r0, r1]) (by simp [results, Tryz.results158, asAddr, hf0]) rfl ?_
  exact ⟨rfl, H3.out.2⟩
set_option maxHeartbeats 1000000 in
set_option maxRecDepth 100000 in
theorem left2_gen (a0 a1 r0 r1 : Nat)
    (c0 : ∀ w, Calls Tryz.prog 194 #[N a0] w fun e w' => e = .returned (N r0) ∧ Below w.heap.size w w')
    (c1 : ∀ w, Calls Tryz.prog 194 #[N a1] w fun e w' => e = .returned (N r1) ∧ Below w.heap.size w w') (w : World) :
    Calls Tryz.prog 132 #[V [a0, a1]] w fun e w' => e = .returned (V [r0, r1]) ∧ Below w.heap.size w w' := by
  have H0 : Hid (_ ∧ _) := ⟨Mm.nil w, Below.refl w.heap.size w⟩
  have C0 : Hid _ := c0
  have C1 : Hid _ := c1
  clear c0 c1
  go_enter Tryz.func132, Tryz.ntmps132
  refine wp_seq ?_
  refine walk_seqA 2 [.made (cel [a0, a1]) 28, .made (cel [0, 0]) 28] (sB H0) ?ho1 ?he1
  case ho1 => exact ak (fun γ => ⟨rfl, fun w' => ex_boxA rfl rfl⟩) (ak (fun γ => ⟨rfl, fun w' => ex_madeE2 rfl⟩) trivial)
  intro γ w1 l hM hl
  have H1 : Hid (Mm w1 [(γ 0, cel [a0, a1]), (γ 1, cel [0, 0])] ∧ _) := growB H0 hM (Nat.le_refl _) hl [0, 1] rfl (by decide)
  have o1_0 := ownB H0 hM (Nat.le_refl _) hl (i := 0) rfl
  have o1_1 := ownB H0 hM (Nat.le_refl _) hl (i := 1) rfl
  clear hM hl l
  generalize γ 0 = γ1_0 at H1 o1_0 ⊢
  generalize γ 1 = γ1_1 at H1 o1_1 ⊢
  clear γ
  refine rest0 rfl (then_normal (wp_seq ?_))
  refine walk_anyB 7 [.quiet (PT γ1_0 0), .quiet (N a0), .call (N r0), .quiet (PT γ1_0 6), .quiet (N a1), .call (N r1), .quiet (V [r0, r1])] H1 ?ho2 ?he2
  case ho2 => exact ak (by refine fun γ => ⟨rfl, fun w' h => ?_⟩; clear h; go_simp) (ak (fun γ => ⟨rfl, fun w' h => ex_loadN (i := 0) h 0 rfl rfl rfl rfl⟩) (ak (fun γ => ⟨rfl, fun w' h => ⟨194, #[N a0], exec_call rfl call194 rfl (mpn rfl), C0.out w'⟩⟩) (ak (by refine fun γ => ⟨rfl, fun w' h => ?_⟩; clear h; go_simp) (ak (fun γ => ⟨rfl, fun w' h => ex_loadN (i := 1) h 0 rfl rfl rfl rfl⟩) (ak (fun γ => ⟨rfl, fun w' h => ⟨194, #[N a1], exec_call rfl call194 rfl (mpn rfl), C1.out w'⟩⟩) (ak (fun γ => ⟨rfl, fun w' _ => ex_buildE2 rfl rfl rfl⟩) trivial))))))
  intro _ w2 H2
  clear H1
  refine rest_at (l := [7]) rfl ?_
  refine rest_store rfl rfl rfl (ex_storeA (i := 0) (ms := [r0, r1]) H2.out.1 1 rfl rfl rfl rfl Tryz.sizeOf28 (Nat.le_of_ble_eq_true rfl)) ?_
  have H3 : Hid (Mm (w2.setCells γ1_1 (6 * 0) (cel [r0, r1])) [(γ1_0, cel [a0, a1]), (γ1_1, cel [r0, r1])] ∧ Below w.heap.size w (w2.setCells γ1_1 (6 * 0) (cel [r0, r1]))) := ⟨by
    have h := H2.out.1.put 1 (off := 6 * 0) (vs := cel [r0, r1]) rfl (by simp only [cel_len]; exact Nat.le_of_ble_eq_true rfl)
    rw [cel_patch] at h
    exact h, below_setCells _ o1_1.out _ _ _ H2.out.2⟩
  clear H2
  generalize hgw : World.setCells _ _ _ _ = w3 at H3 ⊢
  clear hgw
  refine rest_nil (then_normal (wp_ret ?_))
  repeat (first | refine then_ret ?_ | refine block_ret ?_)
  have hf0 := cel_var (k := 2) H3.out.1 1 rfl Tryz.isAgg28 Tryz.sizeOf28 rfl
  refine bodyPost_ret (v := V [r0, r1]) (by simp [results, Tryz.results132, asAddr, hf0]) rfl ?_
  exact ⟨rfl, H3.out.2⟩
end Rg
end Go.Proofs.YtdbejmgomajjmaaGreatDoor
end
section
namespace Go.Proofs.YtdbejmgomajjmaaGreatDoor
open Go.RowKit
namespace Rg
set_option maxHeartbeats 1000000 in
set_option maxRecDepth 100000 in
theorem sub2_gen (a0 a1 b0 b1 m0 m1 q0 q1 r0 r1 : Nat)
    (c0 : ∀ w, Calls Tryz.prog 132 #[V [a0, a1]] w fun e w' => e = .returned (V [m0, m1]) ∧ Below w.heap.size w w')
    (c1 : ∀ w, Calls Tryz.prog 132 #[V [b0, b1]] w fun e w' => e = .returned (V [q0, q1]) ∧ Below w.heap.size w w')
    (c2 : ∀ w, Calls Tryz.prog 181 #[N m0, N q0] w fun e w' => e = .returned (N r0) ∧ Below w.heap.size w w')
    (c3 : ∀ w, Calls Tryz.prog 181 #[N m1, N q1] w fun e w' => e = .returned (N r1) ∧ Below w.heap.size w w') (w : World) :
    Calls Tryz.prog 111 #[V [a0, a1], V [b0, b1]] w fun e w' => e = .returned (V [r0, r1]) ∧ Below w.heap.size w w' := by
  have H0 : Hid (_ ∧ _) := ⟨Mm.nil w, Below.refl w.heap.size w⟩
  have C0 : Hid _ := c0
  have C1 : Hid _ := c1
  have C2 : Hid _ := c2
  have C3 : Hid _ := c3
  clear c0 c1 c2 c3
  go_enter Tryz.func111, Tryz.ntmps111
  refine wp_seq ?_
  refine walk_seqA 3 [.made (cel [a0, a1]) 28, .made (cel [b0, b1]) 28, .made (cel [0, 0]) 28] (sB H0) ?ho1 ?he1
  case ho1 => exact ak (fun γ => ⟨rfl, fun w' => ex_boxA rfl rfl⟩) (ak (fun γ => ⟨rfl, fun w' => ex_boxA rfl rfl⟩) (ak (fun γ => ⟨rfl, fun w' => ex_madeE2 rfl⟩) trivial))
  intro γ w1 l hM hl
  have H1 : Hid (Mm w1 [(γ 0, cel [a0, a1]), (γ 1, cel [b0, b1]), (γ 2, cel [0, 0])] ∧ _) := growB H0 hM (Nat.le_refl _) hl [0, 1, 2] rfl (by decide)
  have o1_0 := ownB H0 hM (Nat.le_refl _) hl (i := 0) rfl
  have o1_1 := ownB H0 hM (Nat.le_refl _) hl (i := 1) rfl
  have o1_2 := ownB H0 hM (Nat.le_refl _) hl (i := 2) rfl
  clear hM hl l
  generalize γ 0 = γ1_0 at H1 o1_0 ⊢
  generalize γ 1 = γ1_1 at H1 o1_1 ⊢
  generalize γ 2 = γ1_2 at H1 o1_2 ⊢
  clear γ
  refine rest0 rfl (then_normal (wp_seq ?_))
  refine walk_put (by kernel_rfl) 4 [] [.quiet (V [a0, a1]), .call (V [m0, m1]), .quiet (V [b0, b1]), .call (V [q0, q1])] _ ?pre2 ?F2 _ ?hpre2 (fun γ => ?hF2) (by kernel_rfl) rfl trivial (sB H1) ?ho2 ?hla2 ?he2
  case hpre2 => simp only [tk, tz]; rfl
  case hF2 => simp only [fill, Kind.val, Act.put, sa, sz, ss]; rfl
  case ho2 =>
    refine ak (fun γ => ⟨rfl, fun w' h => ex_loadA (i := 0) (k := 2) h 0 rfl rfl rfl Tryz.isAgg28 Tryz.sizeOf28 rfl rfl⟩) ?_
    refine ak (fun γ => ⟨rfl, fun w' h => ⟨132, #[V [a0, a1]], exec_call rfl call132 rfl (mpn rfl), C0.out w'⟩⟩) ?_
    refine ak (fun γ => ⟨rfl, fun w' h => ex_loadA (i := 0) (k := 2) h 1 rfl rfl rfl Tryz.isAgg28 Tryz.sizeOf28 rfl rfl⟩) ?_
    refine ak (fun γ => ⟨rfl, fun w' h => ⟨132, #[V [b0, b1]], exec_call rfl call132 rfl (mpn rfl), C1.out w'⟩⟩) ?_
    exact trivial
  case hla2 => exact trivial
  intro γ w2 l hM hl
  have H2 := keepB H1 hM.below
  clear hM hl l H1 γ
  refine ⟨_, ex_storeA (i := 0) (ms := [m0, m1]) H2.out.1 0 rfl rfl rfl rfl Tryz.sizeOf28 (Nat.le_of_ble_eq_true rfl), ?_⟩
  have H3 : Hid (Mm (w2.setCells γ1_0 (6 * 0) (cel [m0, m1])) [(γ1_0, cel [m0, m1]), (γ1_1, cel [b0, b1]), (γ1_2, cel [0, 0])] ∧ Below w.heap.size w (w2.setCells γ1_0 (6 * 0) (cel [m0, m1]))) := ⟨by
    have h := H2.out.1.put 0 (off := 6 * 0) (vs := cel [m0, m1]) rfl (by simp only [cel_len]; exact Nat.le_of_ble_eq_true rfl)
    rw [cel_patch] at h
    exact h, below_setCells _ o1_0.out _ _ _ H2.out.2⟩
  clear H2
  generalize hgw : World.setCells _ _ _ _ = w3 at H3 ⊢
  clear hgw
  refine rest_at (l := [5]) rfl ?_
  refine rest_store rfl rfl rfl (ex_storeA (i := 0) (ms := [q0, q1]) H3.out.1 1 rfl rfl rfl rfl Tryz.sizeOf28 (Nat.le_of_ble_eq_true rfl)) ?_
  have H4 : Hid (Mm (w3.setCells γ1_1 (6 * 0) (cel [q0, q1])) [(γ1_0, cel [m0, m1]), (γ1_1, cel [q0, q1]), (γ1_2, cel [0, 0])] ∧ Below w.heap.size w (w3.setCells γ1_1 (6 * 0) (cel [q0, q1]))) := ⟨by
    have h := H3.out.1.put 1 (off := 6 * 0) (vs := cel [q0, q1]) rfl (by simp only [cel_len]; exact Nat.le_of_ble_eq_true rfl)
    rw [cel_patch] at h
    exact h, below_setCells _ o1_1.out _ _ _ H3.out.2⟩
  clear H3
  generalize hgw : World.setCells _ _ _ _ = w4 at H4 ⊢
  clear hgw
  refine rest_nil (then_normal (wp_seq ?_))
  refine walk_anyB 11 [.quiet (PT γ1_0 0), .quiet (N m0), .quiet (PT γ1_1 0), .quiet (N q0), .call (N r0), .quiet (PT γ1_0 6), .quiet (N m1), .quiet (PT γ1_1 6), .quiet (N q1), .call (N r1), .quiet (V [r0, r1])] H4 ?ho3 ?he3
  case ho3 => exact ak (by refine fun γ => ⟨rfl, fun w' h => ?_⟩; clear h; go_simp) (ak (fun γ => ⟨rfl, fun w' h => ex_loadN (i := 0) h 0 rfl rfl rfl rfl⟩) (ak (by refine fun γ => ⟨rfl, fun w' h => ?_⟩; clear h; go_simp) (ak (fun γ => ⟨rfl, fun w' h => ex_loadN (i := 0) h 1 rfl rfl rfl rfl⟩) (ak (fun γ => ⟨rfl, fun w' h => ⟨181, #[N m0, N q0], exec_call rfl call181 rfl (mpn rfl), C2.out w'⟩⟩) (ak (by refine fun γ => ⟨rfl, fun w' h => ?_⟩; clear h; go_simp) (ak (fun γ => ⟨rfl, fun w' h => ex_loadN (i := 1) h 0 rfl rfl rfl rfl⟩) (ak (by refine fun γ => ⟨rfl, fun w' h => ?_⟩; clear h; go_simp) (ak (fun γ => ⟨rfl, fun w' h => ex_loadN (i := 1) h 1 rfl rfl rfl rfl⟩) (ak (fun γ => ⟨rfl, fun w' h => ⟨181, #[N m1, N q1], exec_call rfl call181 rfl (mpn rfl), C3.out w'⟩⟩) (ak (fun γ => ⟨rfl, fun w' _ => ex_buildE2 rfl rfl rfl⟩) trivial))))))))))
  intro _ w5 H5
  clear H4
  refine rest_at (l := [11]) rfl ?_
  refine rest_store rfl rfl rfl (ex_storeA (i := 0) (ms := [r0, r1]) H5.out.1 2 rfl rfl rfl rfl Tryz.sizeOf28 (Nat.le_of_ble_eq_true rfl)) ?_
  have H6 : Hid (Mm (w5.setCells γ1_2 (6 * 0) (cel [r0, r1])) [(γ1_0, cel [m0, m1]), (γ1_1, cel [q0, q1]), (γ1_2, cel [r0, r1])] ∧ Below w.heap.size w (w5.setCells γ1_2 (6 * 0) (cel [r0, r1]))) := ⟨by
    have h := H5.out.1.put 2 (off := 6 * 0) (vs := cel [r0, r1]) rfl (by simp only [cel_len]; exact Nat.le_of_ble_eq_true rfl)
    rw [cel_patch] at h
    exact h, below_setCells _ o1_2.out _ _ _ H5.out.2⟩
  clear H5
  generalize hgw : World.setCells _ _ _ _ = w6 at H6 ⊢
  clear hgw
  refine rest_nil (then_normal (wp_ret ?_))
  repeat (first | refine then_ret ?_ | refine block_ret ?_)
  have hf0 := cel_var (k := 2) H6.out.1 2 rfl Tryz.isAgg28 Tryz.sizeOf28 rfl
  refine bodyPost_ret (v := V [r0, r1]) (by simp [results, Tryz.results111, asAddr, hf0]) rfl ?_
  exact ⟨rfl, H6.out.2⟩
set_option maxHeartbeats 1000000 in
set_option maxRecDepth 100000 in
theorem neg2_gen (a0 a1 r0 r1 : Nat)
    (c0 : ∀ w, Calls Tryz.prog 111 #[V [0, 0], V [a0, a1]] w fun e w' => e = .returned (V [r0, r1]) ∧ Below w.heap.size w w') (w : World) :
    Calls Tryz.prog 91 #[V [a0, a1]] w fun e w' => e = .returned (V [r0, r1]) ∧ Below w.heap.size w w' := by
  have H0 : Hid (_ ∧ _) := ⟨Mm.nil w, Below.refl w.heap.size w⟩
  have C0 : Hid _ := c0
  clear c0
  go_enter Tryz.func91, Tryz.ntmps91
  refine wp_seq ?_
  refine walk_seqA 2 [.made (cel [a0, a1]) 28, .made (cel [0, 0]) 28] (sB H0) ?ho1 ?he1
  case ho1 => exact ak (fun γ => ⟨rfl, fun w' => ex_boxA rfl rfl⟩) (ak (fun γ => ⟨rfl, fun w' => ex_madeE2 rfl⟩) trivial)
  intro γ w1 l hM hl
  have H1 : Hid (Mm w1 [(γ 0, cel [a0, a1]), (γ 1, cel [0, 0])] ∧ _) := growB H0 hM (Nat.le_refl _) hl [0, 1] rfl (by decide)
  have o1_0 := ownB H0 hM (Nat.le_refl _) hl (i := 0) rfl
  have o1_1 := ownB H0 hM (Nat.le_refl _) hl (i := 1) rfl
  clear hM hl l
  generalize γ 0 = γ1_0 at H1 o1_0 ⊢
  generalize γ 1 = γ1_1 at H1 o1_1 ⊢
  clear γ
  refine rest0 rfl (then_normal (wp_seq ?_))
  refine walk_seqB 3 [.quiet (V [0, 0]), .quiet (V [a0, a1]), .call (V [r0, r1])] H1 ?ho2 ?he2
  case ho2 => exact ak (fun γ => ⟨rfl, fun w' _ => ex_buildE2z rfl⟩) (ak (fun γ => ⟨rfl, fun w' h => ex_loadA (i := 0) (k := 2) h 0 rfl rfl rfl Tryz.isAgg28 Tryz.sizeOf28 rfl rfl⟩) (ak (fun γ => ⟨rfl, fun w' h => ⟨111, #[V [0, 0], V [a0, a1]], exec_call rfl call111 rfl (mpn rfl), C0.out w'⟩⟩) trivial))
  intro _ w2 H2
  clear H1
  refine rest_at (l := [3]) rfl ?_
  refine rest_store rfl rfl rfl (ex_storeA (i := 0) (ms := [r0, r1]) H2.out.1 1 rfl rfl rfl rfl Tryz.sizeOf28 (Nat.le_of_ble_eq_true rfl)) ?_
  have H3 : Hid (Mm (w2.setCells γ1_1 (6 * 0) (cel [r0, r1])) [(γ1_0, cel [a0, a1]), (γ1_1, cel [r0, r1])] ∧ Below w.heap.size w (w2.setCells γ1_1 (6 * 0) (cel [r0, r1]))) := ⟨by
    have h := H2.out.1.put 1 (off := 6 * 0) (vs := cel [r0, r1]) rfl (by simp only [cel_len]; exact Nat.le_of_ble_eq_true rfl)
    rw [cel_patch] at h
    exact h, below_setCells _ o1_1.out _ _ _ H2.out.2⟩
  clear H2
  generalize hgw : World.setCells _ _ _ _ = w3 at H3 ⊢
  clear hgw
  refine rest_nil (then_normal (wp_ret ?_))
  repeat (first | refine then_ret ?_ | refine block_ret ?_)
  have hf0 := cel_var (k := 2) H3.out.1 1 rfl Tryz.isAgg28 Tryz.sizeOf28 rfl
  refine bodyPost_ret (v := V [r0, r1]) (by simp [results, Tryz.results91, asAddr, hf0]) rfl ?_
  exact ⟨rfl, H3.out.2⟩
set_option maxHeartbeats 1000000 in
set_option maxRecDepth 100000 in
theorem negated_gen (a r : Nat)
    (c0 : ∀ w, Calls Tryz.prog 181 #[N 0, N a] w fun e w' => e = .returned (N r) ∧ Below w.heap.size w w') (w : World) :
    Calls Tryz.prog 160 #[N a] w fun e w' => e = .returned (N r) ∧ Below w.heap.size w w' := by
  have H0 : Hid (_ ∧ _) := ⟨Mm.nil w, Below.refl w.heap.size w⟩
  have C0 : Hid _ := c0
  clear c0
  go_enter Tryz.func160, Tryz.ntmps160
  refine wp_seq ?_
  refine walk_seqA 2 [.made (cells6 a) 24, .made zero6 24] (sB H0) ?ho1 ?he1
  case ho1 => exact ak (fun γ => ⟨rfl, fun w' => ex_box6 rfl rfl⟩) (ak (fun γ => ⟨rfl, fun w' => exec_made6 rfl⟩) trivial)
  intro γ w1 l hM hl
  have H1 : Hid (Mm w1 [(γ 0, cells6 a), (γ 1, zero6)] ∧ _) := growB H0 hM (Nat.le_refl _) hl [0, 1] rfl (by decide)
  have o1_0 := ownB H0 hM (Nat.le_refl _) hl (i := 0) rfl
  have o1_1 := ownB H0 hM (Nat.le_refl _) hl (i := 1) rfl
  clear hM hl l
  generalize γ 0 = γ1_0 at H1 o1_0 ⊢
  generalize γ 1 = γ1_1 at H1 o1_1 ⊢
  clear γ
  refine rest0 rfl (then_normal (wp_seq ?_))
  refine walk_seqB 3 [.quiet (N 0), .quiet (N a), .call (N r)] H1 ?ho2 ?he2
  case ho2 => exact ak (by refine fun γ => ⟨rfl, fun w' h => ?_⟩; clear h; exact ex_zero6 rfl) (ak (fun γ => ⟨rfl, fun w' h => ex_load6 h 0 rfl rfl rfl rfl⟩) (ak (fun γ => ⟨rfl, fun w' h => ⟨181, #[N 0, N a], exec_call rfl call181 rfl (mpn rfl), C0.out w'⟩⟩) trivial))
  intro _ w2 H2
  clear H1
  refine rest_at (l := [3]) rfl ?_
  refine rest_store rfl rfl rfl (ex_store6 H2.out.1 1 rfl rfl rfl rfl (Nat.le_of_ble_eq_true rfl)) ?_
  have H3 : Hid (Mm (w2.setCells γ1_1 0 (cells6 r)) [(γ1_0, cells6 a), (γ1_1, cells6 r)] ∧ Below w.heap.size w (w2.setCells γ1_1 0 (cells6 r))) := ⟨H2.out.1.put 1 (off := 0) (vs := cells6 r) rfl (Nat.le_of_ble_eq_true rfl), below_setCells _ o1_1.out _ _ _ H2.out.2⟩
  clear H2
  generalize hgw : World.setCells _ _ _ _ = w3 at H3 ⊢
  clear hgw
  refine rest_nil (then_normal (wp_ret ?_))
  repeat (first | refine then_ret ?_ | refine block_ret ?_)
  have c0 := H3.out.1.get 1 rfl 0 rfl
  have c1 := H3.out.1.get 1 rfl 1 rfl
  have c2 := H3.out.1.get 1 rfl 2 rfl
  have c3 := H3.out.1.get 1 rfl 3 rfl
  have c4 := H3.out.1.get 1 rfl 4 rfl
  have c5 := H3.out.1.get 1 rfl 5 rfl
  refine bodyPost_ret (v := N r) (by simp [results, Tryz.results160, go_sem, *]) rfl ?_
  exact ⟨rfl, H3.out.2⟩
set_option maxHeartbeats 1000000 in
set_option maxRecDepth 100000 in
theorem conj2_gen (a0 a1 m0 m1 r : Nat)
    (c0 : ∀ w, Calls Tryz.prog 132 #[V [a0, a1]] w fun e w' => e = .returned (V [m0, m1]) ∧ Below w.heap.size w w')
    (c1 : ∀ w, Calls Tryz.prog 160 #[N m1] w fun e w' => e = .returned (N r) ∧ Below w.heap.size w w') (w : World) :
    Calls Tryz.prog 116 #[V [a0, a1]] w fun e w' => e = .returned (V [m0, r]) ∧ Below w.heap.size w w' := by
  have H0 : Hid (_ ∧ _) := ⟨Mm.nil w, Below.refl w.heap.size w⟩
  have C0 : Hid _ := c0
  have C1 : Hid _ := c1
  clear c0 c1
  go_enter Tryz.func116, Tryz.ntmps116
  refine wp_seq ?_
  refine walk_seqA 2 [.made (cel [a0, a1]) 28, .made (cel [0, 0]) 28] (sB H0) ?ho1 ?he1
  case ho1 => exact ak (fun γ => ⟨rfl, fun w' => ex_boxA rfl rfl⟩) (ak (fun γ => ⟨rfl, fun w' => ex_madeE2 rfl⟩) trivial)
  intro γ w1 l hM hl
  have H1 : Hid (Mm w1 [(γ 0, cel [a0, a1]), (γ 1, cel [0, 0])] ∧ _) := growB H0 hM (Nat.le_refl _) hl [0, 1] rfl (by decide)
  have o1_0 := ownB H0 hM (Nat.le_refl _) hl (i := 0) rfl
  have o1_1 := ownB H0 hM (Nat.le_refl _) hl (i := 1) rfl
  clear hM hl l
  generalize γ 0 = γ1_0 at H1 o1_0 ⊢
  generalize γ 1 = γ1_1 at H1 o1_1 ⊢
  clear γ
  refine rest0 rfl (then_normal (wp_seq ?_))
  refine walk_seqB 2 [.quiet (V [a0, a1]), .call (V [m0, m1])] H1 ?ho2 ?he2
  case ho2 => exact ak (fun γ => ⟨rfl, fun w' h => ex_loadA (i := 0) (k := 2) h 0 rfl rfl rfl Tryz.isAgg28 Tryz.sizeOf28 rfl rfl⟩) (ak (fun γ => ⟨rfl, fun w' h => ⟨132, #[V [a0, a1]], exec_call rfl call132 rfl (mpn rfl), C0.out w'⟩⟩) trivial)
  intro _ w2 H2
  clear H1
  refine rest_at (l := [2]) rfl ?_
  refine rest_store rfl rfl rfl (ex_storeA (i := 0) (ms := [m0, m1]) H2.out.1 0 rfl rfl rfl rfl Tryz.sizeOf28 (Nat.le_of_ble_eq_true rfl)) ?_
  have H3 : Hid (Mm (w2.setCells γ1_0 (6 * 0) (cel [m0, m1])) [(γ1_0, cel [m0, m1]), (γ1_1, cel [0, 0])] ∧ Below w.heap.size w (w2.setCells γ1_0 (6 * 0) (cel [m0, m1]))) := ⟨by
    have h := H2.out.1.put 0 (off := 6 * 0) (vs := cel [m0, m1]) rfl (by simp only [cel_len]; exact Nat.le_of_ble_eq_true rfl)
    rw [cel_patch] at h
    exact h, below_setCells _ o1_0.out _ _ _ H2.out.2⟩
  clear H2
  generalize hgw : World.setCells _ _ _ _ = w3 at H3 ⊢
  clear hgw
  refine rest_nil (then_normal (wp_seq ?_))
  refine walk_anyB 6 [.quiet (PT γ1_0 0), .quiet (N m0), .quiet (PT γ1_0 6), .quiet (N m1), .call (N r), .quiet (V [m0, r])] H3 ?ho3 ?he3
  case ho3 => exact ak (by refine fun γ => ⟨rfl, fun w' h => ?_⟩; clear h; go_simp) (ak (fun γ => ⟨rfl, fun w' h => ex_loadN (i := 0) h 0 rfl rfl rfl rfl⟩) (ak (by refine fun γ => ⟨rfl, fun w' h => ?_⟩; clear h; go_simp) (ak (fun γ => ⟨rfl, fun w' h => ex_loadN (i := 1) h 0 rfl rfl rfl rfl⟩) (ak (fun γ => ⟨rfl, fun w' h => ⟨160, #[N m1], exec_call rfl call160 rfl (mpn rfl), C1.out w'⟩⟩) (ak (fun γ => ⟨rfl, fun w' _ => ex_buildE2 rfl rfl rfl⟩) trivial)))))
  intro _ w4 H4
  clear H3
  refine rest_at (l := [6]) rfl ?_
  refine rest_store rfl rfl rfl (ex_storeA (i := 0) (ms := [m0, r]) H4.out.1 1 rfl rfl rfl rfl Tryz.sizeOf28 (Nat.le_of_ble_eq_true rfl)) ?_
  have H5 : Hid (Mm (w4.setCells γ1_1 (6 * 0) (cel [m0, r])) [(γ1_0, cel [m0, m1]), (γ1_1, cel [m0, r])] ∧ Below w.heap.size w (w4.setCells γ1_1 (6 * 0) (cel [m0, r]))) := ⟨by
    have h := H4.out.1.put 1 (off := 6 * 0) (vs := cel [m0, r]) rfl (by simp only [cel_len]; exact Nat.le_of_ble_eq_true rfl)
    rw [cel_patch] at h
    exact h, below_setCells _ o1_1.out _ _ _ H4.out.2⟩
  clear H4
  generalize hgw : World.setCells _ _ _ _ = w5 at H5 ⊢
  clear hgw
  refine rest_nil (then_normal (wp_ret ?_))
  repeat (first | refine then_ret ?_ | refine block_ret ?_)
  have hf0 := cel_var (k := 2) H5.out.1 1 rfl Tryz.isAgg28 Tryz.sizeOf28 rfl
  refine bodyPost_ret (v := V [m0, r]) (by simp [results, Tryz.results116, asAddr, hf0]) rfl ?_
  exact ⟨rfl, H5.out.2⟩
end Rg
end Go.Proofs.YtdbejmgomajjmaaGreatDoor
end
section
namespace Go.Proofs.YtdbejmgomajjmaaGreatDoor
open Go.RowKit
namespace Rg
/-! Numbers by p stand for integers. -/
def pz (z : Int) : Nat := (z % (pB : Int)).toNat
theorem pBI : (0 : Int) < (pB : Int) := by have := pB_ok.pos; omega
theorem pz_cast (z : Int) : ((pz z : Nat) : Int) = z % (pB : Int) := Int.toNat_of_nonneg (Int.emod_nonneg _ (by have := pBI; omega))
theorem pz_lt (z : Int) : pz z < pB := by
  have h := pz_cast z
  have h2 := Int.emod_lt_of_pos z pBI
  omega
theorem pz_congr {x y : Int} (h : x % (pB : Int) = y % (pB : Int)) : pz x = pz y := by unfold pz; rw [h]
theorem pz_nat (n : Nat) : pz (n : Int) = n % pB := by
  have h := pz_cast (n : Int)
  rw [← Int.natCast_emod] at h
  omega
theorem pz_add (x y : Int) : pz ((pz x : Int) + (pz y : Int)) = pz (x + y) := pz_congr (by rw [pz_cast, pz_cast, ← Int.add_emod])
theorem pz_mul (x y : Int) : pz ((pz x : Int) * (pz y : Int)) = pz (x * y) := pz_congr (by rw [pz_cast, pz_cast, ← Int.mul_emod])
theorem pz_sub (x y : Int) : pz ((pz x : Int) - (pz y : Int)) = pz (x - y) := pz_congr (by rw [pz_cast, pz_cast, ← Int.sub_emod])
theorem pz_self (x : Int) : pz (pz x : Int) = pz x := pz_congr (by rw [pz_cast, Int.emod_emod])
theorem pz_addmul (a b c d : Int) : pz ((pz a : Int) * (pz b : Int) + (pz c : Int) * (pz d : Int)) = pz (a * b + c * d) := by
  rw [← pz_add, pz_mul, pz_mul, pz_add]
theorem pz_submul (a b c d : Int) : pz ((pz a : Int) * (pz b : Int) - (pz c : Int) * (pz d : Int)) = pz (a * b - c * d) := by
  rw [← pz_sub, pz_mul, pz_mul, pz_sub]
theorem subm_pz (x y : Int) : subm pB (pz x) (pz y) = pz (x - y) := by
  have hy := pz_lt y
  rw [← pz_sub]
  unfold subm
  rw [Nat.mod_eq_of_lt hy, ← pz_nat]
  refine pz_congr ?_
  rw [show ((pz x + (pB - pz y) : Nat) : Int) = (pz x : Int) - (pz y : Int) + (pB : Int) by omega, Int.add_emod_right]
theorem nine_p : 9 * pB < big := by decide +kernel
theorem great_any (w : World) : Calls Tryz.prog 61 #[] w fun e w' => Below w.heap.size w w' ∧ ∃ g, e = .returned (.agg #[PT g 0]) ∧ w.heap.size ≤ g ∧ g < w'.heap.size ∧ Blk w' g (modc pB) :=
  great_gen pB base_pB (fun w => new_ok pB_ok w) w
/-- What rest takes: within twelve products. -/
def Wi (z : Int) : Prop := -(12 * ((pB : Int) * pB)) ≤ z ∧ z ≤ 12 * ((pB : Int) * pB)
theorem rest_num (z : Int) (h : Wi z) : (lo z + (hi z + 2 * pB) % big * big) % pB = pz z := by
  have hpos := pB_ok.pos
  have h9 := nine_p
  obtain ⟨h1, h2⟩ := h
  unfold pz
  generalize pB = p at *
  have e1 : wz z % big + (wz z / big + 2 * p) % big * big = (wz z + 2 * p * big) % bb := by
    unfold bb
    rw [Nat.mod_mul, Nat.add_mul_mod_self_right, Nat.add_mul_div_right _ _ big_pos, Nat.mul_comm big]
  have e2 : (((wz z + 2 * p * big) % bb : Nat) : Int) = z + 2 * p * big := by
    rw [Int.natCast_emod, Int.natCast_add, wz_cast, Int.natCast_mul, Int.natCast_mul, Int.emod_add_emod]
    refine Int.emod_eq_of_lt ?_ ?_
    · have h3 : 6 * (p * p) ≤ p * big := by
        have : p * (6 * p) ≤ p * big := Nat.mul_le_mul (Nat.le_refl p) (by omega)
        rw [Nat.mul_left_comm] at this; exact this
      have h4 : 6 * ((p : Int) * p) ≤ (p : Int) * big := by
        have := Int.ofNat_le.2 h3
        simpa using this
      have h5 : ((2 : Nat) : Int) * (p : Int) * (big : Int) = 2 * ((p : Int) * big) := by rw [Int.mul_assoc]; rfl
      omega
    · have h3 : 6 * (p * p) ≤ p * big := by
        have : p * (6 * p) ≤ p * big := Nat.mul_le_mul (Nat.le_refl p) (by omega)
        rw [Nat.mul_left_comm] at this; exact this
      have h4 : 6 * ((p : Int) * p) ≤ (p : Int) * big := by
        have := Int.ofNat_le.2 h3
        simpa using this
      have h6 : 4 * (p * big) < bb := by
        unfold bb
        rw [← Nat.mul_assoc]
        exact Nat.mul_lt_mul_of_pos_right (by omega) big_pos
      have h7 : 4 * ((p : Int) * big) < (bb : Int) := by
        have := Int.ofNat_lt.2 h6
        simpa using this
      have h5 : ((2 : Nat) : Int) * (p : Int) * (big : Int) = 2 * ((p : Int) * big) := by rw [Int.mul_assoc]; rfl
      omega
  have e3 : (((lo z + (hi z + 2 * p) % big * big) % p : Nat) : Int) = z % (p : Int) := by
    rw [e1, Int.natCast_emod, e2, show z + 2 * (p : Int) * big = z + (p : Int) * (2 * big) by rw [Int.mul_comm 2 (p : Int), Int.mul_assoc], Int.add_mul_emod_self_left]
  omega
theorem restF_any {g : Nat} (z : Int) (h : Wi z) (w : World) (hm : Mm w [(g, modc pB)]) : Calls Tryz.prog 193 #[.agg #[PT g 0], V [lo z, hi z]] w fun e w' => e = .returned (N (pz z)) ∧ Below w.heap.size w w' := by
  have ok := pB_ok
  have h9 := nine_p
  have hr := rest_num z h
  have hlo : lo z < big := Nat.mod_lt _ big_pos
  have hhi : hi z < big := by
    have := wz_lt z
    unfold bb at this
    exact Nat.div_lt_of_lt_mul this
  have c1 := fun w hm => n_any (g := g) ok w hm
  have c2 := fun w => shift_up pB 1 (by decide) w
  have e2 : pB * 2 ^ 1 % big = 2 * pB := by rw [Nat.pow_one, Nat.mul_comm, Nat.mod_eq_of_lt (by omega)]
  rw [e2] at c2
  have c3 := fun w => add_any (hi z) (2 * pB) hhi (by omega) w
  have c4 := fun w hm => wide_any (g := g) ok hlo (Nat.mod_lt (hi z + 2 * pB) big_pos) w hm
  rw [hr] at c4
  exact rest_gen g pB _ _ (lo z) (hi z) _ _ _ _ c1 c2 c3 c4 w hm
theorem times2_any (a0 a1 b0 b1 : Nat) (ha : a0 + a1 < big) (hb : b0 + b1 < big) (w : World) : Calls Tryz.prog 188 #[V [a0, a1], V [b0, b1]] w fun e w' => e = .returned (V [lo ((a0 : Int) * b0 - (a1 : Int) * b1), hi ((a0 : Int) * b0 - (a1 : Int) * b1), lo ((a0 : Int) * b1 + (a1 : Int) * b0), hi ((a0 : Int) * b1 + (a1 : Int) * b0)]) ∧ Below w.heap.size w w' := by
  have c8 := fun w => lessZ_any (((a0 + a1 : Nat) : Int) * ((b0 + b1 : Nat) : Int) - (a0 : Int) * b0) ((a1 : Int) * b1) w
  have e : ((a0 + a1 : Nat) : Int) * ((b0 + b1 : Nat) : Int) - (a0 : Int) * b0 - (a1 : Int) * b1 = (a0 : Int) * b1 + (a1 : Int) * b0 := by
    rw [Int.natCast_add, Int.natCast_add]
    grind
  rw [e] at c8
  exact times2_gen a0 a1 b0 b1 (a0 + a1) (b0 + b1) _ _ _ _ _ _ _ _ _ _ _ _ (fun w => timesZ_any a0 b0 (by omega) (by omega) w) (fun w => timesZ_any a1 b1 (by omega) (by omega) w) (fun w => together_any a0 a1 ha w) (fun w => together_any b0 b1 hb w) (fun w => timesZ_any (a0 + a1) (b0 + b1) ha hb w) (fun w => lessZ_any _ _ w) (fun w => lessZ_any _ _ w) c8 w
theorem mulF_any {g : Nat} (a0 a1 b0 b1 : Int) (w : World) (hm : Mm w [(g, modc pB)]) : Calls Tryz.prog 158 #[.agg #[PT g 0], V [pz a0, pz a1], V [pz b0, pz b1]] w fun e w' => e = .returned (V [pz (a0 * b0 - a1 * b1), pz (a0 * b1 + a1 * b0)]) ∧ Below w.heap.size w w' := by
  have h9 := nine_p
  have la0 := pz_lt a0
  have la1 := pz_lt a1
  have lb0 := pz_lt b0
  have lb1 := pz_lt b1
  have hp : ∀ x y : Int, 0 ≤ (pz x : Int) * (pz y : Int) ∧ (pz x : Int) * (pz y : Int) ≤ (pB : Int) * pB := fun x y => by
    have h := Nat.mul_le_mul (Nat.le_of_lt (pz_lt x)) (Nat.le_of_lt (pz_lt y))
    rw [← Int.natCast_mul, ← Int.natCast_mul]
    omega
  have w0 : Wi ((pz a0 : Int) * pz b0 - (pz a1 : Int) * pz b1) := by have := hp a0 b0; have := hp a1 b1; unfold Wi; omega
  have w1 : Wi ((pz a0 : Int) * pz b1 + (pz a1 : Int) * pz b0) := by have := hp a0 b1; have := hp a1 b0; unfold Wi; omega
  have c2 := fun w hm => rest2_gen g pB (big % pB) (big * big % pB) _ _ _ _ _ _ (fun w hm => restF_any (g := g) _ w0 w hm) (fun w hm => restF_any (g := g) _ w1 w hm) w hm
  rw [pz_submul, pz_addmul] at c2
  exact mul2_gen g pB _ _ (pz a0) (pz a1) (pz b0) (pz b1) _ _ _ _ _ _ (fun w => times2_any (pz a0) (pz a1) (pz b0) (pz b1) (by omega) (by omega) w) c2 w hm
theorem left2_any (a0 a1 : Nat) (h0 : a0 < big) (h1 : a1 < big) (w : World) : Calls Tryz.prog 132 #[V [a0, a1]] w fun e w' => e = .returned (V [pz a0, pz a1]) ∧ Below w.heap.size w w' := by
  rw [pz_nat, pz_nat]
  exact left2_gen a0 a1 _ _ (fun w => left_any a0 h0 w) (fun w => left_any a1 h1 w) w
theorem diffZ_any (x y : Int) (w : World) : Calls Tryz.prog 181 #[N (pz x), N (pz y)] w fun e w' => e = .returned (N (pz (x - y))) ∧ Below w.heap.size w w' := by
  have h := diffP_any (pz x) (pz y) (pz_lt x) (pz_lt y) w
  rw [subm_pz] at h
  exact h
theorem sub2_any (a0 a1 b0 b1 : Nat) (h0 : a0 < big) (h1 : a1 < big) (k0 : b0 < big) (k1 : b1 < big) (w : World) : Calls Tryz.prog 111 #[V [a0, a1], V [b0, b1]] w fun e w' => e = .returned (V [pz ((a0 : Int) - b0), pz ((a1 : Int) - b1)]) ∧ Below w.heap.size w w' :=
  sub2_gen a0 a1 b0 b1 _ _ _ _ _ _ (fun w => left2_any a0 a1 h0 h1 w) (fun w => left2_any b0 b1 k0 k1 w) (fun w => diffZ_any _ _ w) (fun w => diffZ_any _ _ w) w
theorem neg2_any (a0 a1 : Nat) (h0 : a0 < big) (h1 : a1 < big) (w : World) : Calls Tryz.prog 91 #[V [a0, a1]] w fun e w' => e = .returned (V [pz (-(a0 : Int)), pz (-(a1 : Int))]) ∧ Below w.heap.size w w' := by
  have c := fun w => sub2_any 0 0 a0 a1 big_pos big_pos h0 h1 w
  rw [show ((0 : Nat) : Int) - (a0 : Int) = -(a0 : Int) by omega, show ((0 : Nat) : Int) - (a1 : Int) = -(a1 : Int) by omega] at c
  exact neg2_gen a0 a1 _ _ c w
theorem pz_zero : pz 0 = 0 := by unfold pz; rw [Int.zero_emod]; rfl
theorem negated_any (x : Int) (w : World) : Calls Tryz.prog 160 #[N (pz x)] w fun e w' => e = .returned (N (pz (-x))) ∧ Below w.heap.size w w' := by
  have c := fun w => diffZ_any 0 x w
  rw [pz_zero, Int.zero_sub] at c
  exact negated_gen (pz x) _ c w
theorem conj2_any (a0 a1 : Nat) (h0 : a0 < big) (h1 : a1 < big) (w : World) : Calls Tryz.prog 116 #[V [a0, a1]] w fun e w' => e = .returned (V [pz a0, pz (-(a1 : Int))]) ∧ Below w.heap.size w w' :=
  conj2_gen a0 a1 _ _ _ (fun w => left2_any a0 a1 h0 h1 w) (fun w => negated_any _ w) w
end Rg
end Go.Proofs.YtdbejmgomajjmaaGreatDoor
end
section
namespace Go.Proofs.YtdbejmgomajjmaaGreatDoor
open Go.RowKit
namespace Rg
set_option maxHeartbeats 1000000 in
set_option maxRecDepth 100000 in
theorem norm_gen (g n o s a0 a1 f0 f1 q0 q1 z0 z1 r : Nat)
    (c0 : ∀ w, Calls Tryz.prog 207 #[N a0, N a0] w fun e w' => e = .returned (V [f0, f1]) ∧ Below w.heap.size w w')
    (c1 : ∀ w, Calls Tryz.prog 207 #[N a1, N a1] w fun e w' => e = .returned (V [q0, q1]) ∧ Below w.heap.size w w')
    (c2 : ∀ w, Calls Tryz.prog 192 #[V [f0, f1], V [q0, q1]] w fun e w' => e = .returned (V [z0, z1]) ∧ Below w.heap.size w w')
    (c3 : ∀ w, Mm w [(g, modx n o s)] → Calls Tryz.prog 193 #[.agg #[PT g 0], V [z0, z1]] w fun e w' => e = .returned (N r) ∧ Below w.heap.size w w') (w : World) (hm : Mm w [(g, modx n o s)]) :
    Calls Tryz.prog 159 #[.agg #[PT g 0], V [a0, a1]] w fun e w' => e = .returned (N r) ∧ Below w.heap.size w w' := by
  have H0 : Hid (_ ∧ _) := ⟨hm, Below.refl w.heap.size w⟩
  clear hm
  have C0 : Hid _ := c0
  have C1 : Hid _ := c1
  have C2 : Hid _ := c2
  have C3 : Hid _ := c3
  clear c0 c1 c2 c3
  go_enter Tryz.func159, Tryz.ntmps159
  refine wp_seq ?_
  refine walk_seqA 3 [.made [PT g 0] 100, .made (cel [a0, a1]) 28, .made zero6 24] (sB H0) ?ho1 ?he1
  case ho1 => exact ak (fun γ => ⟨rfl, fun w' => ex_boxF rfl rfl⟩) (ak (fun γ => ⟨rfl, fun w' => ex_boxA rfl rfl⟩) (ak (fun γ => ⟨rfl, fun w' => exec_made6 rfl⟩) trivial))
  intro γ w1 l hM hl
  have H1 : Hid (Mm w1 [(γ 0, [PT g 0]), (γ 1, cel [a0, a1]), (γ 2, zero6), (g, modx n o s)] ∧ _) := growB H0 hM (Nat.le_refl _) hl [0, 1, 2] rfl (by decide)
  have o1_0 := ownB H0 hM (Nat.le_refl _) hl (i := 0) rfl
  have o1_1 := ownB H0 hM (Nat.le_refl _) hl (i := 1) rfl
  have o1_2 := ownB H0 hM (Nat.le_refl _) hl (i := 2) rfl
  clear hM hl l
  generalize γ 0 = γ1_0 at H1 o1_0 ⊢
  generalize γ 1 = γ1_1 at H1 o1_1 ⊢
  generalize γ 2 = γ1_2 at H1 o1_2 ⊢
  clear γ
  refine rest0 rfl (then_normal (wp_seq ?_))
  refine walk_anyB 13 [.quiet (.agg #[PT g 0]), .quiet (PT γ1_1 0), .quiet (N a0), .quiet (PT γ1_1 0), .quiet (N a0), .call (V [f0, f1]), .quiet (PT γ1_1 6), .quiet (N a1), .quiet (PT γ1_1 6), .quiet (N a1), .call (V [q0, q1]), .call (V [z0, z1]), .call (N r)] H1 ?ho2 ?he2
  case ho2 => exact ak (fun γ => ⟨rfl, fun w' h => ex_loadF h 0 rfl rfl rfl rfl⟩) (ak (by refine fun γ => ⟨rfl, fun w' h => ?_⟩; clear h; go_simp) (ak (fun γ => ⟨rfl, fun w' h => ex_loadN (i := 0) h 1 rfl rfl rfl rfl⟩) (ak (by refine fun γ => ⟨rfl, fun w' h => ?_⟩; clear h; go_simp) (ak (fun γ => ⟨rfl, fun w' h => ex_loadN (i := 0) h 1 rfl rfl rfl rfl⟩) (ak (fun γ => ⟨rfl, fun w' h => ⟨207, #[N a0, N a0], exec_call rfl call207 rfl (mpn rfl), C0.out w'⟩⟩) (ak (by refine fun γ => ⟨rfl, fun w' h => ?_⟩; clear h; go_simp) (ak (fun γ => ⟨rfl, fun w' h => ex_loadN (i := 1) h 1 rfl rfl rfl rfl⟩) (ak (by refine fun γ => ⟨rfl, fun w' h => ?_⟩; clear h; go_simp) (ak (fun γ => ⟨rfl, fun w' h => ex_loadN (i := 1) h 1 rfl rfl rfl rfl⟩) (ak (fun γ => ⟨rfl, fun w' h => ⟨207, #[N a1, N a1], exec_call rfl call207 rfl (mpn rfl), C1.out w'⟩⟩) (ak (fun γ => ⟨rfl, fun w' h => ⟨192, #[V [f0, f1], V [q0, q1]], exec_call rfl call192 rfl (mpn rfl), C2.out w'⟩⟩) (ak (fun γ => ⟨rfl, fun w' h => ⟨193, #[.agg #[PT g 0], V [z0, z1]], exec_call rfl call193 rfl (mpn rfl), C3.out w' (h.one 3 rfl)⟩⟩) trivial))))))))))))
  intro _ w2 H2
  clear H1
  refine rest_at (l := [13]) rfl ?_
  refine rest_store rfl rfl rfl (ex_store6 H2.out.1 2 rfl rfl rfl rfl (Nat.le_of_ble_eq_true rfl)) ?_
  have H3 : Hid (Mm (w2.setCells γ1_2 0 (cells6 r)) [(γ1_0, [PT g 0]), (γ1_1, cel [a0, a1]), (γ1_2, cells6 r), (g, modx n o s)] ∧ Below w.heap.size w (w2.setCells γ1_2 0 (cells6 r))) := ⟨H2.out.1.put 2 (off := 0) (vs := cells6 r) rfl (Nat.le_of_ble_eq_true rfl), below_setCells _ o1_2.out _ _ _ H2.out.2⟩
  clear H2
  generalize hgw : World.setCells _ _ _ _ = w3 at H3 ⊢
  clear hgw
  refine rest_nil (then_normal (wp_ret ?_))
  repeat (first | refine then_ret ?_ | refine block_ret ?_)
  have c0 := H3.out.1.get 2 rfl 0 rfl
  have c1 := H3.out.1.get 2 rfl 1 rfl
  have c2 := H3.out.1.get 2 rfl 2 rfl
  have c3 := H3.out.1.get 2 rfl 3 rfl
  have c4 := H3.out.1.get 2 rfl 4 rfl
  have c5 := H3.out.1.get 2 rfl 5 rfl
  refine bodyPost_ret (v := N r) (by simp [results, Tryz.results159, go_sem, *]) rfl ?_
  exact ⟨rfl, H3.out.2⟩
set_option maxHeartbeats 1000000 in
set_option maxRecDepth 100000 in
theorem inv2_ok (g n o s a0 a1 q x d r0 r1 : Nat)
    (c0 : ∀ w, Mm w [(g, modx n o s)] → Calls Tryz.prog 159 #[.agg #[PT g 0], V [a0, a1]] w fun e w' => e = .returned (N q) ∧ Below w.heap.size w w')
    (c1 : ∀ w, Mm w [(g, modx n o s), (0, dtab)] → Calls Tryz.prog 103 #[PT g 0, N q] w fun e w' => e = .returned (.tuple #[N x, .int .i64 0]) ∧ Below w.heap.size w w')
    (c2 : ∀ w, Mm w [(g, modx n o s)] → Calls Tryz.prog 102 #[PT g 0, N a0, N x] w fun e w' => e = .returned (N r0) ∧ Below w.heap.size w w')
    (c3 : ∀ w, Calls Tryz.prog 160 #[N a1] w fun e w' => e = .returned (N d) ∧ Below w.heap.size w w')
    (c4 : ∀ w, Mm w [(g, modx n o s)] → Calls Tryz.prog 102 #[PT g 0, N d, N x] w fun e w' => e = .returned (N r1) ∧ Below w.heap.size w w') (w : World) (hm : Mm w [(g, modx n o s), (0, dtab)]) :
    Calls Tryz.prog 90 #[.agg #[PT g 0], V [a0, a1]] w fun e w' => e = .returned (.tuple #[V [r0, r1], .int .i64 0]) ∧ Below w.heap.size w w' := by
  have H0 : Hid (_ ∧ _) := ⟨hm, Below.refl w.heap.size w⟩
  clear hm
  have C0 : Hid _ := c0
  have C1 : Hid _ := c1
  have C2 : Hid _ := c2
  have C3 : Hid _ := c3
  have C4 : Hid _ := c4
  clear c0 c1 c2 c3 c4
  go_enter Tryz.func90, Tryz.ntmps90
  refine wp_seq ?_
  refine walk_seqA 4 [.made [PT g 0] 100, .made (cel [a0, a1]) 28, .made (cel [0, 0]) 28, .quiet (.int .i64 0)] (sB H0) ?ho1 ?he1
  case ho1 => exact ak (fun γ => ⟨rfl, fun w' => ex_boxF rfl rfl⟩) (ak (fun γ => ⟨rfl, fun w' => ex_boxA rfl rfl⟩) (ak (fun γ => ⟨rfl, fun w' => ex_madeE2 rfl⟩) (ak (fun _ => ⟨rfl, fun _ _ => rfl⟩) trivial)))
  intro γ w1 l hM hl
  have H1 : Hid (Mm w1 [(γ 0, [PT g 0]), (γ 1, cel [a0, a1]), (γ 2, cel [0, 0]), (g, modx n o s), (0, dtab)] ∧ _) := growB H0 hM (Nat.le_refl _) hl [0, 1, 2] rfl (by decide)
  have o1_0 := ownB H0 hM (Nat.le_refl _) hl (i := 0) rfl
  have o1_1 := ownB H0 hM (Nat.le_refl _) hl (i := 1) rfl
  have o1_2 := ownB H0 hM (Nat.le_refl _) hl (i := 2) rfl
  clear hM hl l
  generalize γ 0 = γ1_0 at H1 o1_0 ⊢
  generalize γ 1 = γ1_1 at H1 o1_1 ⊢
  generalize γ 2 = γ1_2 at H1 o1_2 ⊢
  clear γ
  refine rest0 rfl (then_normal (wp_seq ?_))
  refine walk_anyA 12 [.quiet (PT γ1_0 0), .quiet (PT g 0), .quiet (.agg #[PT g 0]), .quiet (V [a0, a1]), .call (N q), .call (.tuple #[N x, .int .i64 0]), .quiet (.tuple #[N x, .int .i64 0]), .quiet (N x), .quiet (.int .i64 0), .made zero6 24, .laid 9 zero6 (cells6 x), .quiet (.int .i64 0)] (sB H1) ?ho2 ?he2 (hL := ?hL2)
  case hL2 => exact ⟨⟨_, rfl⟩, trivial⟩
  case ho2 => exact ak (by refine fun γ => ⟨rfl, fun w' h => ?_⟩; clear h; go_simp) (ak (fun γ => ⟨rfl, fun w' h => ex_loadQ h 0 rfl rfl rfl rfl⟩) (ak (fun γ => ⟨rfl, fun w' h => ex_loadF h 0 rfl rfl rfl rfl⟩) (ak (fun γ => ⟨rfl, fun w' h => ex_loadA (i := 0) (k := 2) h 1 rfl rfl rfl Tryz.isAgg28 Tryz.sizeOf28 rfl rfl⟩) (ak (fun γ => ⟨rfl, fun w' h => ⟨159, #[.agg #[PT g 0], V [a0, a1]], exec_call rfl call159 rfl (mpn rfl), C0.out w' (h.one 3 rfl)⟩⟩) (ak (fun γ => ⟨rfl, fun w' h => ⟨103, #[PT g 0, N q], exec_call rfl call103 rfl (mpn rfl), C1.out w' (h.two 3 4 rfl rfl (by decide))⟩⟩) (ak (fun _ => ⟨rfl, fun _ _ => rfl⟩) (ak (by refine fun γ => ⟨rfl, fun w' h => ?_⟩; clear h; go_simp) (ak (by refine fun γ => ⟨rfl, fun w' h => ?_⟩; clear h; go_simp) (ak (fun γ => ⟨rfl, fun w' => exec_made6 rfl⟩) (ak (fun γ => ⟨rfl, rfl, rfl, fun w' h => exec_laid6 h rfl rfl rfl⟩) (ak (fun _ => ⟨rfl, fun _ _ => rfl⟩) trivial)))))))))))
  intro γ w2 l hM hl
  have H2 : Hid (Mm w2 [(γ 9, cells6 x), (γ1_0, [PT g 0]), (γ1_1, cel [a0, a1]), (γ1_2, cel [0, 0]), (g, modx n o s), (0, dtab)] ∧ _) := growB H1 hM (Nat.le_refl _) hl [9] rfl (by decide)
  have o2_9 := ownB H1 hM (Nat.le_refl _) hl (i := 9) rfl
  clear hM hl l H1
  generalize γ 9 = γ2_9 at H2 o2_9 ⊢
  clear γ
  refine rest0 rfl (then_normal (wp_seq (wp_seq ?_)))
  refine walk_seqB 2 [.quiet (.int .i64 0), .quiet (.bool false)] H2 ?ho3 ?he3
  case ho3 => exact ak (fun _ => ⟨rfl, fun _ _ => rfl⟩) (ak (by refine fun γ => ⟨rfl, fun w' h => ?_⟩; clear h; go_simp) trivial)
  intro _ w3 H3
  clear H2
  refine rest0 rfl (then_normal (wp_cond_false rfl ?_))
  refine wp_skip (then_normal (wp_seq ?_))
  refine walk_anyB 14 [.quiet (PT γ1_0 0), .quiet (PT g 0), .quiet (PT γ1_1 0), .quiet (N a0), .quiet (N x), .call (N r0), .quiet (PT γ1_0 0), .quiet (PT g 0), .quiet (PT γ1_1 6), .quiet (N a1), .call (N d), .quiet (N x), .call (N r1), .quiet (V [r0, r1])] H3 ?ho4 ?he4
  case ho4 => exact ak (by refine fun γ => ⟨rfl, fun w' h => ?_⟩; clear h; go_simp) (ak (fun γ => ⟨rfl, fun w' h => ex_loadQ h 1 rfl rfl rfl rfl⟩) (ak (by refine fun γ => ⟨rfl, fun w' h => ?_⟩; clear h; go_simp) (ak (fun γ => ⟨rfl, fun w' h => ex_loadN (i := 0) h 2 rfl rfl rfl rfl⟩) (ak (fun γ => ⟨rfl, fun w' h => ex_load6 h 0 rfl rfl rfl rfl⟩) (ak (fun γ => ⟨rfl, fun w' h => ⟨102, #[PT g 0, N a0, N x], exec_call rfl call102 rfl (mpn rfl), C2.out w' (h.one 4 rfl)⟩⟩) (ak (by refine fun γ => ⟨rfl, fun w' h => ?_⟩; clear h; go_simp) (ak (fun γ => ⟨rfl, fun w' h => ex_loadQ h 1 rfl rfl rfl rfl⟩) (ak (by refine fun γ => ⟨rfl, fun w' h => ?_⟩; clear h; go_simp) (ak (fun γ => ⟨rfl, fun w' h => ex_loadN (i := 1) h 2 rfl rfl rfl rfl⟩) (ak (fun γ => ⟨rfl, fun w' h => ⟨160, #[N a1], exec_call rfl call160 rfl (mpn rfl), C3.out w'⟩⟩) (ak (fun γ => ⟨rfl, fun w' h => ex_load6 h 0 rfl rfl rfl rfl⟩) (ak (fun γ => ⟨rfl, fun w' h => ⟨102, #[PT g 0, N d, N x], exec_call rfl call102 rfl (mpn rfl), C4.out w' (h.one 4 rfl)⟩⟩) (ak (fun γ => ⟨rfl, fun w' _ => ex_buildE2 rfl rfl rfl⟩) trivial)))))))))))))
  intro _ w4 H4
  clear H3
  refine rest_at (l := [14, 15]) rfl ?_
  refine rest_store rfl rfl rfl (ex_storeA (i := 0) (ms := [r0, r1]) H4.out.1 3 rfl rfl rfl rfl Tryz.sizeOf28 (Nat.le_of_ble_eq_true rfl)) ?_
  have H5 : Hid (Mm (w4.setCells γ1_2 (6 * 0) (cel [r0, r1])) [(γ2_9, cells6 x), (γ1_0, [PT g 0]), (γ1_1, cel [a0, a1]), (γ1_2, cel [r0, r1]), (g, modx n o s), (0, dtab)] ∧ Below w.heap.size w (w4.setCells γ1_2 (6 * 0) (cel [r0, r1]))) := ⟨by
    have h := H4.out.1.put 3 (off := 6 * 0) (vs := cel [r0, r1]) rfl (by simp only [cel_len]; exact Nat.le_of_ble_eq_true rfl)
    rw [cel_patch] at h
    exact h, below_setCells _ o1_2.out _ _ _ H4.out.2⟩
  clear H4
  generalize hgw : World.setCells _ _ _ _ = w5 at H5 ⊢
  clear hgw
  refine rest_set (d := 5) rfl rfl rfl rfl ?_
  simp only [Act.put, sa, sz, ss]
  refine rest_nil (then_normal (wp_ret ?_))
  repeat (first | refine then_ret ?_ | refine block_ret ?_)
  have hf0 := cel_var (k := 2) H5.out.1 3 rfl Tryz.isAgg28 Tryz.sizeOf28 rfl
  refine bodyPost_ret (v := .tuple #[V [r0, r1], .int .i64 0]) (by simp [results, Tryz.results90, asAddr, Act.eval, hf0]) rfl ?_
  exact ⟨rfl, H5.out.2⟩
set_option maxHeartbeats 1000000 in
set_option maxRecDepth 100000 in
theorem inv2_no (g n o s a0 a1 q x : Nat)
    (c0 : ∀ w, Mm w [(g, modx n o s)] → Calls Tryz.prog 159 #[.agg #[PT g 0], V [a0, a1]] w fun e w' => e = .returned (N q) ∧ Below w.heap.size w w')
    (c1 : ∀ w, Mm w [(g, modx n o s), (0, dtab)] → Calls Tryz.prog 103 #[PT g 0, N q] w fun e w' => e = .returned (.tuple #[N x, .int .i64 6]) ∧ Below w.heap.size w w') (w : World) (hm : Mm w [(g, modx n o s), (0, dtab)]) :
    Calls Tryz.prog 90 #[.agg #[PT g 0], V [a0, a1]] w fun e w' => e = .returned (.tuple #[V [0, 0], .int .i64 6]) ∧ Below w.heap.size w w' := by
  have H0 : Hid (_ ∧ _) := ⟨hm, Below.refl w.heap.size w⟩
  clear hm
  have C0 : Hid _ := c0
  have C1 : Hid _ := c1
  clear c0 c1
  go_enter Tryz.func90, Tryz.ntmps90
  refine wp_seq ?_
  refine walk_seqA 4 [.made [PT g 0] 100, .made (cel [a0, a1]) 28, .made (cel [0, 0]) 28, .quiet (.int .i64 0)] (sB H0) ?ho1 ?he1
  case ho1 => exact ak (fun γ => ⟨rfl, fun w' => ex_boxF rfl rfl⟩) (ak (fun γ => ⟨rfl, fun w' => ex_boxA rfl rfl⟩) (ak (fun γ => ⟨rfl, fun w' => ex_madeE2 rfl⟩) (ak (fun _ => ⟨rfl, fun _ _ => rfl⟩) trivial)))
  intro γ w1 l hM hl
  have H1 : Hid (Mm w1 [(γ 0, [PT g 0]), (γ 1, cel [a0, a1]), (γ 2, cel [0, 0]), (g, modx n o s), (0, dtab)] ∧ _) := growB H0 hM (Nat.le_refl _) hl [0, 1, 2] rfl (by decide)
  have o1_0 := ownB H0 hM (Nat.le_refl _) hl (i := 0) rfl
  have o1_1 := ownB H0 hM (Nat.le_refl _) hl (i := 1) rfl
  have o1_2 := ownB H0 hM (Nat.le_refl _) hl (i := 2) rfl
  clear hM hl l
  generalize γ 0 = γ1_0 at H1 o1_0 ⊢
  generalize γ 1 = γ1_1 at H1 o1_1 ⊢
  generalize γ 2 = γ1_2 at H1 o1_2 ⊢
  clear γ
  refine rest0 rfl (then_normal (wp_seq ?_))
  refine walk_anyA 12 [.quiet (PT γ1_0 0), .quiet (PT g 0), .quiet (.agg #[PT g 0]), .quiet (V [a0, a1]), .call (N q), .call (.tuple #[N x, .int .i64 6]), .quiet (.tuple #[N x, .int .i64 6]), .quiet (N x), .quiet (.int .i64 6), .made zero6 24, .laid 9 zero6 (cells6 x), .quiet (.int .i64 6)] (sB H1) ?ho2 ?he2 (hL := ?hL2)
  case hL2 => exact ⟨⟨_, rfl⟩, trivial⟩
  case ho2 => exact ak (by refine fun γ => ⟨rfl, fun w' h => ?_⟩; clear h; go_simp) (ak (fun γ => ⟨rfl, fun w' h => ex_loadQ h 0 rfl rfl rfl rfl⟩) (ak (fun γ => ⟨rfl, fun w' h => ex_loadF h 0 rfl rfl rfl rfl⟩) (ak (fun γ => ⟨rfl, fun w' h => ex_loadA (i := 0) (k := 2) h 1 rfl rfl rfl Tryz.isAgg28 Tryz.sizeOf28 rfl rfl⟩) (ak (fun γ => ⟨rfl, fun w' h => ⟨159, #[.agg #[PT g 0], V [a0, a1]], exec_call rfl call159 rfl (mpn rfl), C0.out w' (h.one 3 rfl)⟩⟩) (ak (fun γ => ⟨rfl, fun w' h => ⟨103, #[PT g 0, N q], exec_call rfl call103 rfl (mpn rfl), C1.out w' (h.two 3 4 rfl rfl (by decide))⟩⟩) (ak (fun _ => ⟨rfl, fun _ _ => rfl⟩) (ak (by refine fun γ => ⟨rfl, fun w' h => ?_⟩; clear h; go_simp) (ak (by refine fun γ => ⟨rfl, fun w' h => ?_⟩; clear h; go_simp) (ak (fun γ => ⟨rfl, fun w' => exec_made6 rfl⟩) (ak (fun γ => ⟨rfl, rfl, rfl, fun w' h => exec_laid6 h rfl rfl rfl⟩) (ak (fun _ => ⟨rfl, fun _ _ => rfl⟩) trivial)))))))))))
  intro γ w2 l hM hl
  have H2 : Hid (Mm w2 [(γ 9, cells6 x), (γ1_0, [PT g 0]), (γ1_1, cel [a0, a1]), (γ1_2, cel [0, 0]), (g, modx n o s), (0, dtab)] ∧ _) := growB H1 hM (Nat.le_refl _) hl [9] rfl (by decide)
  have o2_9 := ownB H1 hM (Nat.le_refl _) hl (i := 9) rfl
  clear hM hl l H1
  generalize γ 9 = γ2_9 at H2 o2_9 ⊢
  clear γ
  refine rest0 rfl (then_normal (wp_seq (wp_seq ?_)))
  refine walk_seqB 2 [.quiet (.int .i64 6), .quiet (.bool true)] H2 ?ho3 ?he3
  case ho3 => exact ak (fun _ => ⟨rfl, fun _ _ => rfl⟩) (ak (by refine fun γ => ⟨rfl, fun w' h => ?_⟩; clear h; go_simp) trivial)
  intro _ w3 H3
  clear H2
  refine rest0 rfl (then_normal (wp_cond_true rfl (wp_seq ?_)))
  refine walk_seqB 2 [.quiet (V [0, 0]), .quiet (.int .i64 6)] H3 ?ho4 ?he4
  case ho4 => exact ak (fun γ => ⟨rfl, fun w' _ => ex_buildE2z rfl⟩) (ak (fun _ => ⟨rfl, fun _ _ => rfl⟩) trivial)
  intro _ w4 H4
  clear H3
  refine rest_at (l := [2, 3]) rfl ?_
  refine rest_store rfl rfl rfl (ex_storeA (i := 0) (ms := [0, 0]) H4.out.1 3 rfl rfl rfl rfl Tryz.sizeOf28 (Nat.le_of_ble_eq_true rfl)) ?_
  have H5 : Hid (Mm (w4.setCells γ1_2 (6 * 0) (cel [0, 0])) [(γ2_9, cells6 x), (γ1_0, [PT g 0]), (γ1_1, cel [a0, a1]), (γ1_2, cel [0, 0]), (g, modx n o s), (0, dtab)] ∧ Below w.heap.size w (w4.setCells γ1_2 (6 * 0) (cel [0, 0]))) := ⟨by
    have h := H4.out.1.put 3 (off := 6 * 0) (vs := cel [0, 0]) rfl (by simp only [cel_len]; exact Nat.le_of_ble_eq_true rfl)
    rw [cel_patch] at h
    exact h, below_setCells _ o1_2.out _ _ _ H4.out.2⟩
  clear H4
  generalize hgw : World.setCells _ _ _ _ = w5 at H5 ⊢
  clear hgw
  refine rest_set (d := 5) rfl rfl rfl rfl ?_
  simp only [Act.put, sa, sz, ss]
  refine rest_nil (then_normal (wp_ret ?_))
  repeat (first | refine then_ret ?_ | refine block_ret ?_)
  have hf0 := cel_var (k := 2) H5.out.1 3 rfl Tryz.isAgg28 Tryz.sizeOf28 rfl
  refine bodyPost_ret (v := .tuple #[V [0, 0], .int .i64 6]) (by simp [results, Tryz.results90, asAddr, Act.eval, hf0]) rfl ?_
  exact ⟨rfl, H5.out.2⟩
set_option maxHeartbeats 1000000 in
set_option maxRecDepth 100000 in
theorem one2_gen (k1 : Nat)
    (c0 : ∀ w, Calls Tryz.prog 24 #[.int .u64 1] w fun e w' => e = .returned (N k1) ∧ Below w.heap.size w w') (w : World) :
    Calls Tryz.prog 71 #[] w fun e w' => e = .returned (V [k1, 0]) ∧ Below w.heap.size w w' := by
  have H0 : Hid (_ ∧ _) := ⟨Mm.nil w, Below.refl w.heap.size w⟩
  have C0 : Hid _ := c0
  clear c0
  go_enter Tryz.func71, Tryz.ntmps71
  refine wp_seq ?_
  refine walk_seqA 1 [.made (cel [0, 0]) 28] (sB H0) ?ho1 ?he1
  case ho1 => exact ak (fun γ => ⟨rfl, fun w' => ex_madeE2 rfl⟩) trivial
  intro γ w1 l hM hl
  have H1 : Hid (Mm w1 [(γ 0, cel [0, 0])] ∧ _) := growB H0 hM (Nat.le_refl _) hl [0] rfl (by decide)
  have o1_0 := ownB H0 hM (Nat.le_refl _) hl (i := 0) rfl
  clear hM hl l
  generalize γ 0 = γ1_0 at H1 o1_0 ⊢
  clear γ
  refine rest0 rfl (then_normal (wp_seq ?_))
  refine walk_seqB 2 [.call (N k1), .quiet (V [k1, 0])] H1 ?ho2 ?he2
  case ho2 => exact ak (fun γ => ⟨rfl, fun w' h => ⟨24, #[.int .u64 1], exec_call rfl call24 rfl (mpn rfl), C0.out w'⟩⟩) (ak (fun γ => ⟨rfl, fun w' _ => ex_buildE2a rfl rfl⟩) trivial)
  intro _ w2 H2
  clear H1
  refine rest_at (l := [2]) rfl ?_
  refine rest_store rfl rfl rfl (ex_storeA (i := 0) (ms := [k1, 0]) H2.out.1 0 rfl rfl rfl rfl Tryz.sizeOf28 (Nat.le_of_ble_eq_true rfl)) ?_
  have H3 : Hid (Mm (w2.setCells γ1_0 (6 * 0) (cel [k1, 0])) [(γ1_0, cel [k1, 0])] ∧ Below w.heap.size w (w2.setCells γ1_0 (6 * 0) (cel [k1, 0]))) := ⟨by
    have h := H2.out.1.put 0 (off := 6 * 0) (vs := cel [k1, 0]) rfl (by simp only [cel_len]; exact Nat.le_of_ble_eq_true rfl)
    rw [cel_patch] at h
    exact h, below_setCells _ o1_0.out _ _ _ H2.out.2⟩
  clear H2
  generalize hgw : World.setCells _ _ _ _ = w3 at H3 ⊢
  clear hgw
  refine rest_nil (then_normal (wp_ret ?_))
  repeat (first | refine then_ret ?_ | refine block_ret ?_)
  have hf0 := cel_var (k := 2) H3.out.1 0 rfl Tryz.isAgg28 Tryz.sizeOf28 rfl
  refine bodyPost_ret (v := V [k1, 0]) (by simp [results, Tryz.results71, asAddr, hf0]) rfl ?_
  exact ⟨rfl, H3.out.2⟩
end Rg
end Go.Proofs.YtdbejmgomajjmaaGreatDoor
end
section
namespace Go.Proofs.YtdbejmgomajjmaaGreatDoor
open Go.RowKit
namespace Rg
end Rg
end Go.Proofs.YtdbejmgomajjmaaGreatDoor
end
section
namespace Go.Proofs.YtdbejmgomajjmaaGreatDoor
open Go.RowKit
namespace Rg
end Rg
end Go.Proofs.YtdbejmgomajjmaaGreatDoor
end
section
namespace Go.Proofs.YtdbejmgomajjmaaGreatDoor
open Go.RowKit
namespace Rg
end Rg
end Go.Proofs.YtdbejmgomajjmaaGreatDoor
end
section
namespace Go.Proofs.YtdbejmgomajjmaaGreatDoor
open Go.RowKit
namespace Rg
/-! Arrays of parts: indices that are counted, and rows that are filled. -/
theorem cel_bd {i m n : Nat} (h : i + m ≤ n) : 6 * i + 6 * m ≤ 6 * n := by omega
theorem ex_idxE12 {ρ : Operand → Value} {o : Oper} {x y : Operand} {g j : Nat} {w : World} (ho : o.op = .indexAddr 32 x y) (hx : ρ x = PT g 0) (hy : ρ y = .int .i64 ((j : Nat) : Int)) (hj : j < 6) :
    (execOp ρ o).run Tryz.prog w = .ok (.value (PT g (6 * (2 * j)))) w := by
  have h1 : (j : Int) < 6 := by omega
  have e : j * 12 = 6 * (2 * j) := by omega
  simp only [execOp, ho, hx, hy]
  clear ho hx hy
  go_simp
theorem ex_idxTH {ρ : Operand → Value} {o : Oper} {x y : Operand} {g j : Nat} {w : World} (ho : o.op = .indexAddr 146 x y) (hx : ρ x = PT g 0) (hy : ρ y = .int .i64 ((j : Nat) : Int)) (hj : j < 3) :
    (execOp ρ o).run Tryz.prog w = .ok (.value (PT g (6 * (2 * j)))) w := by
  have h1 : (j : Int) < 3 := by omega
  have e : j * 12 = 6 * (2 * j) := by omega
  simp only [execOp, ho, hx, hy]
  clear ho hx hy
  go_simp
theorem ex_idxW3 {ρ : Operand → Value} {o : Oper} {x y : Operand} {g j : Nat} {w : World} (ho : o.op = .indexAddr 153 x y) (hx : ρ x = PT g 0) (hy : ρ y = .int .i64 ((j : Nat) : Int)) (hj : j < 3) :
    (execOp ρ o).run Tryz.prog w = .ok (.value (PT g (6 * (4 * j)))) w := by
  have h1 : (j : Int) < 3 := by omega
  have e : j * 24 = 6 * (4 * j) := by omega
  simp only [execOp, ho, hx, hy]
  clear ho hx hy
  go_simp
theorem ex_makeC {P : Program} {ρ : Operand → Value} {o : Oper} {f : FuncId} {xs : Array Operand} {vs : Array Value} {w : World} (ho : o.op = .makeFunc (.func f) #[] xs) (hx : xs.map ρ = vs) :
    (execOp ρ o).run P w = .ok (.value (.func (.func f) #[] vs)) w := by
  subst hx
  simp only [execOp, ho]
  simp [go_sem, Instr.makeFunc]
theorem ex_callC {P : Program} {ρ : Operand → Value} {o : Oper} {f : FuncId} {y : Operand} {xs : Array Operand} {ts : Array TypeId} {x0 x1 y0 y1 : Value} {w : World} (ho : o.op = .call { callee := .value y, args := xs, argTypes := ts }) (hc : ∀ args w, (callFunc f args).run P w = .ok (.enter f args) w) (hf : ρ y = .func (.func f) #[] #[y0, y1]) (hx : xs.map ρ = #[x0, x1]) :
    (execOp ρ o).run P w = .ok (.enter f #[x0, x1, y0, y1]) w := by
  simp only [execOp, ho, resolve, hf, hx]
  simp [go_sem, Deferred.ofValue, invoke, hc]
set_option maxHeartbeats 4000000
set_option maxRecDepth 100000
theorem ex_buildTH {ρ : Operand → Value} {o : Oper} {x0 x1 x2 : Operand} {a0 a1 b0 b1 d0 d1 : Nat} {w : World} (ho : o.op = .build 146 #[(0, x0), (1, x1), (2, x2)]) (h0 : ρ x0 = V [a0, a1]) (h1 : ρ x1 = V [b0, b1]) (h2 : ρ x2 = V [d0, d1]) : (execOp ρ o).run Tryz.prog w = .ok (.value (V [a0, a1, b0, b1, d0, d1])) w := by
  simp only [V, cel, List.cons_append, List.nil_append] at h0
  simp only [V, cel, List.cons_append, List.nil_append] at h1
  simp only [V, cel, List.cons_append, List.nil_append] at h2
  simp only [execOp, ho, V, cel, List.cons_append, List.nil_append]
  go_simp
theorem ex_buildW3 {ρ : Operand → Value} {o : Oper} {x0 x1 x2 : Operand} {a0 a1 a2 a3 b0 b1 b2 b3 d0 d1 d2 d3 : Nat} {w : World} (ho : o.op = .build 153 #[(0, x0), (1, x1), (2, x2)]) (h0 : ρ x0 = V [a0, a1, a2, a3]) (h1 : ρ x1 = V [b0, b1, b2, b3]) (h2 : ρ x2 = V [d0, d1, d2, d3]) : (execOp ρ o).run Tryz.prog w = .ok (.value (V [a0, a1, a2, a3, b0, b1, b2, b3, d0, d1, d2, d3])) w := by
  simp only [V, cel, List.cons_append, List.nil_append] at h0
  simp only [V, cel, List.cons_append, List.nil_append] at h1
  simp only [V, cel, List.cons_append, List.nil_append] at h2
  simp only [execOp, ho, V, cel, List.cons_append, List.nil_append]
  go_simp
  kernel_rfl
theorem ex_buildE12z {ρ : Operand → Value} {o : Oper} {w : World} (ho : o.op = .build 32 #[])  : (execOp ρ o).run Tryz.prog w = .ok (.value (V [0, 0, 0, 0, 0, 0, 0, 0, 0, 0, 0, 0])) w := by
  simp only [execOp, ho, V, cel, List.cons_append, List.nil_append]
  go_simp
  simp only [wd_zero]
  kernel_rfl
theorem ex_buildE12a {ρ : Operand → Value} {o : Oper} {x0 : Operand} {a0 a1 : Nat} {w : World} (ho : o.op = .build 32 #[(0, x0)]) (h0 : ρ x0 = V [a0, a1]) : (execOp ρ o).run Tryz.prog w = .ok (.value (V [a0, a1, 0, 0, 0, 0, 0, 0, 0, 0, 0, 0])) w := by
  simp only [V, cel, List.cons_append, List.nil_append] at h0
  simp only [execOp, ho, V, cel, List.cons_append, List.nil_append]
  go_simp
  simp only [wd_zero]
  kernel_rfl
/-- The first m are r's, the others f's. -/
def mx12 (f r : Nat → Nat) (m : Nat) : List Nat := [if 0 < m then r 0 else f 0, if 1 < m then r 1 else f 1, if 2 < m then r 2 else f 2, if 3 < m then r 3 else f 3, if 4 < m then r 4 else f 4, if 5 < m then r 5 else f 5, if 6 < m then r 6 else f 6, if 7 < m then r 7 else f 7, if 8 < m then r 8 else f 8, if 9 < m then r 9 else f 9, if 10 < m then r 10 else f 10, if 11 < m then r 11 else f 11]
theorem mx12_0 (f r : Nat → Nat) : mx12 f r (2 * 0) = [f 0, f 1, f 2, f 3, f 4, f 5, f 6, f 7, f 8, f 9, f 10, f 11] := rfl
theorem mx12_e (f r : Nat → Nat) : mx12 f r (2 * 6) = [r 0, r 1, r 2, r 3, r 4, r 5, r 6, r 7, r 8, r 9, r 10, r 11] := rfl
theorem mx12_ld (f r : Nat → Nat) {k : Nat} (hk : k < 6) : ((mx12 f r (2 * k)).drop (2 * k)).take 2 = [f (2 * k), f (2 * k + 1)] := by
  match k, hk with
  | 0, _ => rfl
  | 1, _ => rfl
  | 2, _ => rfl
  | 3, _ => rfl
  | 4, _ => rfl
  | 5, _ => rfl
theorem mx12_st (f r : Nat → Nat) {k : Nat} (hk : k < 6) : (mx12 f r (2 * k)).take (2 * k) ++ [r (2 * k), r (2 * k + 1)] ++ (mx12 f r (2 * k)).drop (2 * k + [r (2 * k), r (2 * k + 1)].length) = mx12 f r (2 * (k + 1)) := by
  match k, hk with
  | 0, _ => rfl
  | 1, _ => rfl
  | 2, _ => rfl
  | 3, _ => rfl
  | 4, _ => rfl
  | 5, _ => rfl
theorem mx12_bd (f r : Nat → Nat) {k m : Nat} {l : List Nat} (hl : l.length = 2) (hk : k < 6) : 2 * k + l.length ≤ (mx12 f r m).length := by
  rw [hl]; show 2 * k + 2 ≤ 12; omega
/-- The first m are r's, the others f's. -/
def mx6 (f r : Nat → Nat) (m : Nat) : List Nat := [if 0 < m then r 0 else f 0, if 1 < m then r 1 else f 1, if 2 < m then r 2 else f 2, if 3 < m then r 3 else f 3, if 4 < m then r 4 else f 4, if 5 < m then r 5 else f 5]
theorem mx6_0 (f r : Nat → Nat) : mx6 f r (2 * 0) = [f 0, f 1, f 2, f 3, f 4, f 5] := rfl
theorem mx6_e (f r : Nat → Nat) : mx6 f r (2 * 3) = [r 0, r 1, r 2, r 3, r 4, r 5] := rfl
theorem mx6_ld (f r : Nat → Nat) {k : Nat} (hk : k < 3) : ((mx6 f r (2 * k)).drop (2 * k)).take 2 = [f (2 * k), f (2 * k + 1)] := by
  match k, hk with
  | 0, _ => rfl
  | 1, _ => rfl
  | 2, _ => rfl
theorem mx6_st (f r : Nat → Nat) {k : Nat} (hk : k < 3) : (mx6 f r (2 * k)).take (2 * k) ++ [r (2 * k), r (2 * k + 1)] ++ (mx6 f r (2 * k)).drop (2 * k + [r (2 * k), r (2 * k + 1)].length) = mx6 f r (2 * (k + 1)) := by
  match k, hk with
  | 0, _ => rfl
  | 1, _ => rfl
  | 2, _ => rfl
theorem mx6_bd (f r : Nat → Nat) {k m : Nat} {l : List Nat} (hl : l.length = 2) (hk : k < 3) : 2 * k + l.length ≤ (mx6 f r m).length := by
  rw [hl]; show 2 * k + 2 ≤ 6; omega
theorem tl6_ld (f : Nat → Nat) {k : Nat} (hk : k < 3) : (([f 0, f 1, f 2, f 3, f 4, f 5] : List Nat).drop (2 * k)).take 2 = [f (2 * k), f (2 * k + 1)] := by
  match k, hk with
  | 0, _ => rfl
  | 1, _ => rfl
  | 2, _ => rfl
theorem tl12_ld4 (f : Nat → Nat) {k : Nat} (hk : k < 3) : (([f 0, f 1, f 2, f 3, f 4, f 5, f 6, f 7, f 8, f 9, f 10, f 11] : List Nat).drop (4 * k)).take 4 = [f (4 * k), f (4 * k + 1), f (4 * k + 2), f (4 * k + 3)] := by
  match k, hk with
  | 0, _ => rfl
  | 1, _ => rfl
  | 2, _ => rfl
def zf : Nat → Nat := fun _ => 0
theorem zf_0 (r : Nat → Nat) : mx12 zf r (2 * (2 * 0)) = [0, 0, 0, 0, 0, 0, 0, 0, 0, 0, 0, 0] := rfl
theorem zf_e (r : Nat → Nat) : mx12 zf r (2 * (2 * 3)) = [r 0, r 1, r 2, r 3, r 4, r 5, r 6, r 7, r 8, r 9, r 10, r 11] := rfl
end Rg
end Go.Proofs.YtdbejmgomajjmaaGreatDoor
end
section
namespace Go.Proofs.YtdbejmgomajjmaaGreatDoor
open Go.RowKit
namespace Rg
set_option maxHeartbeats 4000000 in
set_option maxRecDepth 100000 in
theorem leftAll_gen (a r : Nat → Nat)
    (cl : ∀ k, k < 6 → ∀ w, Calls Tryz.prog 132 #[V [a (2 * k), a (2 * k + 1)]] w fun e w' => e = .returned (V [r (2 * k), r (2 * k + 1)]) ∧ Below w.heap.size w w') (w : World) :
    Calls Tryz.prog 63 #[V [a 0, a 1, a 2, a 3, a 4, a 5, a 6, a 7, a 8, a 9, a 10, a 11]] w fun e w' => e = .returned (V [r 0, r 1, r 2, r 3, r 4, r 5, r 6, r 7, r 8, r 9, r 10, r 11]) ∧ Below w.heap.size w w' := by
  have H0 : Hid (_ ∧ _) := ⟨Mm.nil w, Below.refl w.heap.size w⟩
  have CL : Hid _ := cl
  clear cl
  go_enter Tryz.func63, Tryz.ntmps63
  refine wp_seq ?_
  refine walk_seqA 2 [.made (cel [a 0, a 1, a 2, a 3, a 4, a 5, a 6, a 7, a 8, a 9, a 10, a 11]) 32, .made (cel [0, 0, 0, 0, 0, 0, 0, 0, 0, 0, 0, 0]) 32] (sB H0) ?ho1 ?he1
  case ho1 => exact ak (fun γ => ⟨rfl, fun w' => ex_boxA rfl rfl⟩) (ak (fun γ => ⟨rfl, fun w' => ex_madeE12 rfl⟩) trivial)
  intro γ w1 l hM hl
  have H1 : Hid (Mm w1 [(γ 0, cel [a 0, a 1, a 2, a 3, a 4, a 5, a 6, a 7, a 8, a 9, a 10, a 11]), (γ 1, cel [0, 0, 0, 0, 0, 0, 0, 0, 0, 0, 0, 0])] ∧ _) := growB H0 hM (Nat.le_refl _) hl [0, 1] rfl (by decide)
  have o1_0 := ownB H0 hM (Nat.le_refl _) hl (i := 0) rfl
  have o1_1 := ownB H0 hM (Nat.le_refl _) hl (i := 1) rfl
  clear hM hl l
  generalize γ 0 = γ1_0 at H1 o1_0 ⊢
  generalize γ 1 = γ1_1 at H1 o1_1 ⊢
  clear γ
  refine rest0 rfl (then_normal (wp_seq (wp_seq ?_)))
  refine walk_seqB 1 [.quiet (.int .i64 0)] H1 ?ho2 ?he2
  case ho2 => exact ak (fun _ => ⟨rfl, fun _ _ => rfl⟩) trivial
  intro _ w2 H2
  clear H1
  refine rest0 rfl (then_normal (wp_block ?_))
  refine loop_ghost (α := Nat) (fun k a' w' => ∃ s0 : Nat → Value, a' = ⟨#[V [a 0, a 1, a 2, a 3, a 4, a 5, a 6, a 7, a 8, a 9, a 10, a 11], PT γ1_0 0, PT γ1_1 0, s0 3, .int .i64 ((k : Nat) : Int), s0 5, s0 6, s0 7, s0 8, s0 9, s0 10, s0 11, s0 12, s0 13, undef], []⟩ ∧ (Mm w' [(γ1_0, cel (mx12 a r (2 * k))), (γ1_1, cel [0, 0, 0, 0, 0, 0, 0, 0, 0, 0, 0, 0])] ∧ Below w.heap.size w w') ∧ k ≤ 6) (fun k => 6 - k) 0 ?st0 ?rd0
  case st0 => exact ⟨(slotfn [undef, undef, undef, undef, undef, undef, undef, undef, undef, undef, undef, undef, undef, undef]), rfl, ⟨H2.out.1.atk (by rw [mx12_0 a r]), H2.out.2⟩, by omega⟩
  intro k a' w3 hI
  obtain ⟨s0, rfl, hMB, hk0⟩ := hI
  have H3 : Hid (_ ∧ _) := hMB
  clear hMB H2
  by_cases hlt : k < 6
  · have hrd : True := trivial
    clear hrd
    refine wp_seq ?_
    refine walk_seqB 1 [.quiet (.bool true)] H3 ?ho3 ?he3
    case ho3 => exact ak (by refine fun γ => ⟨rfl, fun w' h => ?_⟩; clear h; go_simp <;> omega) trivial
    intro _ w4 H4
    clear H3
    refine rest0 rfl (then_normal (wp_seq ?_))
    refine wp_cond_true rfl (wp_skip ?_)
    refine then_normal (wp_seq ?_)
    refine wp_block (wp_seq ?_)
    refine walk_seqB 2 [.quiet (.int .i64 ((k : Nat) : Int)), .quiet (.int .i64 ((k : Nat) : Int))] H4 ?ho4 ?he4
    case ho4 => exact ak (fun _ => ⟨rfl, fun _ _ => rfl⟩) (ak (fun _ => ⟨rfl, fun _ _ => rfl⟩) trivial)
    intro _ w5 H5
    clear H4
    refine rest0 rfl (then_normal ?_)
    refine walk_seqB 6 [.quiet (.int .i64 ((k : Nat) : Int)), .quiet (.int .i64 ((k : Nat) : Int)), .quiet (PT γ1_0 (6 * (2 * k))), .quiet (V [a (2 * k), a (2 * k + 1)]), .call (V [r (2 * k), r (2 * k + 1)]), .quiet (PT γ1_0 (6 * (2 * k)))] H5 ?ho5 ?he5
    case ho5 => exact ak (fun _ => ⟨rfl, fun _ _ => rfl⟩) (ak (fun _ => ⟨rfl, fun _ _ => rfl⟩) (ak (fun γ => ⟨rfl, fun w' _ => ex_idxE12 rfl rfl rfl (by omega)⟩) (ak (fun γ => ⟨rfl, fun w' h => ex_loadA (i := 2 * k) (k := 2) h 0 rfl rfl rfl Tryz.isAgg28 Tryz.sizeOf28 (mx12_ld a r hlt) rfl⟩) (ak (fun γ => ⟨rfl, fun w' h => ⟨132, #[V [a (2 * k), a (2 * k + 1)]], exec_call rfl call132 rfl (mpn rfl), CL.out k hlt w'⟩⟩) (ak (fun γ => ⟨rfl, fun w' _ => ex_idxE12 rfl rfl rfl (by omega)⟩) trivial)))))
    intro _ w6 H6
    clear H5
    refine rest_at (l := [6]) rfl ?_
    refine rest_store rfl rfl rfl (ex_storeA (i := 2 * k) (ms := [r (2 * k), r (2 * k + 1)]) H6.out.1 0 rfl rfl rfl rfl Tryz.sizeOf28 (mx12_bd a r rfl hlt)) ?_
    have H7 : Hid (Mm (w6.setCells γ1_0 (6 * (2 * k)) (cel [r (2 * k), r (2 * k + 1)])) [(γ1_0, cel (mx12 a r (2 * (k + 1)))), (γ1_1, cel [0, 0, 0, 0, 0, 0, 0, 0, 0, 0, 0, 0])] ∧ Below w.heap.size w (w6.setCells γ1_0 (6 * (2 * k)) (cel [r (2 * k), r (2 * k + 1)]))) := ⟨by
      have h := H6.out.1.put 0 (off := 6 * (2 * k)) (vs := cel [r (2 * k), r (2 * k + 1)]) rfl (by rw [cel_len, cel_len]; exact cel_bd (mx12_bd a r rfl hlt))
      rw [cel_patch, mx12_st a r hlt] at h
      exact h, below_setCells _ o1_0.out _ _ _ H6.out.2⟩
    clear H6
    generalize hgw : World.setCells _ _ _ _ = w7 at H7 ⊢
    clear hgw
    refine rest_nil (block_normal (then_normal ?_))
    refine walk_seqB 1 [.quiet (.int .i64 ((k + 1 : Nat) : Int))] H7 ?ho6 ?he6
    case ho6 => exact ak (by refine fun γ => ⟨rfl, fun w' h => ?_⟩; clear h; go_simp; rw [IntKind.wrap_i64]; omega) trivial
    intro _ w8 H8
    clear H7
    refine rest_at (l := [1]) rfl ?_
    refine rest_set (d := 4) rfl rfl rfl rfl ?_
    simp only [Act.put, sa, sz, ss]
    refine rest_nil (then_normal ?_)
    exact ⟨k + 1, ⟨(slotfn [undef, undef, undef, .int .i64 ((k : Nat) : Int), undef, .bool true, .int .i64 ((k : Nat) : Int), .int .i64 ((k : Nat) : Int), .int .i64 ((k : Nat) : Int), PT γ1_0 (6 * (2 * k)), V [a (2 * k), a (2 * k + 1)], V [r (2 * k), r (2 * k + 1)], PT γ1_0 (6 * (2 * k)), .int .i64 ((k + 1 : Nat) : Int)]), rfl, ⟨H8.out.1, H8.out.2⟩, by omega⟩, by omega⟩
  have hkN : k = 6 := by omega
  subst hkN
  have H9 : Hid (Mm w3 [(γ1_0, cel [r 0, r 1, r 2, r 3, r 4, r 5, r 6, r 7, r 8, r 9, r 10, r 11]), (γ1_1, cel [0, 0, 0, 0, 0, 0, 0, 0, 0, 0, 0, 0])] ∧ Below w.heap.size w w3) := ⟨H3.out.1.atk (by rw [mx12_e a r]), H3.out.2⟩
  clear H3
  refine wp_seq ?_
  refine walk_seqB 1 [.quiet (.bool false)] H9 ?ho7 ?he7
  case ho7 => exact ak (by refine fun γ => ⟨rfl, fun w' h => ?_⟩; clear h; go_simp <;> omega) trivial
  intro _ w10 H10
  clear H9
  refine rest0 rfl (then_normal (wp_seq (wp_cond_false rfl ?_)))
  refine wp_exit ?_
  repeat refine then_exit ?_
  refine block_exit ?_
  refine then_normal (wp_seq ?_)
  refine walk_seqB 1 [.quiet (V [r 0, r 1, r 2, r 3, r 4, r 5, r 6, r 7, r 8, r 9, r 10, r 11])] H10 ?ho8 ?he8
  case ho8 => exact ak (fun γ => ⟨rfl, fun w' h => ex_loadA (i := 0) (k := 12) h 0 rfl rfl rfl Tryz.isAgg32 Tryz.sizeOf32 rfl rfl⟩) trivial
  intro _ w11 H11
  clear H10
  refine rest_at (l := [1]) rfl ?_
  refine rest_store rfl rfl rfl (ex_storeA (i := 0) (ms := [r 0, r 1, r 2, r 3, r 4, r 5, r 6, r 7, r 8, r 9, r 10, r 11]) H11.out.1 1 rfl rfl rfl rfl Tryz.sizeOf32 (Nat.le_of_ble_eq_true rfl)) ?_
  have H12 : Hid (Mm (w11.setCells γ1_1 (6 * 0) (cel [r 0, r 1, r 2, r 3, r 4, r 5, r 6, r 7, r 8, r 9, r 10, r 11])) [(γ1_0, cel [r 0, r 1, r 2, r 3, r 4, r 5, r 6, r 7, r 8, r 9, r 10, r 11]), (γ1_1, cel [r 0, r 1, r 2, r 3, r 4, r 5, r 6, r 7, r 8, r 9, r 10, r 11])] ∧ Below w.heap.size w (w11.setCells γ1_1 (6 * 0) (cel [r 0, r 1, r 2, r 3, r 4, r 5, r 6, r 7, r 8, r 9, r 10, r 11]))) := ⟨by
    have h := H11.out.1.put 1 (off := 6 * 0) (vs := cel [r 0, r 1, r 2, r 3, r 4, r 5, r 6, r 7, r 8, r 9, r 10, r 11]) rfl (by simp only [cel_len]; exact Nat.le_of_ble_eq_true rfl)
    rw [cel_patch] at h
    exact h, below_setCells _ o1_1.out _ _ _ H11.out.2⟩
  clear H11
  generalize hgw : World.setCells _ _ _ _ = w12 at H12 ⊢
  clear hgw
  refine rest_nil (then_normal (wp_ret ?_))
  repeat (first | refine then_ret ?_ | refine block_ret ?_)
  have hf0 := cel_var (k := 12) H12.out.1 1 rfl Tryz.isAgg32 Tryz.sizeOf32 rfl
  refine bodyPost_ret (v := V [r 0, r 1, r 2, r 3, r 4, r 5, r 6, r 7, r 8, r 9, r 10, r 11]) (by simp [results, Tryz.results63, asAddr, hf0]) rfl ?_
  exact ⟨rfl, H12.out.2⟩
set_option maxHeartbeats 1000000 in
set_option maxRecDepth 100000 in
theorem together2_gen (a0 a1 b0 b1 r0 r1 : Nat)
    (c0 : ∀ w, Calls Tryz.prog 215 #[N a0, N b0] w fun e w' => e = .returned (N r0) ∧ Below w.heap.size w w')
    (c1 : ∀ w, Calls Tryz.prog 215 #[N a1, N b1] w fun e w' => e = .returned (N r1) ∧ Below w.heap.size w w') (w : World) :
    Calls Tryz.prog 190 #[V [a0, a1], V [b0, b1]] w fun e w' => e = .returned (V [r0, r1]) ∧ Below w.heap.size w w' := by
  have H0 : Hid (_ ∧ _) := ⟨Mm.nil w, Below.refl w.heap.size w⟩
  have C0 : Hid _ := c0
  have C1 : Hid _ := c1
  clear c0 c1
  go_enter Tryz.func190, Tryz.ntmps190
  refine wp_seq ?_
  refine walk_seqA 3 [.made (cel [a0, a1]) 28, .made (cel [b0, b1]) 28, .made (cel [0, 0]) 28] (sB H0) ?ho1 ?he1
  case ho1 => exact ak (fun γ => ⟨rfl, fun w' => ex_boxA rfl rfl⟩) (ak (fun γ => ⟨rfl, fun w' => ex_boxA rfl rfl⟩) (ak (fun γ => ⟨rfl, fun w' => ex_madeE2 rfl⟩) trivial))
  intro γ w1 l hM hl
  have H1 : Hid (Mm w1 [(γ 0, cel [a0, a1]), (γ 1, cel [b0, b1]), (γ 2, cel [0, 0])] ∧ _) := growB H0 hM (Nat.le_refl _) hl [0, 1, 2] rfl (by decide)
  have o1_0 := ownB H0 hM (Nat.le_refl _) hl (i := 0) rfl
  have o1_1 := ownB H0 hM (Nat.le_refl _) hl (i := 1) rfl
  have o1_2 := ownB H0 hM (Nat.le_refl _) hl (i := 2) rfl
  clear hM hl l
  generalize γ 0 = γ1_0 at H1 o1_0 ⊢
  generalize γ 1 = γ1_1 at H1 o1_1 ⊢
  generalize γ 2 = γ1_2 at H1 o1_2 ⊢
  clear γ
  refine rest0 rfl (then_normal (wp_seq ?_))
  refine walk_anyB 11 [.quiet (PT γ1_0 0), .quiet (N a0), .quiet (PT γ1_1 0), .quiet (N b0), .call (N r0), .quiet (PT γ1_0 6), .quiet (N a1), .quiet (PT γ1_1 6), .quiet (N b1), .call (N r1), .quiet (V [r0, r1])] H1 ?ho2 ?he2
  case ho2 => exact ak (by refine fun γ => ⟨rfl, fun w' h => ?_⟩; clear h; go_simp) (ak (fun γ => ⟨rfl, fun w' h => ex_loadN (i := 0) h 0 rfl rfl rfl rfl⟩) (ak (by refine fun γ => ⟨rfl, fun w' h => ?_⟩; clear h; go_simp) (ak (fun γ => ⟨rfl, fun w' h => ex_loadN (i := 0) h 1 rfl rfl rfl rfl⟩) (ak (fun γ => ⟨rfl, fun w' h => ⟨215, #[N a0, N b0], exec_call rfl call215 rfl (mpn rfl), C0.out w'⟩⟩) (ak (by refine fun γ => ⟨rfl, fun w' h => ?_⟩; clear h; go_simp) (ak (fun γ => ⟨rfl, fun w' h => ex_loadN (i := 1) h 0 rfl rfl rfl rfl⟩) (ak (by refine fun γ => ⟨rfl, fun w' h => ?_⟩; clear h; go_simp) (ak (fun γ => ⟨rfl, fun w' h => ex_loadN (i := 1) h 1 rfl rfl rfl rfl⟩) (ak (fun γ => ⟨rfl, fun w' h => ⟨215, #[N a1, N b1], exec_call rfl call215 rfl (mpn rfl), C1.out w'⟩⟩) (ak (fun γ => ⟨rfl, fun w' _ => ex_buildE2 rfl rfl rfl⟩) trivial))))))))))
  intro _ w2 H2
  clear H1
  refine rest_at (l := [11]) rfl ?_
  refine rest_store rfl rfl rfl (ex_storeA (i := 0) (ms := [r0, r1]) H2.out.1 2 rfl rfl rfl rfl Tryz.sizeOf28 (Nat.le_of_ble_eq_true rfl)) ?_
  have H3 : Hid (Mm (w2.setCells γ1_2 (6 * 0) (cel [r0, r1])) [(γ1_0, cel [a0, a1]), (γ1_1, cel [b0, b1]), (γ1_2, cel [r0, r1])] ∧ Below w.heap.size w (w2.setCells γ1_2 (6 * 0) (cel [r0, r1]))) := ⟨by
    have h := H2.out.1.put 2 (off := 6 * 0) (vs := cel [r0, r1]) rfl (by simp only [cel_len]; exact Nat.le_of_ble_eq_true rfl)
    rw [cel_patch] at h
    exact h, below_setCells _ o1_2.out _ _ _ H2.out.2⟩
  clear H2
  generalize hgw : World.setCells _ _ _ _ = w3 at H3 ⊢
  clear hgw
  refine rest_nil (then_normal (wp_ret ?_))
  repeat (first | refine then_ret ?_ | refine block_ret ?_)
  have hf0 := cel_var (k := 2) H3.out.1 2 rfl Tryz.isAgg28 Tryz.sizeOf28 rfl
  refine bodyPost_ret (v := V [r0, r1]) (by simp [results, Tryz.results190, asAddr, hf0]) rfl ?_
  exact ⟨rfl, H3.out.2⟩
set_option maxHeartbeats 4000000 in
set_option maxRecDepth 100000 in
theorem three_gen (a b r : Nat → Nat)
    (cl : ∀ k, k < 3 → ∀ w, Calls Tryz.prog 190 #[V [a (2 * k), a (2 * k + 1)], V [b (2 * k), b (2 * k + 1)]] w fun e w' => e = .returned (V [r (2 * k), r (2 * k + 1)]) ∧ Below w.heap.size w w') (w : World) :
    Calls Tryz.prog 127 #[V [a 0, a 1, a 2, a 3, a 4, a 5], V [b 0, b 1, b 2, b 3, b 4, b 5]] w fun e w' => e = .returned (V [r 0, r 1, r 2, r 3, r 4, r 5]) ∧ Below w.heap.size w w' := by
  have H0 : Hid (_ ∧ _) := ⟨Mm.nil w, Below.refl w.heap.size w⟩
  have CL : Hid _ := cl
  clear cl
  go_enter Tryz.func127, Tryz.ntmps127
  refine wp_seq ?_
  refine walk_seqA 3 [.made (cel [a 0, a 1, a 2, a 3, a 4, a 5]) 146, .made (cel [b 0, b 1, b 2, b 3, b 4, b 5]) 146, .made (cel [0, 0, 0, 0, 0, 0]) 146] (sB H0) ?ho1 ?he1
  case ho1 => exact ak (fun γ => ⟨rfl, fun w' => ex_boxA rfl rfl⟩) (ak (fun γ => ⟨rfl, fun w' => ex_boxA rfl rfl⟩) (ak (fun γ => ⟨rfl, fun w' => ex_madeTH rfl⟩) trivial))
  intro γ w1 l hM hl
  have H1 : Hid (Mm w1 [(γ 0, cel [a 0, a 1, a 2, a 3, a 4, a 5]), (γ 1, cel [b 0, b 1, b 2, b 3, b 4, b 5]), (γ 2, cel [0, 0, 0, 0, 0, 0])] ∧ _) := growB H0 hM (Nat.le_refl _) hl [0, 1, 2] rfl (by decide)
  have o1_0 := ownB H0 hM (Nat.le_refl _) hl (i := 0) rfl
  have o1_1 := ownB H0 hM (Nat.le_refl _) hl (i := 1) rfl
  have o1_2 := ownB H0 hM (Nat.le_refl _) hl (i := 2) rfl
  clear hM hl l
  generalize γ 0 = γ1_0 at H1 o1_0 ⊢
  generalize γ 1 = γ1_1 at H1 o1_1 ⊢
  generalize γ 2 = γ1_2 at H1 o1_2 ⊢
  clear γ
  refine rest0 rfl (then_normal (wp_seq (wp_seq ?_)))
  refine walk_seqB 1 [.quiet (.int .i64 0)] H1 ?ho2 ?he2
  case ho2 => exact ak (fun _ => ⟨rfl, fun _ _ => rfl⟩) trivial
  intro _ w2 H2
  clear H1
  refine rest0 rfl (then_normal (wp_block ?_))
  refine loop_ghost (α := Nat) (fun k a' w' => ∃ s0 : Nat → Value, a' = ⟨#[V [a 0, a 1, a 2, a 3, a 4, a 5], V [b 0, b 1, b 2, b 3, b 4, b 5], PT γ1_0 0, PT γ1_1 0, PT γ1_2 0, s0 5, .int .i64 ((k : Nat) : Int), s0 7, s0 8, s0 9, s0 10, s0 11, s0 12, s0 13, s0 14, s0 15, s0 16, s0 17, s0 18, undef], []⟩ ∧ (Mm w' [(γ1_0, cel (mx6 a r (2 * k))), (γ1_1, cel [b 0, b 1, b 2, b 3, b 4, b 5]), (γ1_2, cel [0, 0, 0, 0, 0, 0])] ∧ Below w.heap.size w w') ∧ k ≤ 3) (fun k => 3 - k) 0 ?st0 ?rd0
  case st0 => exact ⟨(slotfn [undef, undef, undef, undef, undef, undef, undef, undef, undef, undef, undef, undef, undef, undef, undef, undef, undef, undef, undef]), rfl, ⟨H2.out.1.atk (by rw [mx6_0 a r]), H2.out.2⟩, by omega⟩
  intro k a' w3 hI
  obtain ⟨s0, rfl, hMB, hk0⟩ := hI
  have H3 : Hid (_ ∧ _) := hMB
  clear hMB H2
  by_cases hlt : k < 3
  · have hrd : True := trivial
    clear hrd
    refine wp_seq ?_
    refine walk_seqB 1 [.quiet (.bool true)] H3 ?ho3 ?he3
    case ho3 => exact ak (by refine fun γ => ⟨rfl, fun w' h => ?_⟩; clear h; go_simp <;> omega) trivial
    intro _ w4 H4
    clear H3
    refine rest0 rfl (then_normal (wp_seq ?_))
    refine wp_cond_true rfl (wp_skip ?_)
    refine then_normal (wp_seq ?_)
    refine wp_block (wp_seq ?_)
    refine walk_seqB 2 [.quiet (.int .i64 ((k : Nat) : Int)), .quiet (.int .i64 ((k : Nat) : Int))] H4 ?ho4 ?he4
    case ho4 => exact ak (fun _ => ⟨rfl, fun _ _ => rfl⟩) (ak (fun _ => ⟨rfl, fun _ _ => rfl⟩) trivial)
    intro _ w5 H5
    clear H4
    refine rest0 rfl (then_normal ?_)
    refine walk_anyB 9 [.quiet (.int .i64 ((k : Nat) : Int)), .quiet (.int .i64 ((k : Nat) : Int)), .quiet (PT γ1_0 (6 * (2 * k))), .quiet (V [a (2 * k), a (2 * k + 1)]), .quiet (.int .i64 ((k : Nat) : Int)), .quiet (PT γ1_1 (6 * (2 * k))), .quiet (V [b (2 * k), b (2 * k + 1)]), .call (V [r (2 * k), r (2 * k + 1)]), .quiet (PT γ1_0 (6 * (2 * k)))] H5 ?ho5 ?he5
    case ho5 => exact ak (fun _ => ⟨rfl, fun _ _ => rfl⟩) (ak (fun _ => ⟨rfl, fun _ _ => rfl⟩) (ak (fun γ => ⟨rfl, fun w' _ => ex_idxTH rfl rfl rfl (by omega)⟩) (ak (fun γ => ⟨rfl, fun w' h => ex_loadA (i := 2 * k) (k := 2) h 0 rfl rfl rfl Tryz.isAgg28 Tryz.sizeOf28 (mx6_ld a r hlt) rfl⟩) (ak (fun _ => ⟨rfl, fun _ _ => rfl⟩) (ak (fun γ => ⟨rfl, fun w' _ => ex_idxTH rfl rfl rfl (by omega)⟩) (ak (fun γ => ⟨rfl, fun w' h => ex_loadA (i := 2 * k) (k := 2) h 1 rfl rfl rfl Tryz.isAgg28 Tryz.sizeOf28 (tl6_ld b hlt) rfl⟩) (ak (fun γ => ⟨rfl, fun w' h => ⟨190, #[V [a (2 * k), a (2 * k + 1)], V [b (2 * k), b (2 * k + 1)]], exec_call rfl call190 rfl (mpn rfl), CL.out k hlt w'⟩⟩) (ak (fun γ => ⟨rfl, fun w' _ => ex_idxTH rfl rfl rfl (by omega)⟩) trivial))))))))
    intro _ w6 H6
    clear H5
    refine rest_at (l := [9]) rfl ?_
    refine rest_store rfl rfl rfl (ex_storeA (i := 2 * k) (ms := [r (2 * k), r (2 * k + 1)]) H6.out.1 0 rfl rfl rfl rfl Tryz.sizeOf28 (mx6_bd a r rfl hlt)) ?_
    have H7 : Hid (Mm (w6.setCells γ1_0 (6 * (2 * k)) (cel [r (2 * k), r (2 * k + 1)])) [(γ1_0, cel (mx6 a r (2 * (k + 1)))), (γ1_1, cel [b 0, b 1, b 2, b 3, b 4, b 5]), (γ1_2, cel [0, 0, 0, 0, 0, 0])] ∧ Below w.heap.size w (w6.setCells γ1_0 (6 * (2 * k)) (cel [r (2 * k), r (2 * k + 1)]))) := ⟨by
      have h := H6.out.1.put 0 (off := 6 * (2 * k)) (vs := cel [r (2 * k), r (2 * k + 1)]) rfl (by rw [cel_len, cel_len]; exact cel_bd (mx6_bd a r rfl hlt))
      rw [cel_patch, mx6_st a r hlt] at h
      exact h, below_setCells _ o1_0.out _ _ _ H6.out.2⟩
    clear H6
    generalize hgw : World.setCells _ _ _ _ = w7 at H7 ⊢
    clear hgw
    refine rest_nil (block_normal (then_normal ?_))
    refine walk_seqB 1 [.quiet (.int .i64 ((k + 1 : Nat) : Int))] H7 ?ho6 ?he6
    case ho6 => exact ak (by refine fun γ => ⟨rfl, fun w' h => ?_⟩; clear h; go_simp; rw [IntKind.wrap_i64]; omega) trivial
    intro _ w8 H8
    clear H7
    refine rest_at (l := [1]) rfl ?_
    refine rest_set (d := 6) rfl rfl rfl rfl ?_
    simp only [Act.put, sa, sz, ss]
    refine rest_nil (then_normal ?_)
    exact ⟨k + 1, ⟨(slotfn [undef, undef, undef, undef, undef, .int .i64 ((k : Nat) : Int), undef, .bool true, .int .i64 ((k : Nat) : Int), .int .i64 ((k : Nat) : Int), .int .i64 ((k : Nat) : Int), PT γ1_0 (6 * (2 * k)), V [a (2 * k), a (2 * k + 1)], .int .i64 ((k : Nat) : Int), PT γ1_1 (6 * (2 * k)), V [b (2 * k), b (2 * k + 1)], V [r (2 * k), r (2 * k + 1)], PT γ1_0 (6 * (2 * k)), .int .i64 ((k + 1 : Nat) : Int)]), rfl, ⟨H8.out.1, H8.out.2⟩, by omega⟩, by omega⟩
  have hkN : k = 3 := by omega
  subst hkN
  have H9 : Hid (Mm w3 [(γ1_0, cel [r 0, r 1, r 2, r 3, r 4, r 5]), (γ1_1, cel [b 0, b 1, b 2, b 3, b 4, b 5]), (γ1_2, cel [0, 0, 0, 0, 0, 0])] ∧ Below w.heap.size w w3) := ⟨H3.out.1.atk (by rw [mx6_e a r]), H3.out.2⟩
  clear H3
  refine wp_seq ?_
  refine walk_seqB 1 [.quiet (.bool false)] H9 ?ho7 ?he7
  case ho7 => exact ak (by refine fun γ => ⟨rfl, fun w' h => ?_⟩; clear h; go_simp <;> omega) trivial
  intro _ w10 H10
  clear H9
  refine rest0 rfl (then_normal (wp_seq (wp_cond_false rfl ?_)))
  refine wp_exit ?_
  repeat refine then_exit ?_
  refine block_exit ?_
  refine then_normal (wp_seq ?_)
  refine walk_seqB 1 [.quiet (V [r 0, r 1, r 2, r 3, r 4, r 5])] H10 ?ho8 ?he8
  case ho8 => exact ak (fun γ => ⟨rfl, fun w' h => ex_loadA (i := 0) (k := 6) h 0 rfl rfl rfl Tryz.isAgg146 Tryz.sizeOf146 rfl rfl⟩) trivial
  intro _ w11 H11
  clear H10
  refine rest_at (l := [1]) rfl ?_
  refine rest_store rfl rfl rfl (ex_storeA (i := 0) (ms := [r 0, r 1, r 2, r 3, r 4, r 5]) H11.out.1 2 rfl rfl rfl rfl Tryz.sizeOf146 (Nat.le_of_ble_eq_true rfl)) ?_
  have H12 : Hid (Mm (w11.setCells γ1_2 (6 * 0) (cel [r 0, r 1, r 2, r 3, r 4, r 5])) [(γ1_0, cel [r 0, r 1, r 2, r 3, r 4, r 5]), (γ1_1, cel [b 0, b 1, b 2, b 3, b 4, b 5]), (γ1_2, cel [r 0, r 1, r 2, r 3, r 4, r 5])] ∧ Below w.heap.size w (w11.setCells γ1_2 (6 * 0) (cel [r 0, r 1, r 2, r 3, r 4, r 5]))) := ⟨by
    have h := H11.out.1.put 2 (off := 6 * 0) (vs := cel [r 0, r 1, r 2, r 3, r 4, r 5]) rfl (by simp only [cel_len]; exact Nat.le_of_ble_eq_true rfl)
    rw [cel_patch] at h
    exact h, below_setCells _ o1_2.out _ _ _ H11.out.2⟩
  clear H11
  generalize hgw : World.setCells _ _ _ _ = w12 at H12 ⊢
  clear hgw
  refine rest_nil (then_normal (wp_ret ?_))
  repeat (first | refine then_ret ?_ | refine block_ret ?_)
  have hf0 := cel_var (k := 6) H12.out.1 2 rfl Tryz.isAgg146 Tryz.sizeOf146 rfl
  refine bodyPost_ret (v := V [r 0, r 1, r 2, r 3, r 4, r 5]) (by simp [results, Tryz.results127, asAddr, hf0]) rfl ?_
  exact ⟨rfl, H12.out.2⟩
set_option maxHeartbeats 1000000 in
set_option maxRecDepth 100000 in
theorem plus2_gen (a0 a1 a2 a3 b0 b1 b2 b3 r0 r1 r2 r3 : Nat)
    (c0 : ∀ w, Calls Tryz.prog 192 #[V [a0, a1], V [b0, b1]] w fun e w' => e = .returned (V [r0, r1]) ∧ Below w.heap.size w w')
    (c1 : ∀ w, Calls Tryz.prog 192 #[V [a2, a3], V [b2, b3]] w fun e w' => e = .returned (V [r2, r3]) ∧ Below w.heap.size w w') (w : World) :
    Calls Tryz.prog 130 #[V [a0, a1, a2, a3], V [b0, b1, b2, b3]] w fun e w' => e = .returned (V [r0, r1, r2, r3]) ∧ Below w.heap.size w w' := by
  have H0 : Hid (_ ∧ _) := ⟨Mm.nil w, Below.refl w.heap.size w⟩
  have C0 : Hid _ := c0
  have C1 : Hid _ := c1
  clear c0 c1
  go_enter Tryz.func130, Tryz.ntmps130
  refine wp_seq ?_
  refine walk_seqA 3 [.made (cel [a0, a1, a2, a3]) 151, .made (cel [b0, b1, b2, b3]) 151, .made (cel [0, 0, 0, 0]) 151] (sB H0) ?ho1 ?he1
  case ho1 => exact ak (fun γ => ⟨rfl, fun w' => ex_boxA rfl rfl⟩) (ak (fun γ => ⟨rfl, fun w' => ex_boxA rfl rfl⟩) (ak (fun γ => ⟨rfl, fun w' => ex_madeW2 rfl⟩) trivial))
  intro γ w1 l hM hl
  have H1 : Hid (Mm w1 [(γ 0, cel [a0, a1, a2, a3]), (γ 1, cel [b0, b1, b2, b3]), (γ 2, cel [0, 0, 0, 0])] ∧ _) := growB H0 hM (Nat.le_refl _) hl [0, 1, 2] rfl (by decide)
  have o1_0 := ownB H0 hM (Nat.le_refl _) hl (i := 0) rfl
  have o1_1 := ownB H0 hM (Nat.le_refl _) hl (i := 1) rfl
  have o1_2 := ownB H0 hM (Nat.le_refl _) hl (i := 2) rfl
  clear hM hl l
  generalize γ 0 = γ1_0 at H1 o1_0 ⊢
  generalize γ 1 = γ1_1 at H1 o1_1 ⊢
  generalize γ 2 = γ1_2 at H1 o1_2 ⊢
  clear γ
  refine rest0 rfl (then_normal (wp_seq ?_))
  refine walk_anyB 11 [.quiet (PT γ1_0 0), .quiet (V [a0, a1]), .quiet (PT γ1_1 0), .quiet (V [b0, b1]), .call (V [r0, r1]), .quiet (PT γ1_0 12), .quiet (V [a2, a3]), .quiet (PT γ1_1 12), .quiet (V [b2, b3]), .call (V [r2, r3]), .quiet (V [r0, r1, r2, r3])] H1 ?ho2 ?he2
  case ho2 => exact ak (by refine fun γ => ⟨rfl, fun w' h => ?_⟩; clear h; go_simp) (ak (fun γ => ⟨rfl, fun w' h => ex_loadA (i := 0) (k := 2) h 0 rfl rfl rfl Tryz.isAgg149 Tryz.sizeOf149 rfl rfl⟩) (ak (by refine fun γ => ⟨rfl, fun w' h => ?_⟩; clear h; go_simp) (ak (fun γ => ⟨rfl, fun w' h => ex_loadA (i := 0) (k := 2) h 1 rfl rfl rfl Tryz.isAgg149 Tryz.sizeOf149 rfl rfl⟩) (ak (fun γ => ⟨rfl, fun w' h => ⟨192, #[V [a0, a1], V [b0, b1]], exec_call rfl call192 rfl (mpn rfl), C0.out w'⟩⟩) (ak (by refine fun γ => ⟨rfl, fun w' h => ?_⟩; clear h; go_simp) (ak (fun γ => ⟨rfl, fun w' h => ex_loadA (i := 2) (k := 2) h 0 rfl rfl rfl Tryz.isAgg149 Tryz.sizeOf149 rfl rfl⟩) (ak (by refine fun γ => ⟨rfl, fun w' h => ?_⟩; clear h; go_simp) (ak (fun γ => ⟨rfl, fun w' h => ex_loadA (i := 2) (k := 2) h 1 rfl rfl rfl Tryz.isAgg149 Tryz.sizeOf149 rfl rfl⟩) (ak (fun γ => ⟨rfl, fun w' h => ⟨192, #[V [a2, a3], V [b2, b3]], exec_call rfl call192 rfl (mpn rfl), C1.out w'⟩⟩) (ak (fun γ => ⟨rfl, fun w' _ => ex_buildW2 rfl rfl rfl⟩) trivial))))))))))
  intro _ w2 H2
  clear H1
  refine rest_at (l := [11]) rfl ?_
  refine rest_store rfl rfl rfl (ex_storeA (i := 0) (ms := [r0, r1, r2, r3]) H2.out.1 2 rfl rfl rfl rfl Tryz.sizeOf151 (Nat.le_of_ble_eq_true rfl)) ?_
  have H3 : Hid (Mm (w2.setCells γ1_2 (6 * 0) (cel [r0, r1, r2, r3])) [(γ1_0, cel [a0, a1, a2, a3]), (γ1_1, cel [b0, b1, b2, b3]), (γ1_2, cel [r0, r1, r2, r3])] ∧ Below w.heap.size w (w2.setCells γ1_2 (6 * 0) (cel [r0, r1, r2, r3]))) := ⟨by
    have h := H2.out.1.put 2 (off := 6 * 0) (vs := cel [r0, r1, r2, r3]) rfl (by simp only [cel_len]; exact Nat.le_of_ble_eq_true rfl)
    rw [cel_patch] at h
    exact h, below_setCells _ o1_2.out _ _ _ H2.out.2⟩
  clear H2
  generalize hgw : World.setCells _ _ _ _ = w3 at H3 ⊢
  clear hgw
  refine rest_nil (then_normal (wp_ret ?_))
  repeat (first | refine then_ret ?_ | refine block_ret ?_)
  have hf0 := cel_var (k := 4) H3.out.1 2 rfl Tryz.isAgg151 Tryz.sizeOf151 rfl
  refine bodyPost_ret (v := V [r0, r1, r2, r3]) (by simp [results, Tryz.results130, asAddr, hf0]) rfl ?_
  exact ⟨rfl, H3.out.2⟩
set_option maxHeartbeats 1000000 in
set_option maxRecDepth 100000 in
theorem less2_gen (a0 a1 a2 a3 b0 b1 b2 b3 r0 r1 r2 r3 : Nat)
    (c0 : ∀ w, Calls Tryz.prog 191 #[V [a0, a1], V [b0, b1]] w fun e w' => e = .returned (V [r0, r1]) ∧ Below w.heap.size w w')
    (c1 : ∀ w, Calls Tryz.prog 191 #[V [a2, a3], V [b2, b3]] w fun e w' => e = .returned (V [r2, r3]) ∧ Below w.heap.size w w') (w : World) :
    Calls Tryz.prog 131 #[V [a0, a1, a2, a3], V [b0, b1, b2, b3]] w fun e w' => e = .returned (V [r0, r1, r2, r3]) ∧ Below w.heap.size w w' := by
  have H0 : Hid (_ ∧ _) := ⟨Mm.nil w, Below.refl w.heap.size w⟩
  have C0 : Hid _ := c0
  have C1 : Hid _ := c1
  clear c0 c1
  go_enter Tryz.func131, Tryz.ntmps131
  refine wp_seq ?_
  refine walk_seqA 3 [.made (cel [a0, a1, a2, a3]) 151, .made (cel [b0, b1, b2, b3]) 151, .made (cel [0, 0, 0, 0]) 151] (sB H0) ?ho1 ?he1
  case ho1 => exact ak (fun γ => ⟨rfl, fun w' => ex_boxA rfl rfl⟩) (ak (fun γ => ⟨rfl, fun w' => ex_boxA rfl rfl⟩) (ak (fun γ => ⟨rfl, fun w' => ex_madeW2 rfl⟩) trivial))
  intro γ w1 l hM hl
  have H1 : Hid (Mm w1 [(γ 0, cel [a0, a1, a2, a3]), (γ 1, cel [b0, b1, b2, b3]), (γ 2, cel [0, 0, 0, 0])] ∧ _) := growB H0 hM (Nat.le_refl _) hl [0, 1, 2] rfl (by decide)
  have o1_0 := ownB H0 hM (Nat.le_refl _) hl (i := 0) rfl
  have o1_1 := ownB H0 hM (Nat.le_refl _) hl (i := 1) rfl
  have o1_2 := ownB H0 hM (Nat.le_refl _) hl (i := 2) rfl
  clear hM hl l
  generalize γ 0 = γ1_0 at H1 o1_0 ⊢
  generalize γ 1 = γ1_1 at H1 o1_1 ⊢
  generalize γ 2 = γ1_2 at H1 o1_2 ⊢
  clear γ
  refine rest0 rfl (then_normal (wp_seq ?_))
  refine walk_anyB 11 [.quiet (PT γ1_0 0), .quiet (V [a0, a1]), .quiet (PT γ1_1 0), .quiet (V [b0, b1]), .call (V [r0, r1]), .quiet (PT γ1_0 12), .quiet (V [a2, a3]), .quiet (PT γ1_1 12), .quiet (V [b2, b3]), .call (V [r2, r3]), .quiet (V [r0, r1, r2, r3])] H1 ?ho2 ?he2
  case ho2 => exact ak (by refine fun γ => ⟨rfl, fun w' h => ?_⟩; clear h; go_simp) (ak (fun γ => ⟨rfl, fun w' h => ex_loadA (i := 0) (k := 2) h 0 rfl rfl rfl Tryz.isAgg149 Tryz.sizeOf149 rfl rfl⟩) (ak (by refine fun γ => ⟨rfl, fun w' h => ?_⟩; clear h; go_simp) (ak (fun γ => ⟨rfl, fun w' h => ex_loadA (i := 0) (k := 2) h 1 rfl rfl rfl Tryz.isAgg149 Tryz.sizeOf149 rfl rfl⟩) (ak (fun γ => ⟨rfl, fun w' h => ⟨191, #[V [a0, a1], V [b0, b1]], exec_call rfl call191 rfl (mpn rfl), C0.out w'⟩⟩) (ak (by refine fun γ => ⟨rfl, fun w' h => ?_⟩; clear h; go_simp) (ak (fun γ => ⟨rfl, fun w' h => ex_loadA (i := 2) (k := 2) h 0 rfl rfl rfl Tryz.isAgg149 Tryz.sizeOf149 rfl rfl⟩) (ak (by refine fun γ => ⟨rfl, fun w' h => ?_⟩; clear h; go_simp) (ak (fun γ => ⟨rfl, fun w' h => ex_loadA (i := 2) (k := 2) h 1 rfl rfl rfl Tryz.isAgg149 Tryz.sizeOf149 rfl rfl⟩) (ak (fun γ => ⟨rfl, fun w' h => ⟨191, #[V [a2, a3], V [b2, b3]], exec_call rfl call191 rfl (mpn rfl), C1.out w'⟩⟩) (ak (fun γ => ⟨rfl, fun w' _ => ex_buildW2 rfl rfl rfl⟩) trivial))))))))))
  intro _ w2 H2
  clear H1
  refine rest_at (l := [11]) rfl ?_
  refine rest_store rfl rfl rfl (ex_storeA (i := 0) (ms := [r0, r1, r2, r3]) H2.out.1 2 rfl rfl rfl rfl Tryz.sizeOf151 (Nat.le_of_ble_eq_true rfl)) ?_
  have H3 : Hid (Mm (w2.setCells γ1_2 (6 * 0) (cel [r0, r1, r2, r3])) [(γ1_0, cel [a0, a1, a2, a3]), (γ1_1, cel [b0, b1, b2, b3]), (γ1_2, cel [r0, r1, r2, r3])] ∧ Below w.heap.size w (w2.setCells γ1_2 (6 * 0) (cel [r0, r1, r2, r3]))) := ⟨by
    have h := H2.out.1.put 2 (off := 6 * 0) (vs := cel [r0, r1, r2, r3]) rfl (by simp only [cel_len]; exact Nat.le_of_ble_eq_true rfl)
    rw [cel_patch] at h
    exact h, below_setCells _ o1_2.out _ _ _ H2.out.2⟩
  clear H2
  generalize hgw : World.setCells _ _ _ _ = w3 at H3 ⊢
  clear hgw
  refine rest_nil (then_normal (wp_ret ?_))
  repeat (first | refine then_ret ?_ | refine block_ret ?_)
  have hf0 := cel_var (k := 4) H3.out.1 2 rfl Tryz.isAgg151 Tryz.sizeOf151 rfl
  refine bodyPost_ret (v := V [r0, r1, r2, r3]) (by simp [results, Tryz.results131, asAddr, hf0]) rfl ?_
  exact ⟨rfl, H3.out.2⟩
set_option maxHeartbeats 1000000 in
set_option maxRecDepth 100000 in
theorem raised_gen (a0 a1 a2 a3 r0 r1 r2 r3 : Nat)
    (c0 : ∀ w, Calls Tryz.prog 191 #[V [a0, a1], V [a2, a3]] w fun e w' => e = .returned (V [r0, r1]) ∧ Below w.heap.size w w')
    (c1 : ∀ w, Calls Tryz.prog 192 #[V [a0, a1], V [a2, a3]] w fun e w' => e = .returned (V [r2, r3]) ∧ Below w.heap.size w w') (w : World) :
    Calls Tryz.prog 128 #[V [a0, a1, a2, a3]] w fun e w' => e = .returned (V [r0, r1, r2, r3]) ∧ Below w.heap.size w w' := by
  have H0 : Hid (_ ∧ _) := ⟨Mm.nil w, Below.refl w.heap.size w⟩
  have C0 : Hid _ := c0
  have C1 : Hid _ := c1
  clear c0 c1
  go_enter Tryz.func128, Tryz.ntmps128
  refine wp_seq ?_
  refine walk_seqA 2 [.made (cel [a0, a1, a2, a3]) 151, .made (cel [0, 0, 0, 0]) 151] (sB H0) ?ho1 ?he1
  case ho1 => exact ak (fun γ => ⟨rfl, fun w' => ex_boxA rfl rfl⟩) (ak (fun γ => ⟨rfl, fun w' => ex_madeW2 rfl⟩) trivial)
  intro γ w1 l hM hl
  have H1 : Hid (Mm w1 [(γ 0, cel [a0, a1, a2, a3]), (γ 1, cel [0, 0, 0, 0])] ∧ _) := growB H0 hM (Nat.le_refl _) hl [0, 1] rfl (by decide)
  have o1_0 := ownB H0 hM (Nat.le_refl _) hl (i := 0) rfl
  have o1_1 := ownB H0 hM (Nat.le_refl _) hl (i := 1) rfl
  clear hM hl l
  generalize γ 0 = γ1_0 at H1 o1_0 ⊢
  generalize γ 1 = γ1_1 at H1 o1_1 ⊢
  clear γ
  refine rest0 rfl (then_normal (wp_seq ?_))
  refine walk_anyB 11 [.quiet (PT γ1_0 0), .quiet (V [a0, a1]), .quiet (PT γ1_0 12), .quiet (V [a2, a3]), .call (V [r0, r1]), .quiet (PT γ1_0 0), .quiet (V [a0, a1]), .quiet (PT γ1_0 12), .quiet (V [a2, a3]), .call (V [r2, r3]), .quiet (V [r0, r1, r2, r3])] H1 ?ho2 ?he2
  case ho2 => exact ak (by refine fun γ => ⟨rfl, fun w' h => ?_⟩; clear h; go_simp) (ak (fun γ => ⟨rfl, fun w' h => ex_loadA (i := 0) (k := 2) h 0 rfl rfl rfl Tryz.isAgg149 Tryz.sizeOf149 rfl rfl⟩) (ak (by refine fun γ => ⟨rfl, fun w' h => ?_⟩; clear h; go_simp) (ak (fun γ => ⟨rfl, fun w' h => ex_loadA (i := 2) (k := 2) h 0 rfl rfl rfl Tryz.isAgg149 Tryz.sizeOf149 rfl rfl⟩) (ak (fun γ => ⟨rfl, fun w' h => ⟨191, #[V [a0, a1], V [a2, a3]], exec_call rfl call191 rfl (mpn rfl), C0.out w'⟩⟩) (ak (by refine fun γ => ⟨rfl, fun w' h => ?_⟩; clear h; go_simp) (ak (fun γ => ⟨rfl, fun w' h => ex_loadA (i := 0) (k := 2) h 0 rfl rfl rfl Tryz.isAgg149 Tryz.sizeOf149 rfl rfl⟩) (ak (by refine fun γ => ⟨rfl, fun w' h => ?_⟩; clear h; go_simp) (ak (fun γ => ⟨rfl, fun w' h => ex_loadA (i := 2) (k := 2) h 0 rfl rfl rfl Tryz.isAgg149 Tryz.sizeOf149 rfl rfl⟩) (ak (fun γ => ⟨rfl, fun w' h => ⟨192, #[V [a0, a1], V [a2, a3]], exec_call rfl call192 rfl (mpn rfl), C1.out w'⟩⟩) (ak (fun γ => ⟨rfl, fun w' _ => ex_buildW2 rfl rfl rfl⟩) trivial))))))))))
  intro _ w2 H2
  clear H1
  refine rest_at (l := [11]) rfl ?_
  refine rest_store rfl rfl rfl (ex_storeA (i := 0) (ms := [r0, r1, r2, r3]) H2.out.1 1 rfl rfl rfl rfl Tryz.sizeOf151 (Nat.le_of_ble_eq_true rfl)) ?_
  have H3 : Hid (Mm (w2.setCells γ1_1 (6 * 0) (cel [r0, r1, r2, r3])) [(γ1_0, cel [a0, a1, a2, a3]), (γ1_1, cel [r0, r1, r2, r3])] ∧ Below w.heap.size w (w2.setCells γ1_1 (6 * 0) (cel [r0, r1, r2, r3]))) := ⟨by
    have h := H2.out.1.put 1 (off := 6 * 0) (vs := cel [r0, r1, r2, r3]) rfl (by simp only [cel_len]; exact Nat.le_of_ble_eq_true rfl)
    rw [cel_patch] at h
    exact h, below_setCells _ o1_1.out _ _ _ H2.out.2⟩
  clear H2
  generalize hgw : World.setCells _ _ _ _ = w3 at H3 ⊢
  clear hgw
  refine rest_nil (then_normal (wp_ret ?_))
  repeat (first | refine then_ret ?_ | refine block_ret ?_)
  have hf0 := cel_var (k := 4) H3.out.1 1 rfl Tryz.isAgg151 Tryz.sizeOf151 rfl
  refine bodyPost_ret (v := V [r0, r1, r2, r3]) (by simp [results, Tryz.results128, asAddr, hf0]) rfl ?_
  exact ⟨rfl, H3.out.2⟩
set_option maxHeartbeats 4000000 in
set_option maxRecDepth 100000 in
theorem parts_0 (a : Nat → Nat)
     (w : World) :
    Calls Tryz.prog 125 #[V [a 0, a 1, a 2, a 3, a 4, a 5, a 6, a 7, a 8, a 9, a 10, a 11], .int .i64 0] w fun e w' => e = .returned (V [a 0, a 1, a 4, a 5, a 8, a 9]) ∧ Below w.heap.size w w' := by
  have H0 : Hid (_ ∧ _) := ⟨Mm.nil w, Below.refl w.heap.size w⟩
  go_enter Tryz.func125, Tryz.ntmps125
  refine wp_seq ?_
  refine walk_seqA 2 [.made (cel [a 0, a 1, a 2, a 3, a 4, a 5, a 6, a 7, a 8, a 9, a 10, a 11]) 32, .made (cel [0, 0, 0, 0, 0, 0]) 146] (sB H0) ?ho1 ?he1
  case ho1 => exact ak (fun γ => ⟨rfl, fun w' => ex_boxA rfl rfl⟩) (ak (fun γ => ⟨rfl, fun w' => ex_madeTH rfl⟩) trivial)
  intro γ w1 l hM hl
  have H1 : Hid (Mm w1 [(γ 0, cel [a 0, a 1, a 2, a 3, a 4, a 5, a 6, a 7, a 8, a 9, a 10, a 11]), (γ 1, cel [0, 0, 0, 0, 0, 0])] ∧ _) := growB H0 hM (Nat.le_refl _) hl [0, 1] rfl (by decide)
  have o1_0 := ownB H0 hM (Nat.le_refl _) hl (i := 0) rfl
  have o1_1 := ownB H0 hM (Nat.le_refl _) hl (i := 1) rfl
  clear hM hl l
  generalize γ 0 = γ1_0 at H1 o1_0 ⊢
  generalize γ 1 = γ1_1 at H1 o1_1 ⊢
  clear γ
  refine rest0 rfl (then_normal (wp_seq ?_))
  refine walk_anyB 12 [.quiet (.int .i64 0), .quiet (PT γ1_0 0), .quiet (V [a 0, a 1]), .quiet (.int .i64 0), .quiet (.int .i64 2), .quiet (PT γ1_0 24), .quiet (V [a 4, a 5]), .quiet (.int .i64 0), .quiet (.int .i64 4), .quiet (PT γ1_0 48), .quiet (V [a 8, a 9]), .quiet (V [a 0, a 1, a 4, a 5, a 8, a 9])] H1 ?ho2 ?he2
  case ho2 => exact ak (fun _ => ⟨rfl, fun _ _ => rfl⟩) (ak (by refine fun γ => ⟨rfl, fun w' h => ?_⟩; clear h; go_simp) (ak (fun γ => ⟨rfl, fun w' h => ex_loadA (i := 0) (k := 2) h 0 rfl rfl rfl Tryz.isAgg28 Tryz.sizeOf28 rfl rfl⟩) (ak (fun _ => ⟨rfl, fun _ _ => rfl⟩) (ak (by refine fun γ => ⟨rfl, fun w' h => ?_⟩; clear h; go_simp; rfl) (ak (by refine fun γ => ⟨rfl, fun w' h => ?_⟩; clear h; go_simp) (ak (fun γ => ⟨rfl, fun w' h => ex_loadA (i := 4) (k := 2) h 0 rfl rfl rfl Tryz.isAgg28 Tryz.sizeOf28 rfl rfl⟩) (ak (fun _ => ⟨rfl, fun _ _ => rfl⟩) (ak (by refine fun γ => ⟨rfl, fun w' h => ?_⟩; clear h; go_simp; rfl) (ak (by refine fun γ => ⟨rfl, fun w' h => ?_⟩; clear h; go_simp) (ak (fun γ => ⟨rfl, fun w' h => ex_loadA (i := 8) (k := 2) h 0 rfl rfl rfl Tryz.isAgg28 Tryz.sizeOf28 rfl rfl⟩) (ak (fun γ => ⟨rfl, fun w' _ => ex_buildTH rfl rfl rfl rfl⟩) trivial)))))))))))
  intro _ w2 H2
  clear H1
  refine rest_at (l := [12]) rfl ?_
  refine rest_store rfl rfl rfl (ex_storeA (i := 0) (ms := [a 0, a 1, a 4, a 5, a 8, a 9]) H2.out.1 1 rfl rfl rfl rfl Tryz.sizeOf146 (Nat.le_of_ble_eq_true rfl)) ?_
  have H3 : Hid (Mm (w2.setCells γ1_1 (6 * 0) (cel [a 0, a 1, a 4, a 5, a 8, a 9])) [(γ1_0, cel [a 0, a 1, a 2, a 3, a 4, a 5, a 6, a 7, a 8, a 9, a 10, a 11]), (γ1_1, cel [a 0, a 1, a 4, a 5, a 8, a 9])] ∧ Below w.heap.size w (w2.setCells γ1_1 (6 * 0) (cel [a 0, a 1, a 4, a 5, a 8, a 9]))) := ⟨by
    have h := H2.out.1.put 1 (off := 6 * 0) (vs := cel [a 0, a 1, a 4, a 5, a 8, a 9]) rfl (by simp only [cel_len]; exact Nat.le_of_ble_eq_true rfl)
    rw [cel_patch] at h
    exact h, below_setCells _ o1_1.out _ _ _ H2.out.2⟩
  clear H2
  generalize hgw : World.setCells _ _ _ _ = w3 at H3 ⊢
  clear hgw
  refine rest_nil (then_normal (wp_ret ?_))
  repeat (first | refine then_ret ?_ | refine block_ret ?_)
  have hf0 := cel_var (k := 6) H3.out.1 1 rfl Tryz.isAgg146 Tryz.sizeOf146 rfl
  refine bodyPost_ret (v := V [a 0, a 1, a 4, a 5, a 8, a 9]) (by simp [results, Tryz.results125, asAddr, hf0]) rfl ?_
  exact ⟨rfl, H3.out.2⟩
set_option maxHeartbeats 4000000 in
set_option maxRecDepth 100000 in
theorem parts_1 (a : Nat → Nat)
     (w : World) :
    Calls Tryz.prog 125 #[V [a 0, a 1, a 2, a 3, a 4, a 5, a 6, a 7, a 8, a 9, a 10, a 11], .int .i64 1] w fun e w' => e = .returned (V [a 2, a 3, a 6, a 7, a 10, a 11]) ∧ Below w.heap.size w w' := by
  have H0 : Hid (_ ∧ _) := ⟨Mm.nil w, Below.refl w.heap.size w⟩
  go_enter Tryz.func125, Tryz.ntmps125
  refine wp_seq ?_
  refine walk_seqA 2 [.made (cel [a 0, a 1, a 2, a 3, a 4, a 5, a 6, a 7, a 8, a 9, a 10, a 11]) 32, .made (cel [0, 0, 0, 0, 0, 0]) 146] (sB H0) ?ho1 ?he1
  case ho1 => exact ak (fun γ => ⟨rfl, fun w' => ex_boxA rfl rfl⟩) (ak (fun γ => ⟨rfl, fun w' => ex_madeTH rfl⟩) trivial)
  intro γ w1 l hM hl
  have H1 : Hid (Mm w1 [(γ 0, cel [a 0, a 1, a 2, a 3, a 4, a 5, a 6, a 7, a 8, a 9, a 10, a 11]), (γ 1, cel [0, 0, 0, 0, 0, 0])] ∧ _) := growB H0 hM (Nat.le_refl _) hl [0, 1] rfl (by decide)
  have o1_0 := ownB H0 hM (Nat.le_refl _) hl (i := 0) rfl
  have o1_1 := ownB H0 hM (Nat.le_refl _) hl (i := 1) rfl
  clear hM hl l
  generalize γ 0 = γ1_0 at H1 o1_0 ⊢
  generalize γ 1 = γ1_1 at H1 o1_1 ⊢
  clear γ
  refine rest0 rfl (then_normal (wp_seq ?_))
  refine walk_anyB 12 [.quiet (.int .i64 1), .quiet (PT γ1_0 12), .quiet (V [a 2, a 3]), .quiet (.int .i64 1), .quiet (.int .i64 3), .quiet (PT γ1_0 36), .quiet (V [a 6, a 7]), .quiet (.int .i64 1), .quiet (.int .i64 5), .quiet (PT γ1_0 60), .quiet (V [a 10, a 11]), .quiet (V [a 2, a 3, a 6, a 7, a 10, a 11])] H1 ?ho2 ?he2
  case ho2 => exact ak (fun _ => ⟨rfl, fun _ _ => rfl⟩) (ak (by refine fun γ => ⟨rfl, fun w' h => ?_⟩; clear h; go_simp) (ak (fun γ => ⟨rfl, fun w' h => ex_loadA (i := 2) (k := 2) h 0 rfl rfl rfl Tryz.isAgg28 Tryz.sizeOf28 rfl rfl⟩) (ak (fun _ => ⟨rfl, fun _ _ => rfl⟩) (ak (by refine fun γ => ⟨rfl, fun w' h => ?_⟩; clear h; go_simp; rfl) (ak (by refine fun γ => ⟨rfl, fun w' h => ?_⟩; clear h; go_simp) (ak (fun γ => ⟨rfl, fun w' h => ex_loadA (i := 6) (k := 2) h 0 rfl rfl rfl Tryz.isAgg28 Tryz.sizeOf28 rfl rfl⟩) (ak (fun _ => ⟨rfl, fun _ _ => rfl⟩) (ak (by refine fun γ => ⟨rfl, fun w' h => ?_⟩; clear h; go_simp; rfl) (ak (by refine fun γ => ⟨rfl, fun w' h => ?_⟩; clear h; go_simp) (ak (fun γ => ⟨rfl, fun w' h => ex_loadA (i := 10) (k := 2) h 0 rfl rfl rfl Tryz.isAgg28 Tryz.sizeOf28 rfl rfl⟩) (ak (fun γ => ⟨rfl, fun w' _ => ex_buildTH rfl rfl rfl rfl⟩) trivial)))))))))))
  intro _ w2 H2
  clear H1
  refine rest_at (l := [12]) rfl ?_
  refine rest_store rfl rfl rfl (ex_storeA (i := 0) (ms := [a 2, a 3, a 6, a 7, a 10, a 11]) H2.out.1 1 rfl rfl rfl rfl Tryz.sizeOf146 (Nat.le_of_ble_eq_true rfl)) ?_
  have H3 : Hid (Mm (w2.setCells γ1_1 (6 * 0) (cel [a 2, a 3, a 6, a 7, a 10, a 11])) [(γ1_0, cel [a 0, a 1, a 2, a 3, a 4, a 5, a 6, a 7, a 8, a 9, a 10, a 11]), (γ1_1, cel [a 2, a 3, a 6, a 7, a 10, a 11])] ∧ Below w.heap.size w (w2.setCells γ1_1 (6 * 0) (cel [a 2, a 3, a 6, a 7, a 10, a 11]))) := ⟨by
    have h := H2.out.1.put 1 (off := 6 * 0) (vs := cel [a 2, a 3, a 6, a 7, a 10, a 11]) rfl (by simp only [cel_len]; exact Nat.le_of_ble_eq_true rfl)
    rw [cel_patch] at h
    exact h, below_setCells _ o1_1.out _ _ _ H2.out.2⟩
  clear H2
  generalize hgw : World.setCells _ _ _ _ = w3 at H3 ⊢
  clear hgw
  refine rest_nil (then_normal (wp_ret ?_))
  repeat (first | refine then_ret ?_ | refine block_ret ?_)
  have hf0 := cel_var (k := 6) H3.out.1 1 rfl Tryz.isAgg146 Tryz.sizeOf146 rfl
  refine bodyPost_ret (v := V [a 2, a 3, a 6, a 7, a 10, a 11]) (by simp [results, Tryz.results125, asAddr, hf0]) rfl ?_
  exact ⟨rfl, H3.out.2⟩
set_option maxHeartbeats 1000000 in
set_option maxRecDepth 100000 in
theorem one12_gen (k1 : Nat)
    (c0 : ∀ w, Calls Tryz.prog 71 #[] w fun e w' => e = .returned (V [k1, 0]) ∧ Below w.heap.size w w') (w : World) :
    Calls Tryz.prog 32 #[] w fun e w' => e = .returned (V [k1, 0, 0, 0, 0, 0, 0, 0, 0, 0, 0, 0]) ∧ Below w.heap.size w w' := by
  have H0 : Hid (_ ∧ _) := ⟨Mm.nil w, Below.refl w.heap.size w⟩
  have C0 : Hid _ := c0
  clear c0
  go_enter Tryz.func32, Tryz.ntmps32
  refine wp_seq ?_
  refine walk_seqA 1 [.made (cel [0, 0, 0, 0, 0, 0, 0, 0, 0, 0, 0, 0]) 32] (sB H0) ?ho1 ?he1
  case ho1 => exact ak (fun γ => ⟨rfl, fun w' => ex_madeE12 rfl⟩) trivial
  intro γ w1 l hM hl
  have H1 : Hid (Mm w1 [(γ 0, cel [0, 0, 0, 0, 0, 0, 0, 0, 0, 0, 0, 0])] ∧ _) := growB H0 hM (Nat.le_refl _) hl [0] rfl (by decide)
  have o1_0 := ownB H0 hM (Nat.le_refl _) hl (i := 0) rfl
  clear hM hl l
  generalize γ 0 = γ1_0 at H1 o1_0 ⊢
  clear γ
  refine rest0 rfl (then_normal (wp_seq ?_))
  refine walk_seqB 2 [.call (V [k1, 0]), .quiet (V [k1, 0, 0, 0, 0, 0, 0, 0, 0, 0, 0, 0])] H1 ?ho2 ?he2
  case ho2 => exact ak (fun γ => ⟨rfl, fun w' h => ⟨71, #[], exec_call rfl call71 rfl (mpn rfl), C0.out w'⟩⟩) (ak (fun γ => ⟨rfl, fun w' _ => ex_buildE12a rfl rfl⟩) trivial)
  intro _ w2 H2
  clear H1
  refine rest_at (l := [2]) rfl ?_
  refine rest_store rfl rfl rfl (ex_storeA (i := 0) (ms := [k1, 0, 0, 0, 0, 0, 0, 0, 0, 0, 0, 0]) H2.out.1 0 rfl rfl rfl rfl Tryz.sizeOf32 (Nat.le_of_ble_eq_true rfl)) ?_
  have H3 : Hid (Mm (w2.setCells γ1_0 (6 * 0) (cel [k1, 0, 0, 0, 0, 0, 0, 0, 0, 0, 0, 0])) [(γ1_0, cel [k1, 0, 0, 0, 0, 0, 0, 0, 0, 0, 0, 0])] ∧ Below w.heap.size w (w2.setCells γ1_0 (6 * 0) (cel [k1, 0, 0, 0, 0, 0, 0, 0, 0, 0, 0, 0]))) := ⟨by
    have h := H2.out.1.put 0 (off := 6 * 0) (vs := cel [k1, 0, 0, 0, 0, 0, 0, 0, 0, 0, 0, 0]) rfl (by simp only [cel_len]; exact Nat.le_of_ble_eq_true rfl)
    rw [cel_patch] at h
    exact h, below_setCells _ o1_0.out _ _ _ H2.out.2⟩
  clear H2
  generalize hgw : World.setCells _ _ _ _ = w3 at H3 ⊢
  clear hgw
  refine rest_nil (then_normal (wp_ret ?_))
  repeat (first | refine then_ret ?_ | refine block_ret ?_)
  have hf0 := cel_var (k := 12) H3.out.1 0 rfl Tryz.isAgg32 Tryz.sizeOf32 rfl
  refine bodyPost_ret (v := V [k1, 0, 0, 0, 0, 0, 0, 0, 0, 0, 0, 0]) (by simp [results, Tryz.results32, asAddr, hf0]) rfl ?_
  exact ⟨rfl, H3.out.2⟩
end Rg
end Go.Proofs.YtdbejmgomajjmaaGreatDoor
end
section
namespace Go.Proofs.YtdbejmgomajjmaaGreatDoor
open Go.RowKit
namespace Rg
set_option maxHeartbeats 4000000 in
set_option maxRecDepth 100000 in
theorem cross_12 (a b : Nat → Nat) (ga gb t0 t1 u0 u1 r0 r1 r2 r3 : Nat)
    (ca : ∀ w, Calls Tryz.prog 190 #[V [a 2, a 3], V [a 4, a 5]] w fun e w' => e = .returned (V [t0, t1]) ∧ Below w.heap.size w w')
    (cb : ∀ w, Calls Tryz.prog 190 #[V [b 2, b 3], V [b 4, b 5]] w fun e w' => e = .returned (V [u0, u1]) ∧ Below w.heap.size w w')
    (cc : ∀ w, Calls Tryz.prog 188 #[V [t0, t1], V [u0, u1]] w fun e w' => e = .returned (V [r0, r1, r2, r3]) ∧ Below w.heap.size w w') (w : World) (hm : Mm w [(ga, cel [a 0, a 1, a 2, a 3, a 4, a 5]), (gb, cel [b 0, b 1, b 2, b 3, b 4, b 5])]) :
    Calls Tryz.prog 189 #[.int .i64 1, .int .i64 2, PT ga 0, PT gb 0] w fun e w' => e = .returned (V [r0, r1, r2, r3]) ∧ Below w.heap.size w w' := by
  have H0 : Hid (_ ∧ _) := ⟨hm, Below.refl w.heap.size w⟩
  clear hm
  have CA : Hid _ := ca
  have CB : Hid _ := cb
  have CC : Hid _ := cc
  clear ca cb cc
  go_enter Tryz.func189, Tryz.ntmps189
  refine wp_seq ?_
  refine walk_seqA 1 [.made (cel [0, 0, 0, 0]) 151] (sB H0) ?ho1 ?he1
  case ho1 => exact ak (fun γ => ⟨rfl, fun w' => ex_madeW2 rfl⟩) trivial
  intro γ w1 l hM hl
  have H1 : Hid (Mm w1 [(γ 0, cel [0, 0, 0, 0]), (ga, cel [a 0, a 1, a 2, a 3, a 4, a 5]), (gb, cel [b 0, b 1, b 2, b 3, b 4, b 5])] ∧ _) := growB H0 hM (Nat.le_refl _) hl [0] rfl (by decide)
  have o1_0 := ownB H0 hM (Nat.le_refl _) hl (i := 0) rfl
  clear hM hl l
  generalize γ 0 = γ1_0 at H1 o1_0 ⊢
  clear γ
  refine rest0 rfl (then_normal (wp_seq ?_))
  refine walk_anyB 15 [.quiet (.int .i64 1), .quiet (PT ga 12), .quiet (V [a 2, a 3]), .quiet (.int .i64 2), .quiet (PT ga 24), .quiet (V [a 4, a 5]), .call (V [t0, t1]), .quiet (.int .i64 1), .quiet (PT gb 12), .quiet (V [b 2, b 3]), .quiet (.int .i64 2), .quiet (PT gb 24), .quiet (V [b 4, b 5]), .call (V [u0, u1]), .call (V [r0, r1, r2, r3])] H1 ?ho2 ?he2
  case ho2 => exact ak (fun _ => ⟨rfl, fun _ _ => rfl⟩) (ak (by refine fun γ => ⟨rfl, fun w' h => ?_⟩; clear h; go_simp) (ak (fun γ => ⟨rfl, fun w' h => ex_loadA (i := 2) (k := 2) h 1 rfl rfl rfl Tryz.isAgg28 Tryz.sizeOf28 rfl rfl⟩) (ak (fun _ => ⟨rfl, fun _ _ => rfl⟩) (ak (by refine fun γ => ⟨rfl, fun w' h => ?_⟩; clear h; go_simp) (ak (fun γ => ⟨rfl, fun w' h => ex_loadA (i := 4) (k := 2) h 1 rfl rfl rfl Tryz.isAgg28 Tryz.sizeOf28 rfl rfl⟩) (ak (fun γ => ⟨rfl, fun w' h => ⟨190, #[V [a 2, a 3], V [a 4, a 5]], exec_call rfl call190 rfl (mpn rfl), CA.out w'⟩⟩) (ak (fun _ => ⟨rfl, fun _ _ => rfl⟩) (ak (by refine fun γ => ⟨rfl, fun w' h => ?_⟩; clear h; go_simp) (ak (fun γ => ⟨rfl, fun w' h => ex_loadA (i := 2) (k := 2) h 2 rfl rfl rfl Tryz.isAgg28 Tryz.sizeOf28 rfl rfl⟩) (ak (fun _ => ⟨rfl, fun _ _ => rfl⟩) (ak (by refine fun γ => ⟨rfl, fun w' h => ?_⟩; clear h; go_simp) (ak (fun γ => ⟨rfl, fun w' h => ex_loadA (i := 4) (k := 2) h 2 rfl rfl rfl Tryz.isAgg28 Tryz.sizeOf28 rfl rfl⟩) (ak (fun γ => ⟨rfl, fun w' h => ⟨190, #[V [b 2, b 3], V [b 4, b 5]], exec_call rfl call190 rfl (mpn rfl), CB.out w'⟩⟩) (ak (fun γ => ⟨rfl, fun w' h => ⟨188, #[V [t0, t1], V [u0, u1]], exec_call rfl call188 rfl (mpn rfl), CC.out w'⟩⟩) trivial))))))))))))))
  intro _ w2 H2
  clear H1
  refine rest_at (l := [15]) rfl ?_
  refine rest_store rfl rfl rfl (ex_storeA (i := 0) (ms := [r0, r1, r2, r3]) H2.out.1 0 rfl rfl rfl rfl Tryz.sizeOf151 (Nat.le_of_ble_eq_true rfl)) ?_
  have H3 : Hid (Mm (w2.setCells γ1_0 (6 * 0) (cel [r0, r1, r2, r3])) [(γ1_0, cel [r0, r1, r2, r3]), (ga, cel [a 0, a 1, a 2, a 3, a 4, a 5]), (gb, cel [b 0, b 1, b 2, b 3, b 4, b 5])] ∧ Below w.heap.size w (w2.setCells γ1_0 (6 * 0) (cel [r0, r1, r2, r3]))) := ⟨by
    have h := H2.out.1.put 0 (off := 6 * 0) (vs := cel [r0, r1, r2, r3]) rfl (by simp only [cel_len]; exact Nat.le_of_ble_eq_true rfl)
    rw [cel_patch] at h
    exact h, below_setCells _ o1_0.out _ _ _ H2.out.2⟩
  clear H2
  generalize hgw : World.setCells _ _ _ _ = w3 at H3 ⊢
  clear hgw
  refine rest_nil (then_normal (wp_ret ?_))
  repeat (first | refine then_ret ?_ | refine block_ret ?_)
  have hf0 := cel_var (k := 4) H3.out.1 0 rfl Tryz.isAgg151 Tryz.sizeOf151 rfl
  refine bodyPost_ret (v := V [r0, r1, r2, r3]) (by simp [results, Tryz.results189, asAddr, hf0]) rfl ?_
  exact ⟨rfl, H3.out.2⟩
set_option maxHeartbeats 4000000 in
set_option maxRecDepth 100000 in
theorem cross_01 (a b : Nat → Nat) (ga gb t0 t1 u0 u1 r0 r1 r2 r3 : Nat)
    (ca : ∀ w, Calls Tryz.prog 190 #[V [a 0, a 1], V [a 2, a 3]] w fun e w' => e = .returned (V [t0, t1]) ∧ Below w.heap.size w w')
    (cb : ∀ w, Calls Tryz.prog 190 #[V [b 0, b 1], V [b 2, b 3]] w fun e w' => e = .returned (V [u0, u1]) ∧ Below w.heap.size w w')
    (cc : ∀ w, Calls Tryz.prog 188 #[V [t0, t1], V [u0, u1]] w fun e w' => e = .returned (V [r0, r1, r2, r3]) ∧ Below w.heap.size w w') (w : World) (hm : Mm w [(ga, cel [a 0, a 1, a 2, a 3, a 4, a 5]), (gb, cel [b 0, b 1, b 2, b 3, b 4, b 5])]) :
    Calls Tryz.prog 189 #[.int .i64 0, .int .i64 1, PT ga 0, PT gb 0] w fun e w' => e = .returned (V [r0, r1, r2, r3]) ∧ Below w.heap.size w w' := by
  have H0 : Hid (_ ∧ _) := ⟨hm, Below.refl w.heap.size w⟩
  clear hm
  have CA : Hid _ := ca
  have CB : Hid _ := cb
  have CC : Hid _ := cc
  clear ca cb cc
  go_enter Tryz.func189, Tryz.ntmps189
  refine wp_seq ?_
  refine walk_seqA 1 [.made (cel [0, 0, 0, 0]) 151] (sB H0) ?ho1 ?he1
  case ho1 => exact ak (fun γ => ⟨rfl, fun w' => ex_madeW2 rfl⟩) trivial
  intro γ w1 l hM hl
  have H1 : Hid (Mm w1 [(γ 0, cel [0, 0, 0, 0]), (ga, cel [a 0, a 1, a 2, a 3, a 4, a 5]), (gb, cel [b 0, b 1, b 2, b 3, b 4, b 5])] ∧ _) := growB H0 hM (Nat.le_refl _) hl [0] rfl (by decide)
  have o1_0 := ownB H0 hM (Nat.le_refl _) hl (i := 0) rfl
  clear hM hl l
  generalize γ 0 = γ1_0 at H1 o1_0 ⊢
  clear γ
  refine rest0 rfl (then_normal (wp_seq ?_))
  refine walk_anyB 15 [.quiet (.int .i64 0), .quiet (PT ga 0), .quiet (V [a 0, a 1]), .quiet (.int .i64 1), .quiet (PT ga 12), .quiet (V [a 2, a 3]), .call (V [t0, t1]), .quiet (.int .i64 0), .quiet (PT gb 0), .quiet (V [b 0, b 1]), .quiet (.int .i64 1), .quiet (PT gb 12), .quiet (V [b 2, b 3]), .call (V [u0, u1]), .call (V [r0, r1, r2, r3])] H1 ?ho2 ?he2
  case ho2 => exact ak (fun _ => ⟨rfl, fun _ _ => rfl⟩) (ak (by refine fun γ => ⟨rfl, fun w' h => ?_⟩; clear h; go_simp) (ak (fun γ => ⟨rfl, fun w' h => ex_loadA (i := 0) (k := 2) h 1 rfl rfl rfl Tryz.isAgg28 Tryz.sizeOf28 rfl rfl⟩) (ak (fun _ => ⟨rfl, fun _ _ => rfl⟩) (ak (by refine fun γ => ⟨rfl, fun w' h => ?_⟩; clear h; go_simp) (ak (fun γ => ⟨rfl, fun w' h => ex_loadA (i := 2) (k := 2) h 1 rfl rfl rfl Tryz.isAgg28 Tryz.sizeOf28 rfl rfl⟩) (ak (fun γ => ⟨rfl, fun w' h => ⟨190, #[V [a 0, a 1], V [a 2, a 3]], exec_call rfl call190 rfl (mpn rfl), CA.out w'⟩⟩) (ak (fun _ => ⟨rfl, fun _ _ => rfl⟩) (ak (by refine fun γ => ⟨rfl, fun w' h => ?_⟩; clear h; go_simp) (ak (fun γ => ⟨rfl, fun w' h => ex_loadA (i := 0) (k := 2) h 2 rfl rfl rfl Tryz.isAgg28 Tryz.sizeOf28 rfl rfl⟩) (ak (fun _ => ⟨rfl, fun _ _ => rfl⟩) (ak (by refine fun γ => ⟨rfl, fun w' h => ?_⟩; clear h; go_simp) (ak (fun γ => ⟨rfl, fun w' h => ex_loadA (i := 2) (k := 2) h 2 rfl rfl rfl Tryz.isAgg28 Tryz.sizeOf28 rfl rfl⟩) (ak (fun γ => ⟨rfl, fun w' h => ⟨190, #[V [b 0, b 1], V [b 2, b 3]], exec_call rfl call190 rfl (mpn rfl), CB.out w'⟩⟩) (ak (fun γ => ⟨rfl, fun w' h => ⟨188, #[V [t0, t1], V [u0, u1]], exec_call rfl call188 rfl (mpn rfl), CC.out w'⟩⟩) trivial))))))))))))))
  intro _ w2 H2
  clear H1
  refine rest_at (l := [15]) rfl ?_
  refine rest_store rfl rfl rfl (ex_storeA (i := 0) (ms := [r0, r1, r2, r3]) H2.out.1 0 rfl rfl rfl rfl Tryz.sizeOf151 (Nat.le_of_ble_eq_true rfl)) ?_
  have H3 : Hid (Mm (w2.setCells γ1_0 (6 * 0) (cel [r0, r1, r2, r3])) [(γ1_0, cel [r0, r1, r2, r3]), (ga, cel [a 0, a 1, a 2, a 3, a 4, a 5]), (gb, cel [b 0, b 1, b 2, b 3, b 4, b 5])] ∧ Below w.heap.size w (w2.setCells γ1_0 (6 * 0) (cel [r0, r1, r2, r3]))) := ⟨by
    have h := H2.out.1.put 0 (off := 6 * 0) (vs := cel [r0, r1, r2, r3]) rfl (by simp only [cel_len]; exact Nat.le_of_ble_eq_true rfl)
    rw [cel_patch] at h
    exact h, below_setCells _ o1_0.out _ _ _ H2.out.2⟩
  clear H2
  generalize hgw : World.setCells _ _ _ _ = w3 at H3 ⊢
  clear hgw
  refine rest_nil (then_normal (wp_ret ?_))
  repeat (first | refine then_ret ?_ | refine block_ret ?_)
  have hf0 := cel_var (k := 4) H3.out.1 0 rfl Tryz.isAgg151 Tryz.sizeOf151 rfl
  refine bodyPost_ret (v := V [r0, r1, r2, r3]) (by simp [results, Tryz.results189, asAddr, hf0]) rfl ?_
  exact ⟨rfl, H3.out.2⟩
set_option maxHeartbeats 4000000 in
set_option maxRecDepth 100000 in
theorem cross_02 (a b : Nat → Nat) (ga gb t0 t1 u0 u1 r0 r1 r2 r3 : Nat)
    (ca : ∀ w, Calls Tryz.prog 190 #[V [a 0, a 1], V [a 4, a 5]] w fun e w' => e = .returned (V [t0, t1]) ∧ Below w.heap.size w w')
    (cb : ∀ w, Calls Tryz.prog 190 #[V [b 0, b 1], V [b 4, b 5]] w fun e w' => e = .returned (V [u0, u1]) ∧ Below w.heap.size w w')
    (cc : ∀ w, Calls Tryz.prog 188 #[V [t0, t1], V [u0, u1]] w fun e w' => e = .returned (V [r0, r1, r2, r3]) ∧ Below w.heap.size w w') (w : World) (hm : Mm w [(ga, cel [a 0, a 1, a 2, a 3, a 4, a 5]), (gb, cel [b 0, b 1, b 2, b 3, b 4, b 5])]) :
    Calls Tryz.prog 189 #[.int .i64 0, .int .i64 2, PT ga 0, PT gb 0] w fun e w' => e = .returned (V [r0, r1, r2, r3]) ∧ Below w.heap.size w w' := by
  have H0 : Hid (_ ∧ _) := ⟨hm, Below.refl w.heap.size w⟩
  clear hm
  have CA : Hid _ := ca
  have CB : Hid _ := cb
  have CC : Hid _ := cc
  clear ca cb cc
  go_enter Tryz.func189, Tryz.ntmps189
  refine wp_seq ?_
  refine walk_seqA 1 [.made (cel [0, 0, 0, 0]) 151] (sB H0) ?ho1 ?he1
  case ho1 => exact ak (fun γ => ⟨rfl, fun w' => ex_madeW2 rfl⟩) trivial
  intro γ w1 l hM hl
  have H1 : Hid (Mm w1 [(γ 0, cel [0, 0, 0, 0]), (ga, cel [a 0, a 1, a 2, a 3, a 4, a 5]), (gb, cel [b 0, b 1, b 2, b 3, b 4, b 5])] ∧ _) := growB H0 hM (Nat.le_refl _) hl [0] rfl (by decide)
  have o1_0 := ownB H0 hM (Nat.le_refl _) hl (i := 0) rfl
  clear hM hl l
  generalize γ 0 = γ1_0 at H1 o1_0 ⊢
  clear γ
  refine rest0 rfl (then_normal (wp_seq ?_))
  refine walk_anyB 15 [.quiet (.int .i64 0), .quiet (PT ga 0), .quiet (V [a 0, a 1]), .quiet (.int .i64 2), .quiet (PT ga 24), .quiet (V [a 4, a 5]), .call (V [t0, t1]), .quiet (.int .i64 0), .quiet (PT gb 0), .quiet (V [b 0, b 1]), .quiet (.int .i64 2), .quiet (PT gb 24), .quiet (V [b 4, b 5]), .call (V [u0, u1]), .call (V [r0, r1, r2, r3])] H1 ?ho2 ?he2
  case ho2 => exact ak (fun _ => ⟨rfl, fun _ _ => rfl⟩) (ak (by refine fun γ => ⟨rfl, fun w' h => ?_⟩; clear h; go_simp) (ak (fun γ => ⟨rfl, fun w' h => ex_loadA (i := 0) (k := 2) h 1 rfl rfl rfl Tryz.isAgg28 Tryz.sizeOf28 rfl rfl⟩) (ak (fun _ => ⟨rfl, fun _ _ => rfl⟩) (ak (by refine fun γ => ⟨rfl, fun w' h => ?_⟩; clear h; go_simp) (ak (fun γ => ⟨rfl, fun w' h => ex_loadA (i := 4) (k := 2) h 1 rfl rfl rfl Tryz.isAgg28 Tryz.sizeOf28 rfl rfl⟩) (ak (fun γ => ⟨rfl, fun w' h => ⟨190, #[V [a 0, a 1], V [a 4, a 5]], exec_call rfl call190 rfl (mpn rfl), CA.out w'⟩⟩) (ak (fun _ => ⟨rfl, fun _ _ => rfl⟩) (ak (by refine fun γ => ⟨rfl, fun w' h => ?_⟩; clear h; go_simp) (ak (fun γ => ⟨rfl, fun w' h => ex_loadA (i := 0) (k := 2) h 2 rfl rfl rfl Tryz.isAgg28 Tryz.sizeOf28 rfl rfl⟩) (ak (fun _ => ⟨rfl, fun _ _ => rfl⟩) (ak (by refine fun γ => ⟨rfl, fun w' h => ?_⟩; clear h; go_simp) (ak (fun γ => ⟨rfl, fun w' h => ex_loadA (i := 4) (k := 2) h 2 rfl rfl rfl Tryz.isAgg28 Tryz.sizeOf28 rfl rfl⟩) (ak (fun γ => ⟨rfl, fun w' h => ⟨190, #[V [b 0, b 1], V [b 4, b 5]], exec_call rfl call190 rfl (mpn rfl), CB.out w'⟩⟩) (ak (fun γ => ⟨rfl, fun w' h => ⟨188, #[V [t0, t1], V [u0, u1]], exec_call rfl call188 rfl (mpn rfl), CC.out w'⟩⟩) trivial))))))))))))))
  intro _ w2 H2
  clear H1
  refine rest_at (l := [15]) rfl ?_
  refine rest_store rfl rfl rfl (ex_storeA (i := 0) (ms := [r0, r1, r2, r3]) H2.out.1 0 rfl rfl rfl rfl Tryz.sizeOf151 (Nat.le_of_ble_eq_true rfl)) ?_
  have H3 : Hid (Mm (w2.setCells γ1_0 (6 * 0) (cel [r0, r1, r2, r3])) [(γ1_0, cel [r0, r1, r2, r3]), (ga, cel [a 0, a 1, a 2, a 3, a 4, a 5]), (gb, cel [b 0, b 1, b 2, b 3, b 4, b 5])] ∧ Below w.heap.size w (w2.setCells γ1_0 (6 * 0) (cel [r0, r1, r2, r3]))) := ⟨by
    have h := H2.out.1.put 0 (off := 6 * 0) (vs := cel [r0, r1, r2, r3]) rfl (by simp only [cel_len]; exact Nat.le_of_ble_eq_true rfl)
    rw [cel_patch] at h
    exact h, below_setCells _ o1_0.out _ _ _ H2.out.2⟩
  clear H2
  generalize hgw : World.setCells _ _ _ _ = w3 at H3 ⊢
  clear hgw
  refine rest_nil (then_normal (wp_ret ?_))
  repeat (first | refine then_ret ?_ | refine block_ret ?_)
  have hf0 := cel_var (k := 4) H3.out.1 0 rfl Tryz.isAgg151 Tryz.sizeOf151 rfl
  refine bodyPost_ret (v := V [r0, r1, r2, r3]) (by simp [results, Tryz.results189, asAddr, hf0]) rfl ?_
  exact ⟨rfl, H3.out.2⟩
set_option maxHeartbeats 4000000 in
set_option maxRecDepth 100000 in
theorem times3_gen (a b f s t x y z x1 x2 x3 r0 y1 y2 y3 r1 z1 z2 r2 : Nat → Nat)
    (cf : ∀ w, Calls Tryz.prog 188 #[V [a 0, a 1], V [b 0, b 1]] w fun e w' => e = .returned (V [f 0, f 1, f 2, f 3]) ∧ Below w.heap.size w w')
    (cs : ∀ w, Calls Tryz.prog 188 #[V [a 2, a 3], V [b 2, b 3]] w fun e w' => e = .returned (V [s 0, s 1, s 2, s 3]) ∧ Below w.heap.size w w')
    (ct : ∀ w, Calls Tryz.prog 188 #[V [a 4, a 5], V [b 4, b 5]] w fun e w' => e = .returned (V [t 0, t 1, t 2, t 3]) ∧ Below w.heap.size w w')
    (cx : ∀ ga gb w, Mm w [(ga, cel [a 0, a 1, a 2, a 3, a 4, a 5]), (gb, cel [b 0, b 1, b 2, b 3, b 4, b 5])] → Calls Tryz.prog 189 #[.int .i64 1, .int .i64 2, PT ga 0, PT gb 0] w fun e w' => e = .returned (V [x 0, x 1, x 2, x 3]) ∧ Below w.heap.size w w')
    (cy : ∀ ga gb w, Mm w [(ga, cel [a 0, a 1, a 2, a 3, a 4, a 5]), (gb, cel [b 0, b 1, b 2, b 3, b 4, b 5])] → Calls Tryz.prog 189 #[.int .i64 0, .int .i64 1, PT ga 0, PT gb 0] w fun e w' => e = .returned (V [y 0, y 1, y 2, y 3]) ∧ Below w.heap.size w w')
    (cz : ∀ ga gb w, Mm w [(ga, cel [a 0, a 1, a 2, a 3, a 4, a 5]), (gb, cel [b 0, b 1, b 2, b 3, b 4, b 5])] → Calls Tryz.prog 189 #[.int .i64 0, .int .i64 2, PT ga 0, PT gb 0] w fun e w' => e = .returned (V [z 0, z 1, z 2, z 3]) ∧ Below w.heap.size w w')
    (d0 : ∀ w, Calls Tryz.prog 131 #[V [x 0, x 1, x 2, x 3], V [s 0, s 1, s 2, s 3]] w fun e w' => e = .returned (V [x1 0, x1 1, x1 2, x1 3]) ∧ Below w.heap.size w w')
    (d1 : ∀ w, Calls Tryz.prog 131 #[V [x1 0, x1 1, x1 2, x1 3], V [t 0, t 1, t 2, t 3]] w fun e w' => e = .returned (V [x2 0, x2 1, x2 2, x2 3]) ∧ Below w.heap.size w w')
    (d2 : ∀ w, Calls Tryz.prog 128 #[V [x2 0, x2 1, x2 2, x2 3]] w fun e w' => e = .returned (V [x3 0, x3 1, x3 2, x3 3]) ∧ Below w.heap.size w w')
    (d3 : ∀ w, Calls Tryz.prog 130 #[V [f 0, f 1, f 2, f 3], V [x3 0, x3 1, x3 2, x3 3]] w fun e w' => e = .returned (V [r0 0, r0 1, r0 2, r0 3]) ∧ Below w.heap.size w w')
    (d4 : ∀ w, Calls Tryz.prog 131 #[V [y 0, y 1, y 2, y 3], V [f 0, f 1, f 2, f 3]] w fun e w' => e = .returned (V [y1 0, y1 1, y1 2, y1 3]) ∧ Below w.heap.size w w')
    (d5 : ∀ w, Calls Tryz.prog 131 #[V [y1 0, y1 1, y1 2, y1 3], V [s 0, s 1, s 2, s 3]] w fun e w' => e = .returned (V [y2 0, y2 1, y2 2, y2 3]) ∧ Below w.heap.size w w')
    (d6 : ∀ w, Calls Tryz.prog 128 #[V [t 0, t 1, t 2, t 3]] w fun e w' => e = .returned (V [y3 0, y3 1, y3 2, y3 3]) ∧ Below w.heap.size w w')
    (d7 : ∀ w, Calls Tryz.prog 130 #[V [y2 0, y2 1, y2 2, y2 3], V [y3 0, y3 1, y3 2, y3 3]] w fun e w' => e = .returned (V [r1 0, r1 1, r1 2, r1 3]) ∧ Below w.heap.size w w')
    (d8 : ∀ w, Calls Tryz.prog 131 #[V [z 0, z 1, z 2, z 3], V [f 0, f 1, f 2, f 3]] w fun e w' => e = .returned (V [z1 0, z1 1, z1 2, z1 3]) ∧ Below w.heap.size w w')
    (d9 : ∀ w, Calls Tryz.prog 131 #[V [z1 0, z1 1, z1 2, z1 3], V [t 0, t 1, t 2, t 3]] w fun e w' => e = .returned (V [z2 0, z2 1, z2 2, z2 3]) ∧ Below w.heap.size w w')
    (d10 : ∀ w, Calls Tryz.prog 130 #[V [z2 0, z2 1, z2 2, z2 3], V [s 0, s 1, s 2, s 3]] w fun e w' => e = .returned (V [r2 0, r2 1, r2 2, r2 3]) ∧ Below w.heap.size w w') (w : World) :
    Calls Tryz.prog 126 #[V [a 0, a 1, a 2, a 3, a 4, a 5], V [b 0, b 1, b 2, b 3, b 4, b 5]] w fun e w' => e = .returned (V [r0 0, r0 1, r0 2, r0 3, r1 0, r1 1, r1 2, r1 3, r2 0, r2 1, r2 2, r2 3]) ∧ Below w.heap.size w w' := by
  have H0 : Hid (_ ∧ _) := ⟨Mm.nil w, Below.refl w.heap.size w⟩
  have CF : Hid _ := cf
  have CS : Hid _ := cs
  have CT : Hid _ := ct
  have CX : Hid _ := cx
  have CY : Hid _ := cy
  have CZ : Hid _ := cz
  have D0 : Hid _ := d0
  have D1 : Hid _ := d1
  have D2 : Hid _ := d2
  have D3 : Hid _ := d3
  have D4 : Hid _ := d4
  have D5 : Hid _ := d5
  have D6 : Hid _ := d6
  have D7 : Hid _ := d7
  have D8 : Hid _ := d8
  have D9 : Hid _ := d9
  have D10 : Hid _ := d10
  clear cf cs ct cx cy cz d0 d1 d2 d3 d4 d5 d6 d7 d8 d9 d10
  go_enter Tryz.func126, Tryz.ntmps126
  refine wp_seq ?_
  refine walk_seqA 3 [.made (cel [a 0, a 1, a 2, a 3, a 4, a 5]) 146, .made (cel [b 0, b 1, b 2, b 3, b 4, b 5]) 146, .made (cel [0, 0, 0, 0, 0, 0, 0, 0, 0, 0, 0, 0]) 153] (sB H0) ?ho1 ?he1
  case ho1 => exact ak (fun γ => ⟨rfl, fun w' => ex_boxA rfl rfl⟩) (ak (fun γ => ⟨rfl, fun w' => ex_boxA rfl rfl⟩) (ak (fun γ => ⟨rfl, fun w' => ex_madeW3 rfl⟩) trivial))
  intro γ w1 l hM hl
  have H1 : Hid (Mm w1 [(γ 0, cel [a 0, a 1, a 2, a 3, a 4, a 5]), (γ 1, cel [b 0, b 1, b 2, b 3, b 4, b 5]), (γ 2, cel [0, 0, 0, 0, 0, 0, 0, 0, 0, 0, 0, 0])] ∧ _) := growB H0 hM (Nat.le_refl _) hl [0, 1, 2] rfl (by decide)
  have o1_0 := ownB H0 hM (Nat.le_refl _) hl (i := 0) rfl
  have o1_1 := ownB H0 hM (Nat.le_refl _) hl (i := 1) rfl
  have o1_2 := ownB H0 hM (Nat.le_refl _) hl (i := 2) rfl
  clear hM hl l
  generalize γ 0 = γ1_0 at H1 o1_0 ⊢
  generalize γ 1 = γ1_1 at H1 o1_1 ⊢
  generalize γ 2 = γ1_2 at H1 o1_2 ⊢
  clear γ
  refine rest0 rfl (then_normal (wp_seq ?_))
  refine walk_anyA 21 [.quiet (PT γ1_0 0), .quiet (V [a 0, a 1]), .quiet (PT γ1_1 0), .quiet (V [b 0, b 1]), .call (V [f 0, f 1, f 2, f 3]), .quiet (PT γ1_0 12), .quiet (V [a 2, a 3]), .quiet (PT γ1_1 12), .quiet (V [b 2, b 3]), .call (V [s 0, s 1, s 2, s 3]), .quiet (PT γ1_0 24), .quiet (V [a 4, a 5]), .quiet (PT γ1_1 24), .quiet (V [b 4, b 5]), .call (V [t 0, t 1, t 2, t 3]), .made (cel [0, 0, 0, 0]) 151, .made (cel [0, 0, 0, 0]) 151, .made (cel [0, 0, 0, 0]) 151, .laid 15 (cel [0, 0, 0, 0]) (cel [f 0, f 1, f 2, f 3]), .laid 16 (cel [0, 0, 0, 0]) (cel [s 0, s 1, s 2, s 3]), .laid 17 (cel [0, 0, 0, 0]) (cel [t 0, t 1, t 2, t 3])] (sB H1) ?ho2 ?he2 (hL := ?hL2)
  case hL2 => exact ⟨⟨_, rfl⟩, ⟨_, rfl⟩, ⟨_, rfl⟩, trivial⟩
  case ho2 => exact ak (by refine fun γ => ⟨rfl, fun w' h => ?_⟩; clear h; go_simp) (ak (fun γ => ⟨rfl, fun w' h => ex_loadA (i := 0) (k := 2) h 0 rfl rfl rfl Tryz.isAgg28 Tryz.sizeOf28 rfl rfl⟩) (ak (by refine fun γ => ⟨rfl, fun w' h => ?_⟩; clear h; go_simp) (ak (fun γ => ⟨rfl, fun w' h => ex_loadA (i := 0) (k := 2) h 1 rfl rfl rfl Tryz.isAgg28 Tryz.sizeOf28 rfl rfl⟩) (ak (fun γ => ⟨rfl, fun w' h => ⟨188, #[V [a 0, a 1], V [b 0, b 1]], exec_call rfl call188 rfl (mpn rfl), CF.out w'⟩⟩) (ak (by refine fun γ => ⟨rfl, fun w' h => ?_⟩; clear h; go_simp) (ak (fun γ => ⟨rfl, fun w' h => ex_loadA (i := 2) (k := 2) h 0 rfl rfl rfl Tryz.isAgg28 Tryz.sizeOf28 rfl rfl⟩) (ak (by refine fun γ => ⟨rfl, fun w' h => ?_⟩; clear h; go_simp) (ak (fun γ => ⟨rfl, fun w' h => ex_loadA (i := 2) (k := 2) h 1 rfl rfl rfl Tryz.isAgg28 Tryz.sizeOf28 rfl rfl⟩) (ak (fun γ => ⟨rfl, fun w' h => ⟨188, #[V [a 2, a 3], V [b 2, b 3]], exec_call rfl call188 rfl (mpn rfl), CS.out w'⟩⟩) (ak (by refine fun γ => ⟨rfl, fun w' h => ?_⟩; clear h; go_simp) (ak (fun γ => ⟨rfl, fun w' h => ex_loadA (i := 4) (k := 2) h 0 rfl rfl rfl Tryz.isAgg28 Tryz.sizeOf28 rfl rfl⟩) (ak (by refine fun γ => ⟨rfl, fun w' h => ?_⟩; clear h; go_simp) (ak (fun γ => ⟨rfl, fun w' h => ex_loadA (i := 4) (k := 2) h 1 rfl rfl rfl Tryz.isAgg28 Tryz.sizeOf28 rfl rfl⟩) (ak (fun γ => ⟨rfl, fun w' h => ⟨188, #[V [a 4, a 5], V [b 4, b 5]], exec_call rfl call188 rfl (mpn rfl), CT.out w'⟩⟩) (ak (fun γ => ⟨rfl, fun w' => ex_madeW2 rfl⟩) (ak (fun γ => ⟨rfl, fun w' => ex_madeW2 rfl⟩) (ak (fun γ => ⟨rfl, fun w' => ex_madeW2 rfl⟩) (ak (fun γ => ⟨rfl, rfl, rfl, fun w' h => ex_laidA h rfl Tryz.sizeOf151 rfl rfl rfl⟩) (ak (fun γ => ⟨rfl, rfl, rfl, fun w' h => ex_laidA h rfl Tryz.sizeOf151 rfl rfl rfl⟩) (ak (fun γ => ⟨rfl, rfl, rfl, fun w' h => ex_laidA h rfl Tryz.sizeOf151 rfl rfl rfl⟩) trivial))))))))))))))))))))
  intro γ w2 l hM hl
  have H2 : Hid (Mm w2 [(γ 15, cel [f 0, f 1, f 2, f 3]), (γ 16, cel [s 0, s 1, s 2, s 3]), (γ 17, cel [t 0, t 1, t 2, t 3]), (γ1_0, cel [a 0, a 1, a 2, a 3, a 4, a 5]), (γ1_1, cel [b 0, b 1, b 2, b 3, b 4, b 5]), (γ1_2, cel [0, 0, 0, 0, 0, 0, 0, 0, 0, 0, 0, 0])] ∧ _) := growB H1 hM (Nat.le_refl _) hl [15, 16, 17] rfl (by decide)
  have o2_15 := ownB H1 hM (Nat.le_refl _) hl (i := 15) rfl
  have o2_16 := ownB H1 hM (Nat.le_refl _) hl (i := 16) rfl
  have o2_17 := ownB H1 hM (Nat.le_refl _) hl (i := 17) rfl
  clear hM hl l H1
  generalize γ 15 = γ2_15 at H2 o2_15 ⊢
  generalize γ 16 = γ2_16 at H2 o2_16 ⊢
  generalize γ 17 = γ2_17 at H2 o2_17 ⊢
  clear γ
  refine rest0 rfl (then_normal (wp_seq ?_))
  refine walk_seqB 2 [.quiet (.func (.func 189) #[] #[PT γ1_0 0, PT γ1_1 0]), .quiet (.func (.func 189) #[] #[PT γ1_0 0, PT γ1_1 0])] H2 ?ho3 ?he3
  case ho3 => exact ak (fun γ => ⟨rfl, fun w' _ => ex_makeC rfl (mpn rfl)⟩) (ak (fun _ => ⟨rfl, fun _ _ => rfl⟩) trivial)
  intro _ w3 H3
  clear H2
  refine rest0 rfl (then_normal (wp_seq ?_))
  refine walk_anyB 27 [.quiet (V [f 0, f 1, f 2, f 3]), .quiet (.func (.func 189) #[] #[PT γ1_0 0, PT γ1_1 0]), .call (V [x 0, x 1, x 2, x 3]), .quiet (V [s 0, s 1, s 2, s 3]), .call (V [x1 0, x1 1, x1 2, x1 3]), .quiet (V [t 0, t 1, t 2, t 3]), .call (V [x2 0, x2 1, x2 2, x2 3]), .call (V [x3 0, x3 1, x3 2, x3 3]), .call (V [r0 0, r0 1, r0 2, r0 3]), .quiet (.func (.func 189) #[] #[PT γ1_0 0, PT γ1_1 0]), .call (V [y 0, y 1, y 2, y 3]), .quiet (V [f 0, f 1, f 2, f 3]), .call (V [y1 0, y1 1, y1 2, y1 3]), .quiet (V [s 0, s 1, s 2, s 3]), .call (V [y2 0, y2 1, y2 2, y2 3]), .quiet (V [t 0, t 1, t 2, t 3]), .call (V [y3 0, y3 1, y3 2, y3 3]), .call (V [r1 0, r1 1, r1 2, r1 3]), .quiet (.func (.func 189) #[] #[PT γ1_0 0, PT γ1_1 0]), .call (V [z 0, z 1, z 2, z 3]), .quiet (V [f 0, f 1, f 2, f 3]), .call (V [z1 0, z1 1, z1 2, z1 3]), .quiet (V [t 0, t 1, t 2, t 3]), .call (V [z2 0, z2 1, z2 2, z2 3]), .quiet (V [s 0, s 1, s 2, s 3]), .call (V [r2 0, r2 1, r2 2, r2 3]), .quiet (V [r0 0, r0 1, r0 2, r0 3, r1 0, r1 1, r1 2, r1 3, r2 0, r2 1, r2 2, r2 3])] H3 ?ho4 ?he4 (hL := ?hL4)
  case hL4 => exact trivial
  case ho4 => exact ak (fun γ => ⟨rfl, fun w' h => ex_loadA (i := 0) (k := 4) h 0 rfl rfl rfl Tryz.isAgg151 Tryz.sizeOf151 rfl rfl⟩) (ak (fun _ => ⟨rfl, fun _ _ => rfl⟩) (ak (fun γ => ⟨rfl, fun w' h => ⟨189, #[.int .i64 1, .int .i64 2, PT γ1_0 0, PT γ1_1 0], ex_callC rfl call189 rfl (mpn rfl), CX.out _ _ w' (h.two 3 4 rfl rfl (by decide))⟩⟩) (ak (fun γ => ⟨rfl, fun w' h => ex_loadA (i := 0) (k := 4) h 1 rfl rfl rfl Tryz.isAgg151 Tryz.sizeOf151 rfl rfl⟩) (ak (fun γ => ⟨rfl, fun w' h => ⟨131, #[V [x 0, x 1, x 2, x 3], V [s 0, s 1, s 2, s 3]], exec_call rfl call131 rfl (mpn rfl), D0.out w'⟩⟩) (ak (fun γ => ⟨rfl, fun w' h => ex_loadA (i := 0) (k := 4) h 2 rfl rfl rfl Tryz.isAgg151 Tryz.sizeOf151 rfl rfl⟩) (ak (fun γ => ⟨rfl, fun w' h => ⟨131, #[V [x1 0, x1 1, x1 2, x1 3], V [t 0, t 1, t 2, t 3]], exec_call rfl call131 rfl (mpn rfl), D1.out w'⟩⟩) (ak (fun γ => ⟨rfl, fun w' h => ⟨128, #[V [x2 0, x2 1, x2 2, x2 3]], exec_call rfl call128 rfl (mpn rfl), D2.out w'⟩⟩) (ak (fun γ => ⟨rfl, fun w' h => ⟨130, #[V [f 0, f 1, f 2, f 3], V [x3 0, x3 1, x3 2, x3 3]], exec_call rfl call130 rfl (mpn rfl), D3.out w'⟩⟩) (ak (fun _ => ⟨rfl, fun _ _ => rfl⟩) (ak (fun γ => ⟨rfl, fun w' h => ⟨189, #[.int .i64 0, .int .i64 1, PT γ1_0 0, PT γ1_1 0], ex_callC rfl call189 rfl (mpn rfl), CY.out _ _ w' (h.two 3 4 rfl rfl (by decide))⟩⟩) (ak (fun γ => ⟨rfl, fun w' h => ex_loadA (i := 0) (k := 4) h 0 rfl rfl rfl Tryz.isAgg151 Tryz.sizeOf151 rfl rfl⟩) (ak (fun γ => ⟨rfl, fun w' h => ⟨131, #[V [y 0, y 1, y 2, y 3], V [f 0, f 1, f 2, f 3]], exec_call rfl call131 rfl (mpn rfl), D4.out w'⟩⟩) (ak (fun γ => ⟨rfl, fun w' h => ex_loadA (i := 0) (k := 4) h 1 rfl rfl rfl Tryz.isAgg151 Tryz.sizeOf151 rfl rfl⟩) (ak (fun γ => ⟨rfl, fun w' h => ⟨131, #[V [y1 0, y1 1, y1 2, y1 3], V [s 0, s 1, s 2, s 3]], exec_call rfl call131 rfl (mpn rfl), D5.out w'⟩⟩) (ak (fun γ => ⟨rfl, fun w' h => ex_loadA (i := 0) (k := 4) h 2 rfl rfl rfl Tryz.isAgg151 Tryz.sizeOf151 rfl rfl⟩) (ak (fun γ => ⟨rfl, fun w' h => ⟨128, #[V [t 0, t 1, t 2, t 3]], exec_call rfl call128 rfl (mpn rfl), D6.out w'⟩⟩) (ak (fun γ => ⟨rfl, fun w' h => ⟨130, #[V [y2 0, y2 1, y2 2, y2 3], V [y3 0, y3 1, y3 2, y3 3]], exec_call rfl call130 rfl (mpn rfl), D7.out w'⟩⟩) (ak (fun _ => ⟨rfl, fun _ _ => rfl⟩) (ak (fun γ => ⟨rfl, fun w' h => ⟨189, #[.int .i64 0, .int .i64 2, PT γ1_0 0, PT γ1_1 0], ex_callC rfl call189 rfl (mpn rfl), CZ.out _ _ w' (h.two 3 4 rfl rfl (by decide))⟩⟩) (ak (fun γ => ⟨rfl, fun w' h => ex_loadA (i := 0) (k := 4) h 0 rfl rfl rfl Tryz.isAgg151 Tryz.sizeOf151 rfl rfl⟩) (ak (fun γ => ⟨rfl, fun w' h => ⟨131, #[V [z 0, z 1, z 2, z 3], V [f 0, f 1, f 2, f 3]], exec_call rfl call131 rfl (mpn rfl), D8.out w'⟩⟩) (ak (fun γ => ⟨rfl, fun w' h => ex_loadA (i := 0) (k := 4) h 2 rfl rfl rfl Tryz.isAgg151 Tryz.sizeOf151 rfl rfl⟩) (ak (fun γ => ⟨rfl, fun w' h => ⟨131, #[V [z1 0, z1 1, z1 2, z1 3], V [t 0, t 1, t 2, t 3]], exec_call rfl call131 rfl (mpn rfl), D9.out w'⟩⟩) (ak (fun γ => ⟨rfl, fun w' h => ex_loadA (i := 0) (k := 4) h 1 rfl rfl rfl Tryz.isAgg151 Tryz.sizeOf151 rfl rfl⟩) (ak (fun γ => ⟨rfl, fun w' h => ⟨130, #[V [z2 0, z2 1, z2 2, z2 3], V [s 0, s 1, s 2, s 3]], exec_call rfl call130 rfl (mpn rfl), D10.out w'⟩⟩) (ak (fun γ => ⟨rfl, fun w' _ => ex_buildW3 rfl rfl rfl rfl⟩) trivial))))))))))))))))))))))))))
  intro _ w4 H4
  clear H3
  refine rest_at (l := [27]) rfl ?_
  refine rest_store rfl rfl rfl (ex_storeA (i := 0) (ms := [r0 0, r0 1, r0 2, r0 3, r1 0, r1 1, r1 2, r1 3, r2 0, r2 1, r2 2, r2 3]) H4.out.1 5 rfl rfl rfl rfl Tryz.sizeOf153 (Nat.le_of_ble_eq_true rfl)) ?_
  have H5 : Hid (Mm (w4.setCells γ1_2 (6 * 0) (cel [r0 0, r0 1, r0 2, r0 3, r1 0, r1 1, r1 2, r1 3, r2 0, r2 1, r2 2, r2 3])) [(γ2_15, cel [f 0, f 1, f 2, f 3]), (γ2_16, cel [s 0, s 1, s 2, s 3]), (γ2_17, cel [t 0, t 1, t 2, t 3]), (γ1_0, cel [a 0, a 1, a 2, a 3, a 4, a 5]), (γ1_1, cel [b 0, b 1, b 2, b 3, b 4, b 5]), (γ1_2, cel [r0 0, r0 1, r0 2, r0 3, r1 0, r1 1, r1 2, r1 3, r2 0, r2 1, r2 2, r2 3])] ∧ Below w.heap.size w (w4.setCells γ1_2 (6 * 0) (cel [r0 0, r0 1, r0 2, r0 3, r1 0, r1 1, r1 2, r1 3, r2 0, r2 1, r2 2, r2 3]))) := ⟨by
    have h := H4.out.1.put 5 (off := 6 * 0) (vs := cel [r0 0, r0 1, r0 2, r0 3, r1 0, r1 1, r1 2, r1 3, r2 0, r2 1, r2 2, r2 3]) rfl (by simp only [cel_len]; exact Nat.le_of_ble_eq_true rfl)
    rw [cel_patch] at h
    exact h, below_setCells _ o1_2.out _ _ _ H4.out.2⟩
  clear H4
  generalize hgw : World.setCells _ _ _ _ = w5 at H5 ⊢
  clear hgw
  refine rest_nil (then_normal (wp_ret ?_))
  repeat (first | refine then_ret ?_ | refine block_ret ?_)
  have hf0 := cel_var (k := 12) H5.out.1 5 rfl Tryz.isAgg153 Tryz.sizeOf153 rfl
  refine bodyPost_ret (v := V [r0 0, r0 1, r0 2, r0 3, r1 0, r1 1, r1 2, r1 3, r2 0, r2 1, r2 2, r2 3]) (by simp [results, Tryz.results126, asAddr, hf0]) rfl ?_
  exact ⟨rfl, H5.out.2⟩
end Rg
end Go.Proofs.YtdbejmgomajjmaaGreatDoor
end
