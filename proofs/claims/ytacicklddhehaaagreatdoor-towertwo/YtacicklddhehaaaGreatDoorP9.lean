/- Texts of the proof, joined. -/
import Derived.Test.YtacicklddhehaaaGreatDoorP8
set_option maxRecDepth 100000
section
namespace Go.Proofs.YtacicklddhehaaaGreatDoor
open Go.RowKit
namespace Rg
set_option maxRecDepth 100000
theorem run_eqD (D a b : Nat) (ha : a < big) (hb : b < big) (w : World) : (Op.equalIn (D + 2) 24 (N a) (N b)).run Tryz.prog w = .ok (decide (a = b)) w := by
 have h := run_eq6' (D + 1) (fun a b w => run_equalIn_int w D 22 .u64 .u64 a b (by kernel_rfl)) (wd a 0) (wd a 1) (wd a 2) (wd a 3) (wd a 4) (wd a 5) (wd b 0) (wd b 1) (wd b 2) (wd b 3) (wd b 4) (wd b 5) w
 rw [num_eq a b ha hb] at h
 exact h
theorem run_eqE2' (d a0 a1 b0 b1 : Nat) (p0 p1 : Bool) (hi0 : ∀ w, (Op.equalIn d 24 (N a0) (N b0)).run Tryz.prog w = .ok p0 w) (hi1 : ∀ w, (Op.equalIn d 24 (N a1) (N b1)).run Tryz.prog w = .ok p1 w) (w : World) :
  (Op.equalIn (d + 1) 26 (V [a0, a1]) (V [b0, b1])).run Tryz.prog w = .ok (p0 && p1) w := by
 have h24 : Tryz.prog.underlying 26 = some (.array 2 24) := by kernel_rfl
 have hsz : ∀ w, (sizeOf 24).run Tryz.prog w = .ok 6 w := fun w => by kernel_rfl
 have hp : ∀ (a b : Nat) (w : World), (Go.part 24 (cel [a, b]).toArray 0).run Tryz.prog w = .ok (N a) w ∧ (Go.part 24 (cel [a, b]).toArray 6).run Tryz.prog w = .ok (N b) w := fun a b w => ⟨by kernel_rfl, by kernel_rfl⟩
 simp only [V, Op.equalIn, Sem.run_bind, run_underlying h24, Result.andThen_ok, hsz]
 simp [Std.Legacy.Range.forIn_eq_forIn_range', List.range', List.forIn_cons, hi0, hi1, hp]
 cases p0 <;> cases p1 <;> simp
theorem run_eqE2 (a0 a1 b0 b1 : Nat) (ha0 : a0 < big) (ha1 : a1 < big) (hb0 : b0 < big) (hb1 : b1 < big) (w : World) : (Op.equalIn 10000 26 (V [a0, a1]) (V [b0, b1])).run Tryz.prog w = .ok (decide (a0 = b0) && decide (a1 = b1)) w :=
 run_eqE2' 9999 a0 a1 b0 b1 _ _ (fun w => run_eqD 9997 a0 b0 ha0 hb0 w) (fun w => run_eqD 9997 a1 b1 ha1 hb1 w) w
theorem exec_eqE2 {ρ : Operand → Value} {o : Oper} {x y : Operand} {v v' : List Nat} {t : Bool} {w : World} (he : ∀ w, (Op.equalIn 10000 26 (V v) (V v')).run Tryz.prog w = .ok t w) (ho : o.op = .binOp .eql 26 x y 26) (hx : ρ x = V v) (hy : ρ y = V v') :
  (execOp ρ o).run Tryz.prog w = .ok (.value (.bool t)) w := by
 simp only [execOp, ho, hx, hy]
 clear hx hy
 go_simp
theorem exec_neqE2 {ρ : Operand → Value} {o : Oper} {x y : Operand} {v v' : List Nat} {t : Bool} {w : World} (he : ∀ w, (Op.equalIn 10000 26 (V v) (V v')).run Tryz.prog w = .ok t w) (ho : o.op = .binOp .neq 26 x y 26) (hx : ρ x = V v) (hy : ρ y = V v') :
  (execOp ρ o).run Tryz.prog w = .ok (.value (.bool !t)) w := by
 simp only [execOp, ho, hx, hy]
 clear hx hy
 go_simp
theorem rounds_in {P : Program} {c : Code} {Q : Exit → Act → World → Prop} {n : Nat} {a : Act} {w : World} (h : c.wp P (Exit.then (Code.rounds P c Q n) Q) a w) : Code.rounds P c Q (n + 1) a w := h
set_option maxHeartbeats 4000000 in
theorem r2_no {a0 a1 t0 t1 n1 nn : Nat}
  (c0 : ∀ w, Calls Tryz.prog 29 #[.agg (cel [pB] ++ ([Value.int .u64 9940570264628428797] ++ cel [sqP])).toArray, N a0, N a0] w (Rt w (N t0)))
  (c1 : ∀ w, Calls Tryz.prog 29 #[.agg (cel [pB] ++ ([Value.int .u64 9940570264628428797] ++ cel [sqP])).toArray, N a1, N a1] w (Rt w (N t1)))
  (c2 : ∀ w, Calls Tryz.prog 23 #[.agg (cel [pB] ++ ([Value.int .u64 9940570264628428797] ++ cel [sqP])).toArray, N t0, N t1] w (Rt w (N n1)))
  (c3 : ∀ w, Calls Tryz.prog 34 #[N n1] w (Rt w (.tuple #[N nn, .bool false]))) (w : World) :
  Calls Tryz.prog 17 #[V [a0, a1]] w (Rt w (.tuple #[V [0, 0], .bool false])) := by
 have H0 : Hid (_ ∧ _) := ⟨Mm.nil w, Below.refl w.heap.size w⟩
 have C0 : Hid _ := c0
 have C1 : Hid _ := c1
 have C2 : Hid _ := c2
 have C3 : Hid _ := c3
 clear c0 c1 c2 c3
 go_enter Tryz.func17, Tryz.ntmps17
 refine wp_seq ?_
 refine zD 3 [.made (cel [a0, a1]) 26, .made (cel [0, 0]) 26, .q (.bool false)] (sB H0) ?ho1 ?he1
 case ho1 => exact am (zV rfl rfl) (am (zO rfl) (ar trivial))
 intro J w1 l hM hl
 have H1 : Hid (Mm w1 [(J 0, cel [a0, a1]), (J 1, cel [0, 0])] ∧ _) := wB H0 hM hl [0, 1]
 have o1_0 := vB H0 hM hl 0
 have o1_1 := vB H0 hM hl 1
 clear hM hl l
 generalize J 0 = J1_0 at H1 o1_0 ⊢
 generalize J 1 = J1_1 at H1 o1_1 ⊢
 clear J
 refine rN (wp_seq ?_)
 refine zD 3 [.call (.agg (cel [pB] ++ ([Value.int .u64 9940570264628428797] ++ cel [sqP])).toArray), .made (cel [0] ++ ([Value.int .u64 0] ++ cel [0])) 36, .laid 1 (cel [0] ++ ([Value.int .u64 0] ++ cel [0])) (cel [pB] ++ ([Value.int .u64 9940570264628428797] ++ cel [sqP]))] (sB H1) ?ho2 ?he2 (hL := ?hL2)
 case hL2 => exact ⟨⟨_, rfl⟩, trivial⟩
 case ho2 => exact ac (fun w' h => eC call19 (dP w')) (am (ex_made36 rfl) (ak (fun J => ⟨rfl, rfl, rfl, fun w' h => ex_laidT h rfl rfl As36 rfl rfl rfl⟩) trivial))
 intro J w2 l hM hl
 have H2 : Hid (Mm w2 ([(J 1, cel [pB] ++ ([Value.int .u64 9940570264628428797] ++ cel [sqP]))] ++ _) ∧ _) := wB H1 hM hl [1]
 have o2_1 := vB H1 hM hl 1
 clear hM hl l H1
 generalize J 1 = J2_1 at H2 o2_1 ⊢
 clear J
 refine rN (wp_seq ?_)
 refine zQ 21 [.q (.agg (cel [pB] ++ ([Value.int .u64 9940570264628428797] ++ cel [sqP])).toArray), .q (.agg (cel [pB] ++ ([Value.int .u64 9940570264628428797] ++ cel [sqP])).toArray), .q (PT J1_0 0), .q (N a0), .q (PT J1_0 0), .q (N a0), .call (N t0), .q (.agg (cel [pB] ++ ([Value.int .u64 9940570264628428797] ++ cel [sqP])).toArray), .q (PT J1_0 6), .q (N a1), .q (PT J1_0 6), .q (N a1), .call (N t1), .call (N n1), .call (.tuple #[N nn, .bool false]), .q (.tuple #[N nn, .bool false]), .q (N nn), .q (.bool false), .made zero6 24, .laid 18 zero6 (zB nn), .q (.bool false)] (sB H2) ?ho3 ?he3 (hL := ?hL3)
 case hL3 => exact ⟨⟨_, rfl⟩, trivial⟩
 case ho3 => exact bT 0 Ai36 As36 (bT 0 Ai36 As36 (ag (aq (fun w' h => zH (i := 0) h 1 rfl rfl rfl rfl) (ag (aq (fun w' h => zH (i := 0) h 1 rfl rfl rfl rfl) (ac (fun w' h => eC call29 (C0.out w')) (bT 0 Ai36 As36 (ag (aq (fun w' h => zH (i := 1) h 1 rfl rfl rfl rfl) (ag (aq (fun w' h => zH (i := 1) h 1 rfl rfl rfl rfl) (ac (fun w' h => eC call29 (C1.out w')) (ac (fun w' h => eC call23 (C2.out w')) (ac (fun w' h => eC call34 (C3.out w')) (ar (ag (ag (am (zF rfl) (ak (fun J => ⟨rfl, rfl, rfl, fun w' h => zJ h rfl rfl rfl⟩) (ar trivial))))))))))))))))))))
 intro J w3 l hM hl
 have H3 : Hid (Mm w3 ([(J 18, zB nn)] ++ _) ∧ _) := wB H2 hM hl [18]
 have o3_18 := vB H2 hM hl 18
 clear hM hl l H2
 generalize J 18 = J3_18 at H3 o3_18 ⊢
 clear J
 refine rN (wp_seq (wp_seq ?_))
 refine zC 2 [.q (.bool false), .q (.bool true)] H3 ?ho4 ?he4
 case ho4 => exact ar (ag trivial)
 intro _ w4 H4
 clear H3
 refine rN (wp_cond_true rfl (wp_seq ?_))
 refine zC 1 [.q (V [0, 0])] H4 ?ho5 ?he5
 case ho5 => exact ak (fun J => ⟨rfl, fun w' _ => ex_buildE2z rfl⟩) trivial
 intro _ w5 H5
 clear H4
 refine zG (l := [1, 2]) rfl ?_
 refine sF 3 [0, 0] [_, _, _, _] H5 o1_1 As26 fun w6 H6 => ?_
 clear H5
 refine zN (d := 3) rfl rfl rfl rfl ?_
 simp only [Act.put, sa, sz, ss]
 refine zE (zA (wp_ret ?_))
 repeat (first | refine zK ?_ | refine zI ?_)
 have hf0 := cel_var (k := 2) H6.out.1 3 rfl Ai26 As26 rfl
 refine bodyPost_ret (v := .tuple #[V [0, 0], .bool false]) (by simp [results, Tryz.results17, asAddr, Act.eval, hf0]) rfl ?_
 exact ⟨rfl, H6.out.2⟩
set_option maxHeartbeats 4000000 in
theorem r2_c {a0 a1 t0 t1 n1 nn s1 h1 r1 d1 g1 q1 m1 k1 l0 l1 : Nat}
  (e_m1 : ∀ w, (Op.equalIn 10000 26 (V [m1, k1]) (V [a0, a1])).run Tryz.prog w = .ok true w)
  (c0 : ∀ w, Calls Tryz.prog 29 #[.agg (cel [pB] ++ ([Value.int .u64 9940570264628428797] ++ cel [sqP])).toArray, N a0, N a0] w (Rt w (N t0)))
  (c1 : ∀ w, Calls Tryz.prog 29 #[.agg (cel [pB] ++ ([Value.int .u64 9940570264628428797] ++ cel [sqP])).toArray, N a1, N a1] w (Rt w (N t1)))
  (c2 : ∀ w, Calls Tryz.prog 23 #[.agg (cel [pB] ++ ([Value.int .u64 9940570264628428797] ++ cel [sqP])).toArray, N t0, N t1] w (Rt w (N n1)))
  (c3 : ∀ w, Calls Tryz.prog 34 #[N n1] w (Rt w (.tuple #[N nn, .bool true])))
  (c4 : ∀ w, Calls Tryz.prog 23 #[.agg (cel [pB] ++ ([Value.int .u64 9940570264628428797] ++ cel [sqP])).toArray, N a0, N nn] w (Rt w (N s1)))
  (c5 : ∀ w, Calls Tryz.prog 35 #[N s1] w (Rt w (N h1)))
  (c6 : ∀ w, Calls Tryz.prog 34 #[N h1] w (Rt w (.tuple #[N r1, .bool true])))
  (c7 : ∀ w, Calls Tryz.prog 28 #[.agg (cel [pB] ++ ([Value.int .u64 9940570264628428797] ++ cel [sqP])).toArray, N nn, N a0] w (Rt w (N d1)))
  (c8 : ∀ w, Calls Tryz.prog 35 #[N d1] w (Rt w (N g1)))
  (c9 : ∀ w, Calls Tryz.prog 34 #[N g1] w (Rt w (.tuple #[N q1, .bool true])))
  (c10 : ∀ w, Calls Tryz.prog 12 #[V [r1, q1], V [r1, q1]] w (Rt w (V [m1, k1])))
  (c11 : ∀ w, Calls Tryz.prog 36 #[V [r1, q1]] w (Rt w (V [l0, l1]))) (w : World) :
  Calls Tryz.prog 17 #[V [a0, a1]] w (Rt w (.tuple #[V [l0, l1], .bool true])) := by
 have H0 : Hid (_ ∧ _) := ⟨Mm.nil w, Below.refl w.heap.size w⟩
 have C0 : Hid _ := c0
 have C1 : Hid _ := c1
 have C2 : Hid _ := c2
 have C3 : Hid _ := c3
 have C4 : Hid _ := c4
 have C5 : Hid _ := c5
 have C6 : Hid _ := c6
 have C7 : Hid _ := c7
 have C8 : Hid _ := c8
 have C9 : Hid _ := c9
 have C10 : Hid _ := c10
 have C11 : Hid _ := c11
 clear c0 c1 c2 c3 c4 c5 c6 c7 c8 c9 c10 c11
 go_enter Tryz.func17, Tryz.ntmps17
 refine wp_seq ?_
 refine zD 3 [.made (cel [a0, a1]) 26, .made (cel [0, 0]) 26, .q (.bool false)] (sB H0) ?ho1 ?he1
 case ho1 => exact am (zV rfl rfl) (am (zO rfl) (ar trivial))
 intro J w1 l hM hl
 have H1 : Hid (Mm w1 [(J 0, cel [a0, a1]), (J 1, cel [0, 0])] ∧ _) := wB H0 hM hl [0, 1]
 have o1_0 := vB H0 hM hl 0
 have o1_1 := vB H0 hM hl 1
 clear hM hl l
 generalize J 0 = J1_0 at H1 o1_0 ⊢
 generalize J 1 = J1_1 at H1 o1_1 ⊢
 clear J
 refine rN (wp_seq ?_)
 refine zD 3 [.call (.agg (cel [pB] ++ ([Value.int .u64 9940570264628428797] ++ cel [sqP])).toArray), .made (cel [0] ++ ([Value.int .u64 0] ++ cel [0])) 36, .laid 1 (cel [0] ++ ([Value.int .u64 0] ++ cel [0])) (cel [pB] ++ ([Value.int .u64 9940570264628428797] ++ cel [sqP]))] (sB H1) ?ho2 ?he2 (hL := ?hL2)
 case hL2 => exact ⟨⟨_, rfl⟩, trivial⟩
 case ho2 => exact ac (fun w' h => eC call19 (dP w')) (am (ex_made36 rfl) (ak (fun J => ⟨rfl, rfl, rfl, fun w' h => ex_laidT h rfl rfl As36 rfl rfl rfl⟩) trivial))
 intro J w2 l hM hl
 have H2 : Hid (Mm w2 ([(J 1, cel [pB] ++ ([Value.int .u64 9940570264628428797] ++ cel [sqP]))] ++ _) ∧ _) := wB H1 hM hl [1]
 have o2_1 := vB H1 hM hl 1
 clear hM hl l H1
 generalize J 1 = J2_1 at H2 o2_1 ⊢
 clear J
 refine rN (wp_seq ?_)
 refine zQ 21 [.q (.agg (cel [pB] ++ ([Value.int .u64 9940570264628428797] ++ cel [sqP])).toArray), .q (.agg (cel [pB] ++ ([Value.int .u64 9940570264628428797] ++ cel [sqP])).toArray), .q (PT J1_0 0), .q (N a0), .q (PT J1_0 0), .q (N a0), .call (N t0), .q (.agg (cel [pB] ++ ([Value.int .u64 9940570264628428797] ++ cel [sqP])).toArray), .q (PT J1_0 6), .q (N a1), .q (PT J1_0 6), .q (N a1), .call (N t1), .call (N n1), .call (.tuple #[N nn, .bool true]), .q (.tuple #[N nn, .bool true]), .q (N nn), .q (.bool true), .made zero6 24, .laid 18 zero6 (zB nn), .q (.bool true)] (sB H2) ?ho3 ?he3 (hL := ?hL3)
 case hL3 => exact ⟨⟨_, rfl⟩, trivial⟩
 case ho3 => exact bT 0 Ai36 As36 (bT 0 Ai36 As36 (ag (aq (fun w' h => zH (i := 0) h 1 rfl rfl rfl rfl) (ag (aq (fun w' h => zH (i := 0) h 1 rfl rfl rfl rfl) (ac (fun w' h => eC call29 (C0.out w')) (bT 0 Ai36 As36 (ag (aq (fun w' h => zH (i := 1) h 1 rfl rfl rfl rfl) (ag (aq (fun w' h => zH (i := 1) h 1 rfl rfl rfl rfl) (ac (fun w' h => eC call29 (C1.out w')) (ac (fun w' h => eC call23 (C2.out w')) (ac (fun w' h => eC call34 (C3.out w')) (ar (ag (ag (am (zF rfl) (ak (fun J => ⟨rfl, rfl, rfl, fun w' h => zJ h rfl rfl rfl⟩) (ar trivial))))))))))))))))))))
 intro J w3 l hM hl
 have H3 : Hid (Mm w3 ([(J 18, zB nn)] ++ _) ∧ _) := wB H2 hM hl [18]
 have o3_18 := vB H2 hM hl 18
 clear hM hl l H2
 generalize J 18 = J3_18 at H3 o3_18 ⊢
 clear J
 refine rN (wp_seq (wp_seq ?_))
 refine zC 2 [.q (.bool true), .q (.bool false)] H3 ?ho4 ?he4
 case ho4 => exact ar (ag trivial)
 intro _ w4 H4
 clear H3
 refine rN (wp_cond_false rfl ?_)
 refine wp_skip (zA ?_)
 refine wp_seq (wp_seq ?_)
 refine zC 1 [.q (.int .i64 0)] H4 ?ho5 ?he5
 case ho5 => exact ar trivial
 intro _ w5 H5
 clear H4
 refine rN (wp_block ?_)
 refine wp_loop_rounds 3 ?_
 refine rounds_in (n := 2) ?_
 refine wp_seq (wp_seq ?_)
 refine zC 2 [.q (.int .i64 0), .q (.bool true)] H5 ?ho6 ?he6
 case ho6 => exact ar (ag trivial)
 intro _ w6 H6
 clear H5
 refine rN (wp_cond_true rfl ?_)
 refine wp_skip (zA ?_)
 refine wp_seq (wp_block (wp_seq ?_))
 refine zD 13 [.q (.agg (cel [pB] ++ ([Value.int .u64 9940570264628428797] ++ cel [sqP])).toArray), .q (PT J1_0 0), .q (N a0), .q (N nn), .call (N s1), .call (N h1), .call (.tuple #[N r1, .bool true]), .q (.tuple #[N r1, .bool true]), .q (N r1), .q (.bool true), .made zero6 24, .laid 10 zero6 (zB r1), .q (.bool true)] (sB H6) ?ho7 ?he7 (hL := ?hL7)
 case hL7 => exact ⟨⟨_, rfl⟩, trivial⟩
 case ho7 => exact bT 1 Ai36 As36 (ag (aq (fun w' h => zH (i := 0) h 2 rfl rfl rfl rfl) (bN 0 (ac (fun w' h => eC call23 (C4.out w')) (ac (fun w' h => eC call35 (C5.out w')) (ac (fun w' h => eC call34 (C6.out w')) (ar (ag (ag (am (zF rfl) (ak (fun J => ⟨rfl, rfl, rfl, fun w' h => zJ h rfl rfl rfl⟩) (ar trivial))))))))))))
 intro J w7 l hM hl
 have H7 : Hid (Mm w7 ([(J 10, zB r1)] ++ _) ∧ _) := wB H6 hM hl [10]
 have o7_10 := vB H6 hM hl 10
 clear hM hl l H6
 generalize J 10 = J7_10 at H7 o7_10 ⊢
 clear J
 refine rN (wp_seq ?_)
 refine zD 13 [.q (.agg (cel [pB] ++ ([Value.int .u64 9940570264628428797] ++ cel [sqP])).toArray), .q (N nn), .q (PT J1_0 0), .q (N a0), .call (N d1), .call (N g1), .call (.tuple #[N q1, .bool true]), .q (.tuple #[N q1, .bool true]), .q (N q1), .q (.bool true), .made zero6 24, .laid 10 zero6 (zB q1), .q (.bool true)] (sB H7) ?ho8 ?he8 (hL := ?hL8)
 case hL8 => exact ⟨⟨_, rfl⟩, trivial⟩
 case ho8 => exact bT 2 Ai36 As36 (bN 1 (ag (aq (fun w' h => zH (i := 0) h 3 rfl rfl rfl rfl) (ac (fun w' h => eC call28 (C7.out w')) (ac (fun w' h => eC call35 (C8.out w')) (ac (fun w' h => eC call34 (C9.out w')) (ar (ag (ag (am (zF rfl) (ak (fun J => ⟨rfl, rfl, rfl, fun w' h => zJ h rfl rfl rfl⟩) (ar trivial))))))))))))
 intro J w8 l hM hl
 have H8 : Hid (Mm w8 ([(J 10, zB q1)] ++ _) ∧ _) := wB H7 hM hl [10]
 have o8_10 := vB H7 hM hl 10
 clear hM hl l H7
 generalize J 10 = J8_10 at H8 o8_10 ⊢
 clear J
 refine rN (wp_seq (wp_seq ?_))
 refine zC 4 [.q (.bool true), .q (.bool true), .q (.bool true), .q (.bool true)] H8 ?ho9 ?he9
 case ho9 => exact ar (ar (ar (ag trivial)))
 intro _ w9 H9
 clear H8
 refine rN (wp_cond_true rfl (wp_seq ?_))
 refine zD 5 [.q (N r1), .q (N q1), .q (V [r1, q1]), .made (cel [0, 0]) 26, .laid 3 (cel [0, 0]) (cel [r1, q1])] (sB H9) ?ho10 ?he10 (hL := ?hL10)
 case hL10 => exact ⟨⟨_, rfl⟩, trivial⟩
 case ho10 => exact bN 1 (bN 0 (ak (fun J => ⟨rfl, fun w' _ => yC rfl rfl rfl⟩) (am (zO rfl) (ak (fun J => ⟨rfl, rfl, rfl, fun w' h => ex_laidA h rfl As26 rfl rfl rfl⟩) trivial))))
 intro J w10 l hM hl
 have H10 : Hid (Mm w10 ([(J 3, cel [r1, q1])] ++ _) ∧ _) := wB H9 hM hl [3]
 have o10_3 := vB H9 hM hl 3
 clear hM hl l H9
 generalize J 3 = J10_3 at H10 o10_3 ⊢
 clear J
 refine rN (wp_seq (wp_seq ?_))
 refine zS 5 [.q (V [r1, q1]), .q (V [r1, q1]), .call (V [m1, k1]), .q (V [a0, a1]), .q (.bool true)] H10 ?ho11 ?he11
 case ho11 => exact bA 0 2 0 Ai26 As26 (bA 0 2 0 Ai26 As26 (ac (fun w' h => eC call12 (C10.out w')) (bA 0 2 5 Ai26 As26 (ak (fun J => ⟨rfl, fun w' _ => exec_eqE2 e_m1 rfl rfl rfl⟩) trivial))))
 intro _ w11 H11
 clear H10
 refine rN (wp_cond_true rfl (wp_seq ?_))
 refine zC 2 [.q (V [r1, q1]), .call (V [l0, l1])] H11 ?ho12 ?he12
 case ho12 => exact bA 0 2 0 Ai26 As26 (ac (fun w' h => eC call36 (C11.out w')) trivial)
 intro _ w12 H12
 clear H11
 refine zG (l := [2, 3]) rfl ?_
 refine sF 6 [l0, l1] [_, _, _, _, _, _, _] H12 o1_1 As26 fun w13 H13 => ?_
 clear H12
 refine zN (d := 3) rfl rfl rfl rfl ?_
 simp only [Act.put, sa, sz, ss]
 refine zE (zA (wp_ret ?_))
 repeat (first | refine zK ?_ | refine zI ?_)
 have hf0 := cel_var (k := 2) H13.out.1 6 rfl Ai26 As26 rfl
 refine bodyPost_ret (v := .tuple #[V [l0, l1], .bool true]) (by simp [results, Tryz.results17, asAddr, Act.eval, hf0]) rfl ?_
 exact ⟨rfl, H13.out.2⟩
set_option maxHeartbeats 4000000 in
theorem r2_d {a0 a1 t0 t1 n1 nn s1 h1 r1 d1 g1 q1 m1 k1 y1 o1 i1 l0 l1 : Nat}
  (e_m1 : ∀ w, (Op.equalIn 10000 26 (V [m1, k1]) (V [a0, a1])).run Tryz.prog w = .ok false w)
  (e_o1 : ∀ w, (Op.equalIn 10000 26 (V [o1, i1]) (V [a0, a1])).run Tryz.prog w = .ok true w)
  (c0 : ∀ w, Calls Tryz.prog 29 #[.agg (cel [pB] ++ ([Value.int .u64 9940570264628428797] ++ cel [sqP])).toArray, N a0, N a0] w (Rt w (N t0)))
  (c1 : ∀ w, Calls Tryz.prog 29 #[.agg (cel [pB] ++ ([Value.int .u64 9940570264628428797] ++ cel [sqP])).toArray, N a1, N a1] w (Rt w (N t1)))
  (c2 : ∀ w, Calls Tryz.prog 23 #[.agg (cel [pB] ++ ([Value.int .u64 9940570264628428797] ++ cel [sqP])).toArray, N t0, N t1] w (Rt w (N n1)))
  (c3 : ∀ w, Calls Tryz.prog 34 #[N n1] w (Rt w (.tuple #[N nn, .bool true])))
  (c4 : ∀ w, Calls Tryz.prog 23 #[.agg (cel [pB] ++ ([Value.int .u64 9940570264628428797] ++ cel [sqP])).toArray, N a0, N nn] w (Rt w (N s1)))
  (c5 : ∀ w, Calls Tryz.prog 35 #[N s1] w (Rt w (N h1)))
  (c6 : ∀ w, Calls Tryz.prog 34 #[N h1] w (Rt w (.tuple #[N r1, .bool true])))
  (c7 : ∀ w, Calls Tryz.prog 28 #[.agg (cel [pB] ++ ([Value.int .u64 9940570264628428797] ++ cel [sqP])).toArray, N nn, N a0] w (Rt w (N d1)))
  (c8 : ∀ w, Calls Tryz.prog 35 #[N d1] w (Rt w (N g1)))
  (c9 : ∀ w, Calls Tryz.prog 34 #[N g1] w (Rt w (.tuple #[N q1, .bool true])))
  (c10 : ∀ w, Calls Tryz.prog 12 #[V [r1, q1], V [r1, q1]] w (Rt w (V [m1, k1])))
  (c11 : ∀ w, Calls Tryz.prog 25 #[.agg (cel [pB] ++ ([Value.int .u64 9940570264628428797] ++ cel [sqP])).toArray, N q1] w (Rt w (N y1)))
  (c12 : ∀ w, Calls Tryz.prog 12 #[V [r1, y1], V [r1, y1]] w (Rt w (V [o1, i1])))
  (c13 : ∀ w, Calls Tryz.prog 36 #[V [r1, y1]] w (Rt w (V [l0, l1]))) (w : World) :
  Calls Tryz.prog 17 #[V [a0, a1]] w (Rt w (.tuple #[V [l0, l1], .bool true])) := by
 have H0 : Hid (_ ∧ _) := ⟨Mm.nil w, Below.refl w.heap.size w⟩
 have C0 : Hid _ := c0
 have C1 : Hid _ := c1
 have C2 : Hid _ := c2
 have C3 : Hid _ := c3
 have C4 : Hid _ := c4
 have C5 : Hid _ := c5
 have C6 : Hid _ := c6
 have C7 : Hid _ := c7
 have C8 : Hid _ := c8
 have C9 : Hid _ := c9
 have C10 : Hid _ := c10
 have C11 : Hid _ := c11
 have C12 : Hid _ := c12
 have C13 : Hid _ := c13
 clear c0 c1 c2 c3 c4 c5 c6 c7 c8 c9 c10 c11 c12 c13
 go_enter Tryz.func17, Tryz.ntmps17
 refine wp_seq ?_
 refine zD 3 [.made (cel [a0, a1]) 26, .made (cel [0, 0]) 26, .q (.bool false)] (sB H0) ?ho1 ?he1
 case ho1 => exact am (zV rfl rfl) (am (zO rfl) (ar trivial))
 intro J w1 l hM hl
 have H1 : Hid (Mm w1 [(J 0, cel [a0, a1]), (J 1, cel [0, 0])] ∧ _) := wB H0 hM hl [0, 1]
 have o1_0 := vB H0 hM hl 0
 have o1_1 := vB H0 hM hl 1
 clear hM hl l
 generalize J 0 = J1_0 at H1 o1_0 ⊢
 generalize J 1 = J1_1 at H1 o1_1 ⊢
 clear J
 refine rN (wp_seq ?_)
 refine zD 3 [.call (.agg (cel [pB] ++ ([Value.int .u64 9940570264628428797] ++ cel [sqP])).toArray), .made (cel [0] ++ ([Value.int .u64 0] ++ cel [0])) 36, .laid 1 (cel [0] ++ ([Value.int .u64 0] ++ cel [0])) (cel [pB] ++ ([Value.int .u64 9940570264628428797] ++ cel [sqP]))] (sB H1) ?ho2 ?he2 (hL := ?hL2)
 case hL2 => exact ⟨⟨_, rfl⟩, trivial⟩
 case ho2 => exact ac (fun w' h => eC call19 (dP w')) (am (ex_made36 rfl) (ak (fun J => ⟨rfl, rfl, rfl, fun w' h => ex_laidT h rfl rfl As36 rfl rfl rfl⟩) trivial))
 intro J w2 l hM hl
 have H2 : Hid (Mm w2 ([(J 1, cel [pB] ++ ([Value.int .u64 9940570264628428797] ++ cel [sqP]))] ++ _) ∧ _) := wB H1 hM hl [1]
 have o2_1 := vB H1 hM hl 1
 clear hM hl l H1
 generalize J 1 = J2_1 at H2 o2_1 ⊢
 clear J
 refine rN (wp_seq ?_)
 refine zQ 21 [.q (.agg (cel [pB] ++ ([Value.int .u64 9940570264628428797] ++ cel [sqP])).toArray), .q (.agg (cel [pB] ++ ([Value.int .u64 9940570264628428797] ++ cel [sqP])).toArray), .q (PT J1_0 0), .q (N a0), .q (PT J1_0 0), .q (N a0), .call (N t0), .q (.agg (cel [pB] ++ ([Value.int .u64 9940570264628428797] ++ cel [sqP])).toArray), .q (PT J1_0 6), .q (N a1), .q (PT J1_0 6), .q (N a1), .call (N t1), .call (N n1), .call (.tuple #[N nn, .bool true]), .q (.tuple #[N nn, .bool true]), .q (N nn), .q (.bool true), .made zero6 24, .laid 18 zero6 (zB nn), .q (.bool true)] (sB H2) ?ho3 ?he3 (hL := ?hL3)
 case hL3 => exact ⟨⟨_, rfl⟩, trivial⟩
 case ho3 => exact bT 0 Ai36 As36 (bT 0 Ai36 As36 (ag (aq (fun w' h => zH (i := 0) h 1 rfl rfl rfl rfl) (ag (aq (fun w' h => zH (i := 0) h 1 rfl rfl rfl rfl) (ac (fun w' h => eC call29 (C0.out w')) (bT 0 Ai36 As36 (ag (aq (fun w' h => zH (i := 1) h 1 rfl rfl rfl rfl) (ag (aq (fun w' h => zH (i := 1) h 1 rfl rfl rfl rfl) (ac (fun w' h => eC call29 (C1.out w')) (ac (fun w' h => eC call23 (C2.out w')) (ac (fun w' h => eC call34 (C3.out w')) (ar (ag (ag (am (zF rfl) (ak (fun J => ⟨rfl, rfl, rfl, fun w' h => zJ h rfl rfl rfl⟩) (ar trivial))))))))))))))))))))
 intro J w3 l hM hl
 have H3 : Hid (Mm w3 ([(J 18, zB nn)] ++ _) ∧ _) := wB H2 hM hl [18]
 have o3_18 := vB H2 hM hl 18
 clear hM hl l H2
 generalize J 18 = J3_18 at H3 o3_18 ⊢
 clear J
 refine rN (wp_seq (wp_seq ?_))
 refine zC 2 [.q (.bool true), .q (.bool false)] H3 ?ho4 ?he4
 case ho4 => exact ar (ag trivial)
 intro _ w4 H4
 clear H3
 refine rN (wp_cond_false rfl ?_)
 refine wp_skip (zA ?_)
 refine wp_seq (wp_seq ?_)
 refine zC 1 [.q (.int .i64 0)] H4 ?ho5 ?he5
 case ho5 => exact ar trivial
 intro _ w5 H5
 clear H4
 refine rN (wp_block ?_)
 refine wp_loop_rounds 3 ?_
 refine rounds_in (n := 2) ?_
 refine wp_seq (wp_seq ?_)
 refine zC 2 [.q (.int .i64 0), .q (.bool true)] H5 ?ho6 ?he6
 case ho6 => exact ar (ag trivial)
 intro _ w6 H6
 clear H5
 refine rN (wp_cond_true rfl ?_)
 refine wp_skip (zA ?_)
 refine wp_seq (wp_block (wp_seq ?_))
 refine zD 13 [.q (.agg (cel [pB] ++ ([Value.int .u64 9940570264628428797] ++ cel [sqP])).toArray), .q (PT J1_0 0), .q (N a0), .q (N nn), .call (N s1), .call (N h1), .call (.tuple #[N r1, .bool true]), .q (.tuple #[N r1, .bool true]), .q (N r1), .q (.bool true), .made zero6 24, .laid 10 zero6 (zB r1), .q (.bool true)] (sB H6) ?ho7 ?he7 (hL := ?hL7)
 case hL7 => exact ⟨⟨_, rfl⟩, trivial⟩
 case ho7 => exact bT 1 Ai36 As36 (ag (aq (fun w' h => zH (i := 0) h 2 rfl rfl rfl rfl) (bN 0 (ac (fun w' h => eC call23 (C4.out w')) (ac (fun w' h => eC call35 (C5.out w')) (ac (fun w' h => eC call34 (C6.out w')) (ar (ag (ag (am (zF rfl) (ak (fun J => ⟨rfl, rfl, rfl, fun w' h => zJ h rfl rfl rfl⟩) (ar trivial))))))))))))
 intro J w7 l hM hl
 have H7 : Hid (Mm w7 ([(J 10, zB r1)] ++ _) ∧ _) := wB H6 hM hl [10]
 have o7_10 := vB H6 hM hl 10
 clear hM hl l H6
 generalize J 10 = J7_10 at H7 o7_10 ⊢
 clear J
 refine rN (wp_seq ?_)
 refine zD 13 [.q (.agg (cel [pB] ++ ([Value.int .u64 9940570264628428797] ++ cel [sqP])).toArray), .q (N nn), .q (PT J1_0 0), .q (N a0), .call (N d1), .call (N g1), .call (.tuple #[N q1, .bool true]), .q (.tuple #[N q1, .bool true]), .q (N q1), .q (.bool true), .made zero6 24, .laid 10 zero6 (zB q1), .q (.bool true)] (sB H7) ?ho8 ?he8 (hL := ?hL8)
 case hL8 => exact ⟨⟨_, rfl⟩, trivial⟩
 case ho8 => exact bT 2 Ai36 As36 (bN 1 (ag (aq (fun w' h => zH (i := 0) h 3 rfl rfl rfl rfl) (ac (fun w' h => eC call28 (C7.out w')) (ac (fun w' h => eC call35 (C8.out w')) (ac (fun w' h => eC call34 (C9.out w')) (ar (ag (ag (am (zF rfl) (ak (fun J => ⟨rfl, rfl, rfl, fun w' h => zJ h rfl rfl rfl⟩) (ar trivial))))))))))))
 intro J w8 l hM hl
 have H8 : Hid (Mm w8 ([(J 10, zB q1)] ++ _) ∧ _) := wB H7 hM hl [10]
 have o8_10 := vB H7 hM hl 10
 clear hM hl l H7
 generalize J 10 = J8_10 at H8 o8_10 ⊢
 clear J
 refine rN (wp_seq (wp_seq ?_))
 refine zC 4 [.q (.bool true), .q (.bool true), .q (.bool true), .q (.bool true)] H8 ?ho9 ?he9
 case ho9 => exact ar (ar (ar (ag trivial)))
 intro _ w9 H9
 clear H8
 refine rN (wp_cond_true rfl (wp_seq ?_))
 refine zD 5 [.q (N r1), .q (N q1), .q (V [r1, q1]), .made (cel [0, 0]) 26, .laid 3 (cel [0, 0]) (cel [r1, q1])] (sB H9) ?ho10 ?he10 (hL := ?hL10)
 case hL10 => exact ⟨⟨_, rfl⟩, trivial⟩
 case ho10 => exact bN 1 (bN 0 (ak (fun J => ⟨rfl, fun w' _ => yC rfl rfl rfl⟩) (am (zO rfl) (ak (fun J => ⟨rfl, rfl, rfl, fun w' h => ex_laidA h rfl As26 rfl rfl rfl⟩) trivial))))
 intro J w10 l hM hl
 have H10 : Hid (Mm w10 ([(J 3, cel [r1, q1])] ++ _) ∧ _) := wB H9 hM hl [3]
 have o10_3 := vB H9 hM hl 3
 clear hM hl l H9
 generalize J 3 = J10_3 at H10 o10_3 ⊢
 clear J
 refine rN (wp_seq (wp_seq ?_))
 refine zS 5 [.q (V [r1, q1]), .q (V [r1, q1]), .call (V [m1, k1]), .q (V [a0, a1]), .q (.bool false)] H10 ?ho11 ?he11
 case ho11 => exact bA 0 2 0 Ai26 As26 (bA 0 2 0 Ai26 As26 (ac (fun w' h => eC call12 (C10.out w')) (bA 0 2 5 Ai26 As26 (ak (fun J => ⟨rfl, fun w' _ => exec_eqE2 e_m1 rfl rfl rfl⟩) trivial))))
 intro _ w11 H11
 clear H10
 refine rN (wp_cond_false rfl ?_)
 refine wp_skip (zA (wp_seq ?_))
 refine zS 5 [.q (N r1), .q (.agg (cel [pB] ++ ([Value.int .u64 9940570264628428797] ++ cel [sqP])).toArray), .q (N q1), .call (N y1), .q (V [r1, y1])] H11 ?ho12 ?he12
 case ho12 => exact bN 2 (bT 4 Ai36 As36 (bN 1 (ac (fun w' h => eC call25 (C11.out w')) (ak (fun J => ⟨rfl, fun w' _ => yC rfl rfl rfl⟩) trivial))))
 intro _ w12 H12
 clear H11
 refine zG (l := [5]) rfl ?_
 refine sF 0 [r1, y1] [_, _, _, _, _, _, _] H12 o10_3 As26 fun w13 H13 => ?_
 clear H12
 refine zE (zA (wp_seq ?_))
 refine zS 5 [.q (V [r1, y1]), .q (V [r1, y1]), .call (V [o1, i1]), .q (V [a0, a1]), .q (.bool true)] H13 ?ho13 ?he13
 case ho13 => exact bA 0 2 0 Ai26 As26 (bA 0 2 0 Ai26 As26 (ac (fun w' h => eC call12 (C12.out w')) (bA 0 2 5 Ai26 As26 (ak (fun J => ⟨rfl, fun w' _ => exec_eqE2 e_o1 rfl rfl rfl⟩) trivial))))
 intro _ w14 H14
 clear H13
 refine rN (wp_cond_true rfl (wp_seq ?_))
 refine zC 2 [.q (V [r1, y1]), .call (V [l0, l1])] H14 ?ho14 ?he14
 case ho14 => exact bA 0 2 0 Ai26 As26 (ac (fun w' h => eC call36 (C13.out w')) trivial)
 intro _ w15 H15
 clear H14
 refine zG (l := [2, 3]) rfl ?_
 refine sF 6 [l0, l1] [_, _, _, _, _, _, _] H15 o1_1 As26 fun w16 H16 => ?_
 clear H15
 refine zN (d := 3) rfl rfl rfl rfl ?_
 simp only [Act.put, sa, sz, ss]
 refine zE (zA (wp_ret ?_))
 repeat (first | refine zK ?_ | refine zI ?_)
 have hf0 := cel_var (k := 2) H16.out.1 6 rfl Ai26 As26 rfl
 refine bodyPost_ret (v := .tuple #[V [l0, l1], .bool true]) (by simp [results, Tryz.results17, asAddr, Act.eval, hf0]) rfl ?_
 exact ⟨rfl, H16.out.2⟩
set_option maxHeartbeats 4000000 in
theorem r2_n1a_c {a0 a1 t0 t1 n1 nn s1 h1 r1 d1 g1 q1 nm s2 h2 r2 d2 g2 q2 m2 k2 l0 l1 : Nat} {z1 : Bool}
  (e_m2 : ∀ w, (Op.equalIn 10000 26 (V [m2, k2]) (V [a0, a1])).run Tryz.prog w = .ok true w)
  (c0 : ∀ w, Calls Tryz.prog 29 #[.agg (cel [pB] ++ ([Value.int .u64 9940570264628428797] ++ cel [sqP])).toArray, N a0, N a0] w (Rt w (N t0)))
  (c1 : ∀ w, Calls Tryz.prog 29 #[.agg (cel [pB] ++ ([Value.int .u64 9940570264628428797] ++ cel [sqP])).toArray, N a1, N a1] w (Rt w (N t1)))
  (c2 : ∀ w, Calls Tryz.prog 23 #[.agg (cel [pB] ++ ([Value.int .u64 9940570264628428797] ++ cel [sqP])).toArray, N t0, N t1] w (Rt w (N n1)))
  (c3 : ∀ w, Calls Tryz.prog 34 #[N n1] w (Rt w (.tuple #[N nn, .bool true])))
  (c4 : ∀ w, Calls Tryz.prog 23 #[.agg (cel [pB] ++ ([Value.int .u64 9940570264628428797] ++ cel [sqP])).toArray, N a0, N nn] w (Rt w (N s1)))
  (c5 : ∀ w, Calls Tryz.prog 35 #[N s1] w (Rt w (N h1)))
  (c6 : ∀ w, Calls Tryz.prog 34 #[N h1] w (Rt w (.tuple #[N r1, .bool false])))
  (c7 : ∀ w, Calls Tryz.prog 28 #[.agg (cel [pB] ++ ([Value.int .u64 9940570264628428797] ++ cel [sqP])).toArray, N nn, N a0] w (Rt w (N d1)))
  (c8 : ∀ w, Calls Tryz.prog 35 #[N d1] w (Rt w (N g1)))
  (c9 : ∀ w, Calls Tryz.prog 34 #[N g1] w (Rt w (.tuple #[N q1, .bool z1])))
  (c10 : ∀ w, Calls Tryz.prog 25 #[.agg (cel [pB] ++ ([Value.int .u64 9940570264628428797] ++ cel [sqP])).toArray, N nn] w (Rt w (N nm)))
  (c11 : ∀ w, Calls Tryz.prog 23 #[.agg (cel [pB] ++ ([Value.int .u64 9940570264628428797] ++ cel [sqP])).toArray, N a0, N nm] w (Rt w (N s2)))
  (c12 : ∀ w, Calls Tryz.prog 35 #[N s2] w (Rt w (N h2)))
  (c13 : ∀ w, Calls Tryz.prog 34 #[N h2] w (Rt w (.tuple #[N r2, .bool true])))
  (c14 : ∀ w, Calls Tryz.prog 28 #[.agg (cel [pB] ++ ([Value.int .u64 9940570264628428797] ++ cel [sqP])).toArray, N nm, N a0] w (Rt w (N d2)))
  (c15 : ∀ w, Calls Tryz.prog 35 #[N d2] w (Rt w (N g2)))
  (c16 : ∀ w, Calls Tryz.prog 34 #[N g2] w (Rt w (.tuple #[N q2, .bool true])))
  (c17 : ∀ w, Calls Tryz.prog 12 #[V [r2, q2], V [r2, q2]] w (Rt w (V [m2, k2])))
  (c18 : ∀ w, Calls Tryz.prog 36 #[V [r2, q2]] w (Rt w (V [l0, l1]))) (w : World) :
  Calls Tryz.prog 17 #[V [a0, a1]] w (Rt w (.tuple #[V [l0, l1], .bool true])) := by
 have H0 : Hid (_ ∧ _) := ⟨Mm.nil w, Below.refl w.heap.size w⟩
 have C0 : Hid _ := c0
 have C1 : Hid _ := c1
 have C2 : Hid _ := c2
 have C3 : Hid _ := c3
 have C4 : Hid _ := c4
 have C5 : Hid _ := c5
 have C6 : Hid _ := c6
 have C7 : Hid _ := c7
 have C8 : Hid _ := c8
 have C9 : Hid _ := c9
 have C10 : Hid _ := c10
 have C11 : Hid _ := c11
 have C12 : Hid _ := c12
 have C13 : Hid _ := c13
 have C14 : Hid _ := c14
 have C15 : Hid _ := c15
 have C16 : Hid _ := c16
 have C17 : Hid _ := c17
 have C18 : Hid _ := c18
 clear c0 c1 c2 c3 c4 c5 c6 c7 c8 c9 c10 c11 c12 c13 c14 c15 c16 c17 c18
 go_enter Tryz.func17, Tryz.ntmps17
 refine wp_seq ?_
 refine zD 3 [.made (cel [a0, a1]) 26, .made (cel [0, 0]) 26, .q (.bool false)] (sB H0) ?ho1 ?he1
 case ho1 => exact am (zV rfl rfl) (am (zO rfl) (ar trivial))
 intro J w1 l hM hl
 have H1 : Hid (Mm w1 [(J 0, cel [a0, a1]), (J 1, cel [0, 0])] ∧ _) := wB H0 hM hl [0, 1]
 have o1_0 := vB H0 hM hl 0
 have o1_1 := vB H0 hM hl 1
 clear hM hl l
 generalize J 0 = J1_0 at H1 o1_0 ⊢
 generalize J 1 = J1_1 at H1 o1_1 ⊢
 clear J
 refine rN (wp_seq ?_)
 refine zD 3 [.call (.agg (cel [pB] ++ ([Value.int .u64 9940570264628428797] ++ cel [sqP])).toArray), .made (cel [0] ++ ([Value.int .u64 0] ++ cel [0])) 36, .laid 1 (cel [0] ++ ([Value.int .u64 0] ++ cel [0])) (cel [pB] ++ ([Value.int .u64 9940570264628428797] ++ cel [sqP]))] (sB H1) ?ho2 ?he2 (hL := ?hL2)
 case hL2 => exact ⟨⟨_, rfl⟩, trivial⟩
 case ho2 => exact ac (fun w' h => eC call19 (dP w')) (am (ex_made36 rfl) (ak (fun J => ⟨rfl, rfl, rfl, fun w' h => ex_laidT h rfl rfl As36 rfl rfl rfl⟩) trivial))
 intro J w2 l hM hl
 have H2 : Hid (Mm w2 ([(J 1, cel [pB] ++ ([Value.int .u64 9940570264628428797] ++ cel [sqP]))] ++ _) ∧ _) := wB H1 hM hl [1]
 have o2_1 := vB H1 hM hl 1
 clear hM hl l H1
 generalize J 1 = J2_1 at H2 o2_1 ⊢
 clear J
 refine rN (wp_seq ?_)
 refine zQ 21 [.q (.agg (cel [pB] ++ ([Value.int .u64 9940570264628428797] ++ cel [sqP])).toArray), .q (.agg (cel [pB] ++ ([Value.int .u64 9940570264628428797] ++ cel [sqP])).toArray), .q (PT J1_0 0), .q (N a0), .q (PT J1_0 0), .q (N a0), .call (N t0), .q (.agg (cel [pB] ++ ([Value.int .u64 9940570264628428797] ++ cel [sqP])).toArray), .q (PT J1_0 6), .q (N a1), .q (PT J1_0 6), .q (N a1), .call (N t1), .call (N n1), .call (.tuple #[N nn, .bool true]), .q (.tuple #[N nn, .bool true]), .q (N nn), .q (.bool true), .made zero6 24, .laid 18 zero6 (zB nn), .q (.bool true)] (sB H2) ?ho3 ?he3 (hL := ?hL3)
 case hL3 => exact ⟨⟨_, rfl⟩, trivial⟩
 case ho3 => exact bT 0 Ai36 As36 (bT 0 Ai36 As36 (ag (aq (fun w' h => zH (i := 0) h 1 rfl rfl rfl rfl) (ag (aq (fun w' h => zH (i := 0) h 1 rfl rfl rfl rfl) (ac (fun w' h => eC call29 (C0.out w')) (bT 0 Ai36 As36 (ag (aq (fun w' h => zH (i := 1) h 1 rfl rfl rfl rfl) (ag (aq (fun w' h => zH (i := 1) h 1 rfl rfl rfl rfl) (ac (fun w' h => eC call29 (C1.out w')) (ac (fun w' h => eC call23 (C2.out w')) (ac (fun w' h => eC call34 (C3.out w')) (ar (ag (ag (am (zF rfl) (ak (fun J => ⟨rfl, rfl, rfl, fun w' h => zJ h rfl rfl rfl⟩) (ar trivial))))))))))))))))))))
 intro J w3 l hM hl
 have H3 : Hid (Mm w3 ([(J 18, zB nn)] ++ _) ∧ _) := wB H2 hM hl [18]
 have o3_18 := vB H2 hM hl 18
 clear hM hl l H2
 generalize J 18 = J3_18 at H3 o3_18 ⊢
 clear J
 refine rN (wp_seq (wp_seq ?_))
 refine zC 2 [.q (.bool true), .q (.bool false)] H3 ?ho4 ?he4
 case ho4 => exact ar (ag trivial)
 intro _ w4 H4
 clear H3
 refine rN (wp_cond_false rfl ?_)
 refine wp_skip (zA ?_)
 refine wp_seq (wp_seq ?_)
 refine zC 1 [.q (.int .i64 0)] H4 ?ho5 ?he5
 case ho5 => exact ar trivial
 intro _ w5 H5
 clear H4
 refine rN (wp_block ?_)
 refine wp_loop_rounds 3 ?_
 refine rounds_in (n := 2) ?_
 refine wp_seq (wp_seq ?_)
 refine zC 2 [.q (.int .i64 0), .q (.bool true)] H5 ?ho6 ?he6
 case ho6 => exact ar (ag trivial)
 intro _ w6 H6
 clear H5
 refine rN (wp_cond_true rfl ?_)
 refine wp_skip (zA ?_)
 refine wp_seq (wp_block (wp_seq ?_))
 refine zD 13 [.q (.agg (cel [pB] ++ ([Value.int .u64 9940570264628428797] ++ cel [sqP])).toArray), .q (PT J1_0 0), .q (N a0), .q (N nn), .call (N s1), .call (N h1), .call (.tuple #[N r1, .bool false]), .q (.tuple #[N r1, .bool false]), .q (N r1), .q (.bool false), .made zero6 24, .laid 10 zero6 (zB r1), .q (.bool false)] (sB H6) ?ho7 ?he7 (hL := ?hL7)
 case hL7 => exact ⟨⟨_, rfl⟩, trivial⟩
 case ho7 => exact bT 1 Ai36 As36 (ag (aq (fun w' h => zH (i := 0) h 2 rfl rfl rfl rfl) (bN 0 (ac (fun w' h => eC call23 (C4.out w')) (ac (fun w' h => eC call35 (C5.out w')) (ac (fun w' h => eC call34 (C6.out w')) (ar (ag (ag (am (zF rfl) (ak (fun J => ⟨rfl, rfl, rfl, fun w' h => zJ h rfl rfl rfl⟩) (ar trivial))))))))))))
 intro J w7 l hM hl
 have H7 : Hid (Mm w7 ([(J 10, zB r1)] ++ _) ∧ _) := wB H6 hM hl [10]
 have o7_10 := vB H6 hM hl 10
 clear hM hl l H6
 generalize J 10 = J7_10 at H7 o7_10 ⊢
 clear J
 refine rN (wp_seq ?_)
 refine zD 13 [.q (.agg (cel [pB] ++ ([Value.int .u64 9940570264628428797] ++ cel [sqP])).toArray), .q (N nn), .q (PT J1_0 0), .q (N a0), .call (N d1), .call (N g1), .call (.tuple #[N q1, .bool z1]), .q (.tuple #[N q1, .bool z1]), .q (N q1), .q (.bool z1), .made zero6 24, .laid 10 zero6 (zB q1), .q (.bool z1)] (sB H7) ?ho8 ?he8 (hL := ?hL8)
 case hL8 => exact ⟨⟨_, rfl⟩, trivial⟩
 case ho8 => exact bT 2 Ai36 As36 (bN 1 (ag (aq (fun w' h => zH (i := 0) h 3 rfl rfl rfl rfl) (ac (fun w' h => eC call28 (C7.out w')) (ac (fun w' h => eC call35 (C8.out w')) (ac (fun w' h => eC call34 (C9.out w')) (ar (ag (ag (am (zF rfl) (ak (fun J => ⟨rfl, rfl, rfl, fun w' h => zJ h rfl rfl rfl⟩) (ar trivial))))))))))))
 intro J w8 l hM hl
 have H8 : Hid (Mm w8 ([(J 10, zB q1)] ++ _) ∧ _) := wB H7 hM hl [10]
 have o8_10 := vB H7 hM hl 10
 clear hM hl l H7
 generalize J 10 = J8_10 at H8 o8_10 ⊢
 clear J
 refine rN (wp_seq (wp_seq ?_))
 refine zC 4 [.q (.bool false), .q (.bool false), .gone, .q (.bool false)] H8 ?ho9 ?he9
 case ho9 => exact ar (ar (ak (fun J => rfl) (ag trivial)))
 intro _ w9 H9
 clear H8
 refine rN (wp_cond_false rfl ?_)
 refine wp_skip (zA ?_)
 refine zC 3 [.q (.agg (cel [pB] ++ ([Value.int .u64 9940570264628428797] ++ cel [sqP])).toArray), .q (N nn), .call (N nm)] H9 ?ho10 ?he10
 case ho10 => exact bT 3 Ai36 As36 (bN 2 (ac (fun w' h => eC call25 (C10.out w')) trivial))
 intro _ w10 H10
 clear H9
 refine zG (l := [3]) rfl ?_
 refine sG rfl (fun h => zM h 2 rfl rfl rfl rfl (Nat.le_of_ble_eq_true rfl)) 2 [_, _, (_, zB nm), _, _, _] H10 o3_18 fun w11 H11 => ?_
 clear H10
 refine zE (zT (zA ?_))
 refine zC 2 [.q (.int .i64 0), .q (.int .i64 1)] H11 ?ho11 ?he11
 case ho11 => exact ar (av trivial)
 intro _ w12 H12
 clear H11
 refine zG (l := [2]) rfl ?_
 refine zN (d := 7) rfl rfl rfl rfl ?_
 simp only [Act.put, sa, sz, ss]
 refine zE (zA ?_)
 refine rounds_in (n := 1) ?_
 refine wp_seq (wp_seq ?_)
 refine zC 2 [.q (.int .i64 1), .q (.bool true)] H12 ?ho12 ?he12
 case ho12 => exact ar (ag trivial)
 intro _ w13 H13
 clear H12
 refine rN (wp_cond_true rfl ?_)
 refine wp_skip (zA ?_)
 refine wp_seq (wp_block (wp_seq ?_))
 refine zD 13 [.q (.agg (cel [pB] ++ ([Value.int .u64 9940570264628428797] ++ cel [sqP])).toArray), .q (PT J1_0 0), .q (N a0), .q (N nm), .call (N s2), .call (N h2), .call (.tuple #[N r2, .bool true]), .q (.tuple #[N r2, .bool true]), .q (N r2), .q (.bool true), .made zero6 24, .laid 10 zero6 (zB r2), .q (.bool true)] (sB H13) ?ho13 ?he13 (hL := ?hL13)
 case hL13 => exact ⟨⟨_, rfl⟩, trivial⟩
 case ho13 => exact bT 3 Ai36 As36 (ag (aq (fun w' h => zH (i := 0) h 4 rfl rfl rfl rfl) (bN 2 (ac (fun w' h => eC call23 (C11.out w')) (ac (fun w' h => eC call35 (C12.out w')) (ac (fun w' h => eC call34 (C13.out w')) (ar (ag (ag (am (zF rfl) (ak (fun J => ⟨rfl, rfl, rfl, fun w' h => zJ h rfl rfl rfl⟩) (ar trivial))))))))))))
 intro J w14 l hM hl
 have H14 : Hid (Mm w14 ([(J 10, zB r2)] ++ _) ∧ _) := wB H13 hM hl [10]
 have o13_10 := vB H13 hM hl 10
 clear hM hl l H13
 generalize J 10 = J13_10 at H14 o13_10 ⊢
 clear J
 refine rN (wp_seq ?_)
 refine zD 13 [.q (.agg (cel [pB] ++ ([Value.int .u64 9940570264628428797] ++ cel [sqP])).toArray), .q (N nm), .q (PT J1_0 0), .q (N a0), .call (N d2), .call (N g2), .call (.tuple #[N q2, .bool true]), .q (.tuple #[N q2, .bool true]), .q (N q2), .q (.bool true), .made zero6 24, .laid 10 zero6 (zB q2), .q (.bool true)] (sB H14) ?ho14 ?he14 (hL := ?hL14)
 case hL14 => exact ⟨⟨_, rfl⟩, trivial⟩
 case ho14 => exact bT 4 Ai36 As36 (bN 3 (ag (aq (fun w' h => zH (i := 0) h 5 rfl rfl rfl rfl) (ac (fun w' h => eC call28 (C14.out w')) (ac (fun w' h => eC call35 (C15.out w')) (ac (fun w' h => eC call34 (C16.out w')) (ar (ag (ag (am (zF rfl) (ak (fun J => ⟨rfl, rfl, rfl, fun w' h => zJ h rfl rfl rfl⟩) (ar trivial))))))))))))
 intro J w15 l hM hl
 have H15 : Hid (Mm w15 ([(J 10, zB q2)] ++ _) ∧ _) := wB H14 hM hl [10]
 have o14_10 := vB H14 hM hl 10
 clear hM hl l H14
 generalize J 10 = J14_10 at H15 o14_10 ⊢
 clear J
 refine rN (wp_seq (wp_seq ?_))
 refine zC 4 [.q (.bool true), .q (.bool true), .q (.bool true), .q (.bool true)] H15 ?ho15 ?he15
 case ho15 => exact ar (ar (ar (ag trivial)))
 intro _ w16 H16
 clear H15
 refine rN (wp_cond_true rfl (wp_seq ?_))
 refine zD 5 [.q (N r2), .q (N q2), .q (V [r2, q2]), .made (cel [0, 0]) 26, .laid 3 (cel [0, 0]) (cel [r2, q2])] (sB H16) ?ho16 ?he16 (hL := ?hL16)
 case hL16 => exact ⟨⟨_, rfl⟩, trivial⟩
 case ho16 => exact bN 1 (bN 0 (ak (fun J => ⟨rfl, fun w' _ => yC rfl rfl rfl⟩) (am (zO rfl) (ak (fun J => ⟨rfl, rfl, rfl, fun w' h => ex_laidA h rfl As26 rfl rfl rfl⟩) trivial))))
 intro J w17 l hM hl
 have H17 : Hid (Mm w17 ([(J 3, cel [r2, q2])] ++ _) ∧ _) := wB H16 hM hl [3]
 have o16_3 := vB H16 hM hl 3
 clear hM hl l H16
 generalize J 3 = J16_3 at H17 o16_3 ⊢
 clear J
 refine rN (wp_seq (wp_seq ?_))
 refine zS 5 [.q (V [r2, q2]), .q (V [r2, q2]), .call (V [m2, k2]), .q (V [a0, a1]), .q (.bool true)] H17 ?ho17 ?he17
 case ho17 => exact bA 0 2 0 Ai26 As26 (bA 0 2 0 Ai26 As26 (ac (fun w' h => eC call12 (C17.out w')) (bA 0 2 7 Ai26 As26 (ak (fun J => ⟨rfl, fun w' _ => exec_eqE2 e_m2 rfl rfl rfl⟩) trivial))))
 intro _ w18 H18
 clear H17
 refine rN (wp_cond_true rfl (wp_seq ?_))
 refine zC 2 [.q (V [r2, q2]), .call (V [l0, l1])] H18 ?ho18 ?he18
 case ho18 => exact bA 0 2 0 Ai26 As26 (ac (fun w' h => eC call36 (C18.out w')) trivial)
 intro _ w19 H19
 clear H18
 refine zG (l := [2, 3]) rfl ?_
 refine sF 8 [l0, l1] [_, _, _, _, _, _, _, _, _] H19 o1_1 As26 fun w20 H20 => ?_
 clear H19
 refine zN (d := 3) rfl rfl rfl rfl ?_
 simp only [Act.put, sa, sz, ss]
 refine zE (zA (wp_ret ?_))
 repeat (first | refine zK ?_ | refine zI ?_)
 have hf0 := cel_var (k := 2) H20.out.1 8 rfl Ai26 As26 rfl
 refine bodyPost_ret (v := .tuple #[V [l0, l1], .bool true]) (by simp [results, Tryz.results17, asAddr, Act.eval, hf0]) rfl ?_
 exact ⟨rfl, H20.out.2⟩
set_option maxHeartbeats 4000000 in
theorem r2_n1a_d {a0 a1 t0 t1 n1 nn s1 h1 r1 d1 g1 q1 nm s2 h2 r2 d2 g2 q2 m2 k2 y2 o2 i2 l0 l1 : Nat} {z1 : Bool}
  (e_m2 : ∀ w, (Op.equalIn 10000 26 (V [m2, k2]) (V [a0, a1])).run Tryz.prog w = .ok false w)
  (e_o2 : ∀ w, (Op.equalIn 10000 26 (V [o2, i2]) (V [a0, a1])).run Tryz.prog w = .ok true w)
  (c0 : ∀ w, Calls Tryz.prog 29 #[.agg (cel [pB] ++ ([Value.int .u64 9940570264628428797] ++ cel [sqP])).toArray, N a0, N a0] w (Rt w (N t0)))
  (c1 : ∀ w, Calls Tryz.prog 29 #[.agg (cel [pB] ++ ([Value.int .u64 9940570264628428797] ++ cel [sqP])).toArray, N a1, N a1] w (Rt w (N t1)))
  (c2 : ∀ w, Calls Tryz.prog 23 #[.agg (cel [pB] ++ ([Value.int .u64 9940570264628428797] ++ cel [sqP])).toArray, N t0, N t1] w (Rt w (N n1)))
  (c3 : ∀ w, Calls Tryz.prog 34 #[N n1] w (Rt w (.tuple #[N nn, .bool true])))
  (c4 : ∀ w, Calls Tryz.prog 23 #[.agg (cel [pB] ++ ([Value.int .u64 9940570264628428797] ++ cel [sqP])).toArray, N a0, N nn] w (Rt w (N s1)))
  (c5 : ∀ w, Calls Tryz.prog 35 #[N s1] w (Rt w (N h1)))
  (c6 : ∀ w, Calls Tryz.prog 34 #[N h1] w (Rt w (.tuple #[N r1, .bool false])))
  (c7 : ∀ w, Calls Tryz.prog 28 #[.agg (cel [pB] ++ ([Value.int .u64 9940570264628428797] ++ cel [sqP])).toArray, N nn, N a0] w (Rt w (N d1)))
  (c8 : ∀ w, Calls Tryz.prog 35 #[N d1] w (Rt w (N g1)))
  (c9 : ∀ w, Calls Tryz.prog 34 #[N g1] w (Rt w (.tuple #[N q1, .bool z1])))
  (c10 : ∀ w, Calls Tryz.prog 25 #[.agg (cel [pB] ++ ([Value.int .u64 9940570264628428797] ++ cel [sqP])).toArray, N nn] w (Rt w (N nm)))
  (c11 : ∀ w, Calls Tryz.prog 23 #[.agg (cel [pB] ++ ([Value.int .u64 9940570264628428797] ++ cel [sqP])).toArray, N a0, N nm] w (Rt w (N s2)))
  (c12 : ∀ w, Calls Tryz.prog 35 #[N s2] w (Rt w (N h2)))
  (c13 : ∀ w, Calls Tryz.prog 34 #[N h2] w (Rt w (.tuple #[N r2, .bool true])))
  (c14 : ∀ w, Calls Tryz.prog 28 #[.agg (cel [pB] ++ ([Value.int .u64 9940570264628428797] ++ cel [sqP])).toArray, N nm, N a0] w (Rt w (N d2)))
  (c15 : ∀ w, Calls Tryz.prog 35 #[N d2] w (Rt w (N g2)))
  (c16 : ∀ w, Calls Tryz.prog 34 #[N g2] w (Rt w (.tuple #[N q2, .bool true])))
  (c17 : ∀ w, Calls Tryz.prog 12 #[V [r2, q2], V [r2, q2]] w (Rt w (V [m2, k2])))
  (c18 : ∀ w, Calls Tryz.prog 25 #[.agg (cel [pB] ++ ([Value.int .u64 9940570264628428797] ++ cel [sqP])).toArray, N q2] w (Rt w (N y2)))
  (c19 : ∀ w, Calls Tryz.prog 12 #[V [r2, y2], V [r2, y2]] w (Rt w (V [o2, i2])))
  (c20 : ∀ w, Calls Tryz.prog 36 #[V [r2, y2]] w (Rt w (V [l0, l1]))) (w : World) :
  Calls Tryz.prog 17 #[V [a0, a1]] w (Rt w (.tuple #[V [l0, l1], .bool true])) := by
 have H0 : Hid (_ ∧ _) := ⟨Mm.nil w, Below.refl w.heap.size w⟩
 have C0 : Hid _ := c0
 have C1 : Hid _ := c1
 have C2 : Hid _ := c2
 have C3 : Hid _ := c3
 have C4 : Hid _ := c4
 have C5 : Hid _ := c5
 have C6 : Hid _ := c6
 have C7 : Hid _ := c7
 have C8 : Hid _ := c8
 have C9 : Hid _ := c9
 have C10 : Hid _ := c10
 have C11 : Hid _ := c11
 have C12 : Hid _ := c12
 have C13 : Hid _ := c13
 have C14 : Hid _ := c14
 have C15 : Hid _ := c15
 have C16 : Hid _ := c16
 have C17 : Hid _ := c17
 have C18 : Hid _ := c18
 have C19 : Hid _ := c19
 have C20 : Hid _ := c20
 clear c0 c1 c2 c3 c4 c5 c6 c7 c8 c9 c10 c11 c12 c13 c14 c15 c16 c17 c18 c19 c20
 go_enter Tryz.func17, Tryz.ntmps17
 refine wp_seq ?_
 refine zD 3 [.made (cel [a0, a1]) 26, .made (cel [0, 0]) 26, .q (.bool false)] (sB H0) ?ho1 ?he1
 case ho1 => exact am (zV rfl rfl) (am (zO rfl) (ar trivial))
 intro J w1 l hM hl
 have H1 : Hid (Mm w1 [(J 0, cel [a0, a1]), (J 1, cel [0, 0])] ∧ _) := wB H0 hM hl [0, 1]
 have o1_0 := vB H0 hM hl 0
 have o1_1 := vB H0 hM hl 1
 clear hM hl l
 generalize J 0 = J1_0 at H1 o1_0 ⊢
 generalize J 1 = J1_1 at H1 o1_1 ⊢
 clear J
 refine rN (wp_seq ?_)
 refine zD 3 [.call (.agg (cel [pB] ++ ([Value.int .u64 9940570264628428797] ++ cel [sqP])).toArray), .made (cel [0] ++ ([Value.int .u64 0] ++ cel [0])) 36, .laid 1 (cel [0] ++ ([Value.int .u64 0] ++ cel [0])) (cel [pB] ++ ([Value.int .u64 9940570264628428797] ++ cel [sqP]))] (sB H1) ?ho2 ?he2 (hL := ?hL2)
 case hL2 => exact ⟨⟨_, rfl⟩, trivial⟩
 case ho2 => exact ac (fun w' h => eC call19 (dP w')) (am (ex_made36 rfl) (ak (fun J => ⟨rfl, rfl, rfl, fun w' h => ex_laidT h rfl rfl As36 rfl rfl rfl⟩) trivial))
 intro J w2 l hM hl
 have H2 : Hid (Mm w2 ([(J 1, cel [pB] ++ ([Value.int .u64 9940570264628428797] ++ cel [sqP]))] ++ _) ∧ _) := wB H1 hM hl [1]
 have o2_1 := vB H1 hM hl 1
 clear hM hl l H1
 generalize J 1 = J2_1 at H2 o2_1 ⊢
 clear J
 refine rN (wp_seq ?_)
 refine zQ 21 [.q (.agg (cel [pB] ++ ([Value.int .u64 9940570264628428797] ++ cel [sqP])).toArray), .q (.agg (cel [pB] ++ ([Value.int .u64 9940570264628428797] ++ cel [sqP])).toArray), .q (PT J1_0 0), .q (N a0), .q (PT J1_0 0), .q (N a0), .call (N t0), .q (.agg (cel [pB] ++ ([Value.int .u64 9940570264628428797] ++ cel [sqP])).toArray), .q (PT J1_0 6), .q (N a1), .q (PT J1_0 6), .q (N a1), .call (N t1), .call (N n1), .call (.tuple #[N nn, .bool true]), .q (.tuple #[N nn, .bool true]), .q (N nn), .q (.bool true), .made zero6 24, .laid 18 zero6 (zB nn), .q (.bool true)] (sB H2) ?ho3 ?he3 (hL := ?hL3)
 case hL3 => exact ⟨⟨_, rfl⟩, trivial⟩
 case ho3 => exact bT 0 Ai36 As36 (bT 0 Ai36 As36 (ag (aq (fun w' h => zH (i := 0) h 1 rfl rfl rfl rfl) (ag (aq (fun w' h => zH (i := 0) h 1 rfl rfl rfl rfl) (ac (fun w' h => eC call29 (C0.out w')) (bT 0 Ai36 As36 (ag (aq (fun w' h => zH (i := 1) h 1 rfl rfl rfl rfl) (ag (aq (fun w' h => zH (i := 1) h 1 rfl rfl rfl rfl) (ac (fun w' h => eC call29 (C1.out w')) (ac (fun w' h => eC call23 (C2.out w')) (ac (fun w' h => eC call34 (C3.out w')) (ar (ag (ag (am (zF rfl) (ak (fun J => ⟨rfl, rfl, rfl, fun w' h => zJ h rfl rfl rfl⟩) (ar trivial))))))))))))))))))))
 intro J w3 l hM hl
 have H3 : Hid (Mm w3 ([(J 18, zB nn)] ++ _) ∧ _) := wB H2 hM hl [18]
 have o3_18 := vB H2 hM hl 18
 clear hM hl l H2
 generalize J 18 = J3_18 at H3 o3_18 ⊢
 clear J
 refine rN (wp_seq (wp_seq ?_))
 refine zC 2 [.q (.bool true), .q (.bool false)] H3 ?ho4 ?he4
 case ho4 => exact ar (ag trivial)
 intro _ w4 H4
 clear H3
 refine rN (wp_cond_false rfl ?_)
 refine wp_skip (zA ?_)
 refine wp_seq (wp_seq ?_)
 refine zC 1 [.q (.int .i64 0)] H4 ?ho5 ?he5
 case ho5 => exact ar trivial
 intro _ w5 H5
 clear H4
 refine rN (wp_block ?_)
 refine wp_loop_rounds 3 ?_
 refine rounds_in (n := 2) ?_
 refine wp_seq (wp_seq ?_)
 refine zC 2 [.q (.int .i64 0), .q (.bool true)] H5 ?ho6 ?he6
 case ho6 => exact ar (ag trivial)
 intro _ w6 H6
 clear H5
 refine rN (wp_cond_true rfl ?_)
 refine wp_skip (zA ?_)
 refine wp_seq (wp_block (wp_seq ?_))
 refine zD 13 [.q (.agg (cel [pB] ++ ([Value.int .u64 9940570264628428797] ++ cel [sqP])).toArray), .q (PT J1_0 0), .q (N a0), .q (N nn), .call (N s1), .call (N h1), .call (.tuple #[N r1, .bool false]), .q (.tuple #[N r1, .bool false]), .q (N r1), .q (.bool false), .made zero6 24, .laid 10 zero6 (zB r1), .q (.bool false)] (sB H6) ?ho7 ?he7 (hL := ?hL7)
 case hL7 => exact ⟨⟨_, rfl⟩, trivial⟩
 case ho7 => exact bT 1 Ai36 As36 (ag (aq (fun w' h => zH (i := 0) h 2 rfl rfl rfl rfl) (bN 0 (ac (fun w' h => eC call23 (C4.out w')) (ac (fun w' h => eC call35 (C5.out w')) (ac (fun w' h => eC call34 (C6.out w')) (ar (ag (ag (am (zF rfl) (ak (fun J => ⟨rfl, rfl, rfl, fun w' h => zJ h rfl rfl rfl⟩) (ar trivial))))))))))))
 intro J w7 l hM hl
 have H7 : Hid (Mm w7 ([(J 10, zB r1)] ++ _) ∧ _) := wB H6 hM hl [10]
 have o7_10 := vB H6 hM hl 10
 clear hM hl l H6
 generalize J 10 = J7_10 at H7 o7_10 ⊢
 clear J
 refine rN (wp_seq ?_)
 refine zD 13 [.q (.agg (cel [pB] ++ ([Value.int .u64 9940570264628428797] ++ cel [sqP])).toArray), .q (N nn), .q (PT J1_0 0), .q (N a0), .call (N d1), .call (N g1), .call (.tuple #[N q1, .bool z1]), .q (.tuple #[N q1, .bool z1]), .q (N q1), .q (.bool z1), .made zero6 24, .laid 10 zero6 (zB q1), .q (.bool z1)] (sB H7) ?ho8 ?he8 (hL := ?hL8)
 case hL8 => exact ⟨⟨_, rfl⟩, trivial⟩
 case ho8 => exact bT 2 Ai36 As36 (bN 1 (ag (aq (fun w' h => zH (i := 0) h 3 rfl rfl rfl rfl) (ac (fun w' h => eC call28 (C7.out w')) (ac (fun w' h => eC call35 (C8.out w')) (ac (fun w' h => eC call34 (C9.out w')) (ar (ag (ag (am (zF rfl) (ak (fun J => ⟨rfl, rfl, rfl, fun w' h => zJ h rfl rfl rfl⟩) (ar trivial))))))))))))
 intro J w8 l hM hl
 have H8 : Hid (Mm w8 ([(J 10, zB q1)] ++ _) ∧ _) := wB H7 hM hl [10]
 have o8_10 := vB H7 hM hl 10
 clear hM hl l H7
 generalize J 10 = J8_10 at H8 o8_10 ⊢
 clear J
 refine rN (wp_seq (wp_seq ?_))
 refine zC 4 [.q (.bool false), .q (.bool false), .gone, .q (.bool false)] H8 ?ho9 ?he9
 case ho9 => exact ar (ar (ak (fun J => rfl) (ag trivial)))
 intro _ w9 H9
 clear H8
 refine rN (wp_cond_false rfl ?_)
 refine wp_skip (zA ?_)
 refine zC 3 [.q (.agg (cel [pB] ++ ([Value.int .u64 9940570264628428797] ++ cel [sqP])).toArray), .q (N nn), .call (N nm)] H9 ?ho10 ?he10
 case ho10 => exact bT 3 Ai36 As36 (bN 2 (ac (fun w' h => eC call25 (C10.out w')) trivial))
 intro _ w10 H10
 clear H9
 refine zG (l := [3]) rfl ?_
 refine sG rfl (fun h => zM h 2 rfl rfl rfl rfl (Nat.le_of_ble_eq_true rfl)) 2 [_, _, (_, zB nm), _, _, _] H10 o3_18 fun w11 H11 => ?_
 clear H10
 refine zE (zT (zA ?_))
 refine zC 2 [.q (.int .i64 0), .q (.int .i64 1)] H11 ?ho11 ?he11
 case ho11 => exact ar (av trivial)
 intro _ w12 H12
 clear H11
 refine zG (l := [2]) rfl ?_
 refine zN (d := 7) rfl rfl rfl rfl ?_
 simp only [Act.put, sa, sz, ss]
 refine zE (zA ?_)
 refine rounds_in (n := 1) ?_
 refine wp_seq (wp_seq ?_)
 refine zC 2 [.q (.int .i64 1), .q (.bool true)] H12 ?ho12 ?he12
 case ho12 => exact ar (ag trivial)
 intro _ w13 H13
 clear H12
 refine rN (wp_cond_true rfl ?_)
 refine wp_skip (zA ?_)
 refine wp_seq (wp_block (wp_seq ?_))
 refine zD 13 [.q (.agg (cel [pB] ++ ([Value.int .u64 9940570264628428797] ++ cel [sqP])).toArray), .q (PT J1_0 0), .q (N a0), .q (N nm), .call (N s2), .call (N h2), .call (.tuple #[N r2, .bool true]), .q (.tuple #[N r2, .bool true]), .q (N r2), .q (.bool true), .made zero6 24, .laid 10 zero6 (zB r2), .q (.bool true)] (sB H13) ?ho13 ?he13 (hL := ?hL13)
 case hL13 => exact ⟨⟨_, rfl⟩, trivial⟩
 case ho13 => exact bT 3 Ai36 As36 (ag (aq (fun w' h => zH (i := 0) h 4 rfl rfl rfl rfl) (bN 2 (ac (fun w' h => eC call23 (C11.out w')) (ac (fun w' h => eC call35 (C12.out w')) (ac (fun w' h => eC call34 (C13.out w')) (ar (ag (ag (am (zF rfl) (ak (fun J => ⟨rfl, rfl, rfl, fun w' h => zJ h rfl rfl rfl⟩) (ar trivial))))))))))))
 intro J w14 l hM hl
 have H14 : Hid (Mm w14 ([(J 10, zB r2)] ++ _) ∧ _) := wB H13 hM hl [10]
 have o13_10 := vB H13 hM hl 10
 clear hM hl l H13
 generalize J 10 = J13_10 at H14 o13_10 ⊢
 clear J
 refine rN (wp_seq ?_)
 refine zD 13 [.q (.agg (cel [pB] ++ ([Value.int .u64 9940570264628428797] ++ cel [sqP])).toArray), .q (N nm), .q (PT J1_0 0), .q (N a0), .call (N d2), .call (N g2), .call (.tuple #[N q2, .bool true]), .q (.tuple #[N q2, .bool true]), .q (N q2), .q (.bool true), .made zero6 24, .laid 10 zero6 (zB q2), .q (.bool true)] (sB H14) ?ho14 ?he14 (hL := ?hL14)
 case hL14 => exact ⟨⟨_, rfl⟩, trivial⟩
 case ho14 => exact bT 4 Ai36 As36 (bN 3 (ag (aq (fun w' h => zH (i := 0) h 5 rfl rfl rfl rfl) (ac (fun w' h => eC call28 (C14.out w')) (ac (fun w' h => eC call35 (C15.out w')) (ac (fun w' h => eC call34 (C16.out w')) (ar (ag (ag (am (zF rfl) (ak (fun J => ⟨rfl, rfl, rfl, fun w' h => zJ h rfl rfl rfl⟩) (ar trivial))))))))))))
 intro J w15 l hM hl
 have H15 : Hid (Mm w15 ([(J 10, zB q2)] ++ _) ∧ _) := wB H14 hM hl [10]
 have o14_10 := vB H14 hM hl 10
 clear hM hl l H14
 generalize J 10 = J14_10 at H15 o14_10 ⊢
 clear J
 refine rN (wp_seq (wp_seq ?_))
 refine zC 4 [.q (.bool true), .q (.bool true), .q (.bool true), .q (.bool true)] H15 ?ho15 ?he15
 case ho15 => exact ar (ar (ar (ag trivial)))
 intro _ w16 H16
 clear H15
 refine rN (wp_cond_true rfl (wp_seq ?_))
 refine zD 5 [.q (N r2), .q (N q2), .q (V [r2, q2]), .made (cel [0, 0]) 26, .laid 3 (cel [0, 0]) (cel [r2, q2])] (sB H16) ?ho16 ?he16 (hL := ?hL16)
 case hL16 => exact ⟨⟨_, rfl⟩, trivial⟩
 case ho16 => exact bN 1 (bN 0 (ak (fun J => ⟨rfl, fun w' _ => yC rfl rfl rfl⟩) (am (zO rfl) (ak (fun J => ⟨rfl, rfl, rfl, fun w' h => ex_laidA h rfl As26 rfl rfl rfl⟩) trivial))))
 intro J w17 l hM hl
 have H17 : Hid (Mm w17 ([(J 3, cel [r2, q2])] ++ _) ∧ _) := wB H16 hM hl [3]
 have o16_3 := vB H16 hM hl 3
 clear hM hl l H16
 generalize J 3 = J16_3 at H17 o16_3 ⊢
 clear J
 refine rN (wp_seq (wp_seq ?_))
 refine zS 5 [.q (V [r2, q2]), .q (V [r2, q2]), .call (V [m2, k2]), .q (V [a0, a1]), .q (.bool false)] H17 ?ho17 ?he17
 case ho17 => exact bA 0 2 0 Ai26 As26 (bA 0 2 0 Ai26 As26 (ac (fun w' h => eC call12 (C17.out w')) (bA 0 2 7 Ai26 As26 (ak (fun J => ⟨rfl, fun w' _ => exec_eqE2 e_m2 rfl rfl rfl⟩) trivial))))
 intro _ w18 H18
 clear H17
 refine rN (wp_cond_false rfl ?_)
 refine wp_skip (zA (wp_seq ?_))
 refine zS 5 [.q (N r2), .q (.agg (cel [pB] ++ ([Value.int .u64 9940570264628428797] ++ cel [sqP])).toArray), .q (N q2), .call (N y2), .q (V [r2, y2])] H18 ?ho18 ?he18
 case ho18 => exact bN 2 (bT 6 Ai36 As36 (bN 1 (ac (fun w' h => eC call25 (C18.out w')) (ak (fun J => ⟨rfl, fun w' _ => yC rfl rfl rfl⟩) trivial))))
 intro _ w19 H19
 clear H18
 refine zG (l := [5]) rfl ?_
 refine sF 0 [r2, y2] [_, _, _, _, _, _, _, _, _] H19 o16_3 As26 fun w20 H20 => ?_
 clear H19
 refine zE (zA (wp_seq ?_))
 refine zS 5 [.q (V [r2, y2]), .q (V [r2, y2]), .call (V [o2, i2]), .q (V [a0, a1]), .q (.bool true)] H20 ?ho19 ?he19
 case ho19 => exact bA 0 2 0 Ai26 As26 (bA 0 2 0 Ai26 As26 (ac (fun w' h => eC call12 (C19.out w')) (bA 0 2 7 Ai26 As26 (ak (fun J => ⟨rfl, fun w' _ => exec_eqE2 e_o2 rfl rfl rfl⟩) trivial))))
 intro _ w21 H21
 clear H20
 refine rN (wp_cond_true rfl (wp_seq ?_))
 refine zC 2 [.q (V [r2, y2]), .call (V [l0, l1])] H21 ?ho20 ?he20
 case ho20 => exact bA 0 2 0 Ai26 As26 (ac (fun w' h => eC call36 (C20.out w')) trivial)
 intro _ w22 H22
 clear H21
 refine zG (l := [2, 3]) rfl ?_
 refine sF 8 [l0, l1] [_, _, _, _, _, _, _, _, _] H22 o1_1 As26 fun w23 H23 => ?_
 clear H22
 refine zN (d := 3) rfl rfl rfl rfl ?_
 simp only [Act.put, sa, sz, ss]
 refine zE (zA (wp_ret ?_))
 repeat (first | refine zK ?_ | refine zI ?_)
 have hf0 := cel_var (k := 2) H23.out.1 8 rfl Ai26 As26 rfl
 refine bodyPost_ret (v := .tuple #[V [l0, l1], .bool true]) (by simp [results, Tryz.results17, asAddr, Act.eval, hf0]) rfl ?_
 exact ⟨rfl, H23.out.2⟩
set_option maxHeartbeats 4000000 in
theorem r2_n1b_c {a0 a1 t0 t1 n1 nn s1 h1 r1 d1 g1 q1 nm s2 h2 r2 d2 g2 q2 m2 k2 l0 l1 : Nat}
  (e_m2 : ∀ w, (Op.equalIn 10000 26 (V [m2, k2]) (V [a0, a1])).run Tryz.prog w = .ok true w)
  (c0 : ∀ w, Calls Tryz.prog 29 #[.agg (cel [pB] ++ ([Value.int .u64 9940570264628428797] ++ cel [sqP])).toArray, N a0, N a0] w (Rt w (N t0)))
  (c1 : ∀ w, Calls Tryz.prog 29 #[.agg (cel [pB] ++ ([Value.int .u64 9940570264628428797] ++ cel [sqP])).toArray, N a1, N a1] w (Rt w (N t1)))
  (c2 : ∀ w, Calls Tryz.prog 23 #[.agg (cel [pB] ++ ([Value.int .u64 9940570264628428797] ++ cel [sqP])).toArray, N t0, N t1] w (Rt w (N n1)))
  (c3 : ∀ w, Calls Tryz.prog 34 #[N n1] w (Rt w (.tuple #[N nn, .bool true])))
  (c4 : ∀ w, Calls Tryz.prog 23 #[.agg (cel [pB] ++ ([Value.int .u64 9940570264628428797] ++ cel [sqP])).toArray, N a0, N nn] w (Rt w (N s1)))
  (c5 : ∀ w, Calls Tryz.prog 35 #[N s1] w (Rt w (N h1)))
  (c6 : ∀ w, Calls Tryz.prog 34 #[N h1] w (Rt w (.tuple #[N r1, .bool true])))
  (c7 : ∀ w, Calls Tryz.prog 28 #[.agg (cel [pB] ++ ([Value.int .u64 9940570264628428797] ++ cel [sqP])).toArray, N nn, N a0] w (Rt w (N d1)))
  (c8 : ∀ w, Calls Tryz.prog 35 #[N d1] w (Rt w (N g1)))
  (c9 : ∀ w, Calls Tryz.prog 34 #[N g1] w (Rt w (.tuple #[N q1, .bool false])))
  (c10 : ∀ w, Calls Tryz.prog 25 #[.agg (cel [pB] ++ ([Value.int .u64 9940570264628428797] ++ cel [sqP])).toArray, N nn] w (Rt w (N nm)))
  (c11 : ∀ w, Calls Tryz.prog 23 #[.agg (cel [pB] ++ ([Value.int .u64 9940570264628428797] ++ cel [sqP])).toArray, N a0, N nm] w (Rt w (N s2)))
  (c12 : ∀ w, Calls Tryz.prog 35 #[N s2] w (Rt w (N h2)))
  (c13 : ∀ w, Calls Tryz.prog 34 #[N h2] w (Rt w (.tuple #[N r2, .bool true])))
  (c14 : ∀ w, Calls Tryz.prog 28 #[.agg (cel [pB] ++ ([Value.int .u64 9940570264628428797] ++ cel [sqP])).toArray, N nm, N a0] w (Rt w (N d2)))
  (c15 : ∀ w, Calls Tryz.prog 35 #[N d2] w (Rt w (N g2)))
  (c16 : ∀ w, Calls Tryz.prog 34 #[N g2] w (Rt w (.tuple #[N q2, .bool true])))
  (c17 : ∀ w, Calls Tryz.prog 12 #[V [r2, q2], V [r2, q2]] w (Rt w (V [m2, k2])))
  (c18 : ∀ w, Calls Tryz.prog 36 #[V [r2, q2]] w (Rt w (V [l0, l1]))) (w : World) :
  Calls Tryz.prog 17 #[V [a0, a1]] w (Rt w (.tuple #[V [l0, l1], .bool true])) := by
 have H0 : Hid (_ ∧ _) := ⟨Mm.nil w, Below.refl w.heap.size w⟩
 have C0 : Hid _ := c0
 have C1 : Hid _ := c1
 have C2 : Hid _ := c2
 have C3 : Hid _ := c3
 have C4 : Hid _ := c4
 have C5 : Hid _ := c5
 have C6 : Hid _ := c6
 have C7 : Hid _ := c7
 have C8 : Hid _ := c8
 have C9 : Hid _ := c9
 have C10 : Hid _ := c10
 have C11 : Hid _ := c11
 have C12 : Hid _ := c12
 have C13 : Hid _ := c13
 have C14 : Hid _ := c14
 have C15 : Hid _ := c15
 have C16 : Hid _ := c16
 have C17 : Hid _ := c17
 have C18 : Hid _ := c18
 clear c0 c1 c2 c3 c4 c5 c6 c7 c8 c9 c10 c11 c12 c13 c14 c15 c16 c17 c18
 go_enter Tryz.func17, Tryz.ntmps17
 refine wp_seq ?_
 refine zD 3 [.made (cel [a0, a1]) 26, .made (cel [0, 0]) 26, .q (.bool false)] (sB H0) ?ho1 ?he1
 case ho1 => exact am (zV rfl rfl) (am (zO rfl) (ar trivial))
 intro J w1 l hM hl
 have H1 : Hid (Mm w1 [(J 0, cel [a0, a1]), (J 1, cel [0, 0])] ∧ _) := wB H0 hM hl [0, 1]
 have o1_0 := vB H0 hM hl 0
 have o1_1 := vB H0 hM hl 1
 clear hM hl l
 generalize J 0 = J1_0 at H1 o1_0 ⊢
 generalize J 1 = J1_1 at H1 o1_1 ⊢
 clear J
 refine rN (wp_seq ?_)
 refine zD 3 [.call (.agg (cel [pB] ++ ([Value.int .u64 9940570264628428797] ++ cel [sqP])).toArray), .made (cel [0] ++ ([Value.int .u64 0] ++ cel [0])) 36, .laid 1 (cel [0] ++ ([Value.int .u64 0] ++ cel [0])) (cel [pB] ++ ([Value.int .u64 9940570264628428797] ++ cel [sqP]))] (sB H1) ?ho2 ?he2 (hL := ?hL2)
 case hL2 => exact ⟨⟨_, rfl⟩, trivial⟩
 case ho2 => exact ac (fun w' h => eC call19 (dP w')) (am (ex_made36 rfl) (ak (fun J => ⟨rfl, rfl, rfl, fun w' h => ex_laidT h rfl rfl As36 rfl rfl rfl⟩) trivial))
 intro J w2 l hM hl
 have H2 : Hid (Mm w2 ([(J 1, cel [pB] ++ ([Value.int .u64 9940570264628428797] ++ cel [sqP]))] ++ _) ∧ _) := wB H1 hM hl [1]
 have o2_1 := vB H1 hM hl 1
 clear hM hl l H1
 generalize J 1 = J2_1 at H2 o2_1 ⊢
 clear J
 refine rN (wp_seq ?_)
 refine zQ 21 [.q (.agg (cel [pB] ++ ([Value.int .u64 9940570264628428797] ++ cel [sqP])).toArray), .q (.agg (cel [pB] ++ ([Value.int .u64 9940570264628428797] ++ cel [sqP])).toArray), .q (PT J1_0 0), .q (N a0), .q (PT J1_0 0), .q (N a0), .call (N t0), .q (.agg (cel [pB] ++ ([Value.int .u64 9940570264628428797] ++ cel [sqP])).toArray), .q (PT J1_0 6), .q (N a1), .q (PT J1_0 6), .q (N a1), .call (N t1), .call (N n1), .call (.tuple #[N nn, .bool true]), .q (.tuple #[N nn, .bool true]), .q (N nn), .q (.bool true), .made zero6 24, .laid 18 zero6 (zB nn), .q (.bool true)] (sB H2) ?ho3 ?he3 (hL := ?hL3)
 case hL3 => exact ⟨⟨_, rfl⟩, trivial⟩
 case ho3 => exact bT 0 Ai36 As36 (bT 0 Ai36 As36 (ag (aq (fun w' h => zH (i := 0) h 1 rfl rfl rfl rfl) (ag (aq (fun w' h => zH (i := 0) h 1 rfl rfl rfl rfl) (ac (fun w' h => eC call29 (C0.out w')) (bT 0 Ai36 As36 (ag (aq (fun w' h => zH (i := 1) h 1 rfl rfl rfl rfl) (ag (aq (fun w' h => zH (i := 1) h 1 rfl rfl rfl rfl) (ac (fun w' h => eC call29 (C1.out w')) (ac (fun w' h => eC call23 (C2.out w')) (ac (fun w' h => eC call34 (C3.out w')) (ar (ag (ag (am (zF rfl) (ak (fun J => ⟨rfl, rfl, rfl, fun w' h => zJ h rfl rfl rfl⟩) (ar trivial))))))))))))))))))))
 intro J w3 l hM hl
 have H3 : Hid (Mm w3 ([(J 18, zB nn)] ++ _) ∧ _) := wB H2 hM hl [18]
 have o3_18 := vB H2 hM hl 18
 clear hM hl l H2
 generalize J 18 = J3_18 at H3 o3_18 ⊢
 clear J
 refine rN (wp_seq (wp_seq ?_))
 refine zC 2 [.q (.bool true), .q (.bool false)] H3 ?ho4 ?he4
 case ho4 => exact ar (ag trivial)
 intro _ w4 H4
 clear H3
 refine rN (wp_cond_false rfl ?_)
 refine wp_skip (zA ?_)
 refine wp_seq (wp_seq ?_)
 refine zC 1 [.q (.int .i64 0)] H4 ?ho5 ?he5
 case ho5 => exact ar trivial
 intro _ w5 H5
 clear H4
 refine rN (wp_block ?_)
 refine wp_loop_rounds 3 ?_
 refine rounds_in (n := 2) ?_
 refine wp_seq (wp_seq ?_)
 refine zC 2 [.q (.int .i64 0), .q (.bool true)] H5 ?ho6 ?he6
 case ho6 => exact ar (ag trivial)
 intro _ w6 H6
 clear H5
 refine rN (wp_cond_true rfl ?_)
 refine wp_skip (zA ?_)
 refine wp_seq (wp_block (wp_seq ?_))
 refine zD 13 [.q (.agg (cel [pB] ++ ([Value.int .u64 9940570264628428797] ++ cel [sqP])).toArray), .q (PT J1_0 0), .q (N a0), .q (N nn), .call (N s1), .call (N h1), .call (.tuple #[N r1, .bool true]), .q (.tuple #[N r1, .bool true]), .q (N r1), .q (.bool true), .made zero6 24, .laid 10 zero6 (zB r1), .q (.bool true)] (sB H6) ?ho7 ?he7 (hL := ?hL7)
 case hL7 => exact ⟨⟨_, rfl⟩, trivial⟩
 case ho7 => exact bT 1 Ai36 As36 (ag (aq (fun w' h => zH (i := 0) h 2 rfl rfl rfl rfl) (bN 0 (ac (fun w' h => eC call23 (C4.out w')) (ac (fun w' h => eC call35 (C5.out w')) (ac (fun w' h => eC call34 (C6.out w')) (ar (ag (ag (am (zF rfl) (ak (fun J => ⟨rfl, rfl, rfl, fun w' h => zJ h rfl rfl rfl⟩) (ar trivial))))))))))))
 intro J w7 l hM hl
 have H7 : Hid (Mm w7 ([(J 10, zB r1)] ++ _) ∧ _) := wB H6 hM hl [10]
 have o7_10 := vB H6 hM hl 10
 clear hM hl l H6
 generalize J 10 = J7_10 at H7 o7_10 ⊢
 clear J
 refine rN (wp_seq ?_)
 refine zD 13 [.q (.agg (cel [pB] ++ ([Value.int .u64 9940570264628428797] ++ cel [sqP])).toArray), .q (N nn), .q (PT J1_0 0), .q (N a0), .call (N d1), .call (N g1), .call (.tuple #[N q1, .bool false]), .q (.tuple #[N q1, .bool false]), .q (N q1), .q (.bool false), .made zero6 24, .laid 10 zero6 (zB q1), .q (.bool false)] (sB H7) ?ho8 ?he8 (hL := ?hL8)
 case hL8 => exact ⟨⟨_, rfl⟩, trivial⟩
 case ho8 => exact bT 2 Ai36 As36 (bN 1 (ag (aq (fun w' h => zH (i := 0) h 3 rfl rfl rfl rfl) (ac (fun w' h => eC call28 (C7.out w')) (ac (fun w' h => eC call35 (C8.out w')) (ac (fun w' h => eC call34 (C9.out w')) (ar (ag (ag (am (zF rfl) (ak (fun J => ⟨rfl, rfl, rfl, fun w' h => zJ h rfl rfl rfl⟩) (ar trivial))))))))))))
 intro J w8 l hM hl
 have H8 : Hid (Mm w8 ([(J 10, zB q1)] ++ _) ∧ _) := wB H7 hM hl [10]
 have o8_10 := vB H7 hM hl 10
 clear hM hl l H7
 generalize J 10 = J8_10 at H8 o8_10 ⊢
 clear J
 refine rN (wp_seq (wp_seq ?_))
 refine zC 4 [.q (.bool true), .q (.bool true), .q (.bool false), .q (.bool false)] H8 ?ho9 ?he9
 case ho9 => exact ar (ar (ar (ag trivial)))
 intro _ w9 H9
 clear H8
 refine rN (wp_cond_false rfl ?_)
 refine wp_skip (zA ?_)
 refine zC 3 [.q (.agg (cel [pB] ++ ([Value.int .u64 9940570264628428797] ++ cel [sqP])).toArray), .q (N nn), .call (N nm)] H9 ?ho10 ?he10
 case ho10 => exact bT 3 Ai36 As36 (bN 2 (ac (fun w' h => eC call25 (C10.out w')) trivial))
 intro _ w10 H10
 clear H9
 refine zG (l := [3]) rfl ?_
 refine sG rfl (fun h => zM h 2 rfl rfl rfl rfl (Nat.le_of_ble_eq_true rfl)) 2 [_, _, (_, zB nm), _, _, _] H10 o3_18 fun w11 H11 => ?_
 clear H10
 refine zE (zT (zA ?_))
 refine zC 2 [.q (.int .i64 0), .q (.int .i64 1)] H11 ?ho11 ?he11
 case ho11 => exact ar (av trivial)
 intro _ w12 H12
 clear H11
 refine zG (l := [2]) rfl ?_
 refine zN (d := 7) rfl rfl rfl rfl ?_
 simp only [Act.put, sa, sz, ss]
 refine zE (zA ?_)
 refine rounds_in (n := 1) ?_
 refine wp_seq (wp_seq ?_)
 refine zC 2 [.q (.int .i64 1), .q (.bool true)] H12 ?ho12 ?he12
 case ho12 => exact ar (ag trivial)
 intro _ w13 H13
 clear H12
 refine rN (wp_cond_true rfl ?_)
 refine wp_skip (zA ?_)
 refine wp_seq (wp_block (wp_seq ?_))
 refine zD 13 [.q (.agg (cel [pB] ++ ([Value.int .u64 9940570264628428797] ++ cel [sqP])).toArray), .q (PT J1_0 0), .q (N a0), .q (N nm), .call (N s2), .call (N h2), .call (.tuple #[N r2, .bool true]), .q (.tuple #[N r2, .bool true]), .q (N r2), .q (.bool true), .made zero6 24, .laid 10 zero6 (zB r2), .q (.bool true)] (sB H13) ?ho13 ?he13 (hL := ?hL13)
 case hL13 => exact ⟨⟨_, rfl⟩, trivial⟩
 case ho13 => exact bT 3 Ai36 As36 (ag (aq (fun w' h => zH (i := 0) h 4 rfl rfl rfl rfl) (bN 2 (ac (fun w' h => eC call23 (C11.out w')) (ac (fun w' h => eC call35 (C12.out w')) (ac (fun w' h => eC call34 (C13.out w')) (ar (ag (ag (am (zF rfl) (ak (fun J => ⟨rfl, rfl, rfl, fun w' h => zJ h rfl rfl rfl⟩) (ar trivial))))))))))))
 intro J w14 l hM hl
 have H14 : Hid (Mm w14 ([(J 10, zB r2)] ++ _) ∧ _) := wB H13 hM hl [10]
 have o13_10 := vB H13 hM hl 10
 clear hM hl l H13
 generalize J 10 = J13_10 at H14 o13_10 ⊢
 clear J
 refine rN (wp_seq ?_)
 refine zD 13 [.q (.agg (cel [pB] ++ ([Value.int .u64 9940570264628428797] ++ cel [sqP])).toArray), .q (N nm), .q (PT J1_0 0), .q (N a0), .call (N d2), .call (N g2), .call (.tuple #[N q2, .bool true]), .q (.tuple #[N q2, .bool true]), .q (N q2), .q (.bool true), .made zero6 24, .laid 10 zero6 (zB q2), .q (.bool true)] (sB H14) ?ho14 ?he14 (hL := ?hL14)
 case hL14 => exact ⟨⟨_, rfl⟩, trivial⟩
 case ho14 => exact bT 4 Ai36 As36 (bN 3 (ag (aq (fun w' h => zH (i := 0) h 5 rfl rfl rfl rfl) (ac (fun w' h => eC call28 (C14.out w')) (ac (fun w' h => eC call35 (C15.out w')) (ac (fun w' h => eC call34 (C16.out w')) (ar (ag (ag (am (zF rfl) (ak (fun J => ⟨rfl, rfl, rfl, fun w' h => zJ h rfl rfl rfl⟩) (ar trivial))))))))))))
 intro J w15 l hM hl
 have H15 : Hid (Mm w15 ([(J 10, zB q2)] ++ _) ∧ _) := wB H14 hM hl [10]
 have o14_10 := vB H14 hM hl 10
 clear hM hl l H14
 generalize J 10 = J14_10 at H15 o14_10 ⊢
 clear J
 refine rN (wp_seq (wp_seq ?_))
 refine zC 4 [.q (.bool true), .q (.bool true), .q (.bool true), .q (.bool true)] H15 ?ho15 ?he15
 case ho15 => exact ar (ar (ar (ag trivial)))
 intro _ w16 H16
 clear H15
 refine rN (wp_cond_true rfl (wp_seq ?_))
 refine zD 5 [.q (N r2), .q (N q2), .q (V [r2, q2]), .made (cel [0, 0]) 26, .laid 3 (cel [0, 0]) (cel [r2, q2])] (sB H16) ?ho16 ?he16 (hL := ?hL16)
 case hL16 => exact ⟨⟨_, rfl⟩, trivial⟩
 case ho16 => exact bN 1 (bN 0 (ak (fun J => ⟨rfl, fun w' _ => yC rfl rfl rfl⟩) (am (zO rfl) (ak (fun J => ⟨rfl, rfl, rfl, fun w' h => ex_laidA h rfl As26 rfl rfl rfl⟩) trivial))))
 intro J w17 l hM hl
 have H17 : Hid (Mm w17 ([(J 3, cel [r2, q2])] ++ _) ∧ _) := wB H16 hM hl [3]
 have o16_3 := vB H16 hM hl 3
 clear hM hl l H16
 generalize J 3 = J16_3 at H17 o16_3 ⊢
 clear J
 refine rN (wp_seq (wp_seq ?_))
 refine zS 5 [.q (V [r2, q2]), .q (V [r2, q2]), .call (V [m2, k2]), .q (V [a0, a1]), .q (.bool true)] H17 ?ho17 ?he17
 case ho17 => exact bA 0 2 0 Ai26 As26 (bA 0 2 0 Ai26 As26 (ac (fun w' h => eC call12 (C17.out w')) (bA 0 2 7 Ai26 As26 (ak (fun J => ⟨rfl, fun w' _ => exec_eqE2 e_m2 rfl rfl rfl⟩) trivial))))
 intro _ w18 H18
 clear H17
 refine rN (wp_cond_true rfl (wp_seq ?_))
 refine zC 2 [.q (V [r2, q2]), .call (V [l0, l1])] H18 ?ho18 ?he18
 case ho18 => exact bA 0 2 0 Ai26 As26 (ac (fun w' h => eC call36 (C18.out w')) trivial)
 intro _ w19 H19
 clear H18
 refine zG (l := [2, 3]) rfl ?_
 refine sF 8 [l0, l1] [_, _, _, _, _, _, _, _, _] H19 o1_1 As26 fun w20 H20 => ?_
 clear H19
 refine zN (d := 3) rfl rfl rfl rfl ?_
 simp only [Act.put, sa, sz, ss]
 refine zE (zA (wp_ret ?_))
 repeat (first | refine zK ?_ | refine zI ?_)
 have hf0 := cel_var (k := 2) H20.out.1 8 rfl Ai26 As26 rfl
 refine bodyPost_ret (v := .tuple #[V [l0, l1], .bool true]) (by simp [results, Tryz.results17, asAddr, Act.eval, hf0]) rfl ?_
 exact ⟨rfl, H20.out.2⟩
set_option maxHeartbeats 4000000 in
theorem r2_n1b_d {a0 a1 t0 t1 n1 nn s1 h1 r1 d1 g1 q1 nm s2 h2 r2 d2 g2 q2 m2 k2 y2 o2 i2 l0 l1 : Nat}
  (e_m2 : ∀ w, (Op.equalIn 10000 26 (V [m2, k2]) (V [a0, a1])).run Tryz.prog w = .ok false w)
  (e_o2 : ∀ w, (Op.equalIn 10000 26 (V [o2, i2]) (V [a0, a1])).run Tryz.prog w = .ok true w)
  (c0 : ∀ w, Calls Tryz.prog 29 #[.agg (cel [pB] ++ ([Value.int .u64 9940570264628428797] ++ cel [sqP])).toArray, N a0, N a0] w (Rt w (N t0)))
  (c1 : ∀ w, Calls Tryz.prog 29 #[.agg (cel [pB] ++ ([Value.int .u64 9940570264628428797] ++ cel [sqP])).toArray, N a1, N a1] w (Rt w (N t1)))
  (c2 : ∀ w, Calls Tryz.prog 23 #[.agg (cel [pB] ++ ([Value.int .u64 9940570264628428797] ++ cel [sqP])).toArray, N t0, N t1] w (Rt w (N n1)))
  (c3 : ∀ w, Calls Tryz.prog 34 #[N n1] w (Rt w (.tuple #[N nn, .bool true])))
  (c4 : ∀ w, Calls Tryz.prog 23 #[.agg (cel [pB] ++ ([Value.int .u64 9940570264628428797] ++ cel [sqP])).toArray, N a0, N nn] w (Rt w (N s1)))
  (c5 : ∀ w, Calls Tryz.prog 35 #[N s1] w (Rt w (N h1)))
  (c6 : ∀ w, Calls Tryz.prog 34 #[N h1] w (Rt w (.tuple #[N r1, .bool true])))
  (c7 : ∀ w, Calls Tryz.prog 28 #[.agg (cel [pB] ++ ([Value.int .u64 9940570264628428797] ++ cel [sqP])).toArray, N nn, N a0] w (Rt w (N d1)))
  (c8 : ∀ w, Calls Tryz.prog 35 #[N d1] w (Rt w (N g1)))
  (c9 : ∀ w, Calls Tryz.prog 34 #[N g1] w (Rt w (.tuple #[N q1, .bool false])))
  (c10 : ∀ w, Calls Tryz.prog 25 #[.agg (cel [pB] ++ ([Value.int .u64 9940570264628428797] ++ cel [sqP])).toArray, N nn] w (Rt w (N nm)))
  (c11 : ∀ w, Calls Tryz.prog 23 #[.agg (cel [pB] ++ ([Value.int .u64 9940570264628428797] ++ cel [sqP])).toArray, N a0, N nm] w (Rt w (N s2)))
  (c12 : ∀ w, Calls Tryz.prog 35 #[N s2] w (Rt w (N h2)))
  (c13 : ∀ w, Calls Tryz.prog 34 #[N h2] w (Rt w (.tuple #[N r2, .bool true])))
  (c14 : ∀ w, Calls Tryz.prog 28 #[.agg (cel [pB] ++ ([Value.int .u64 9940570264628428797] ++ cel [sqP])).toArray, N nm, N a0] w (Rt w (N d2)))
  (c15 : ∀ w, Calls Tryz.prog 35 #[N d2] w (Rt w (N g2)))
  (c16 : ∀ w, Calls Tryz.prog 34 #[N g2] w (Rt w (.tuple #[N q2, .bool true])))
  (c17 : ∀ w, Calls Tryz.prog 12 #[V [r2, q2], V [r2, q2]] w (Rt w (V [m2, k2])))
  (c18 : ∀ w, Calls Tryz.prog 25 #[.agg (cel [pB] ++ ([Value.int .u64 9940570264628428797] ++ cel [sqP])).toArray, N q2] w (Rt w (N y2)))
  (c19 : ∀ w, Calls Tryz.prog 12 #[V [r2, y2], V [r2, y2]] w (Rt w (V [o2, i2])))
  (c20 : ∀ w, Calls Tryz.prog 36 #[V [r2, y2]] w (Rt w (V [l0, l1]))) (w : World) :
  Calls Tryz.prog 17 #[V [a0, a1]] w (Rt w (.tuple #[V [l0, l1], .bool true])) := by
 have H0 : Hid (_ ∧ _) := ⟨Mm.nil w, Below.refl w.heap.size w⟩
 have C0 : Hid _ := c0
 have C1 : Hid _ := c1
 have C2 : Hid _ := c2
 have C3 : Hid _ := c3
 have C4 : Hid _ := c4
 have C5 : Hid _ := c5
 have C6 : Hid _ := c6
 have C7 : Hid _ := c7
 have C8 : Hid _ := c8
 have C9 : Hid _ := c9
 have C10 : Hid _ := c10
 have C11 : Hid _ := c11
 have C12 : Hid _ := c12
 have C13 : Hid _ := c13
 have C14 : Hid _ := c14
 have C15 : Hid _ := c15
 have C16 : Hid _ := c16
 have C17 : Hid _ := c17
 have C18 : Hid _ := c18
 have C19 : Hid _ := c19
 have C20 : Hid _ := c20
 clear c0 c1 c2 c3 c4 c5 c6 c7 c8 c9 c10 c11 c12 c13 c14 c15 c16 c17 c18 c19 c20
 go_enter Tryz.func17, Tryz.ntmps17
 refine wp_seq ?_
 refine zD 3 [.made (cel [a0, a1]) 26, .made (cel [0, 0]) 26, .q (.bool false)] (sB H0) ?ho1 ?he1
 case ho1 => exact am (zV rfl rfl) (am (zO rfl) (ar trivial))
 intro J w1 l hM hl
 have H1 : Hid (Mm w1 [(J 0, cel [a0, a1]), (J 1, cel [0, 0])] ∧ _) := wB H0 hM hl [0, 1]
 have o1_0 := vB H0 hM hl 0
 have o1_1 := vB H0 hM hl 1
 clear hM hl l
 generalize J 0 = J1_0 at H1 o1_0 ⊢
 generalize J 1 = J1_1 at H1 o1_1 ⊢
 clear J
 refine rN (wp_seq ?_)
 refine zD 3 [.call (.agg (cel [pB] ++ ([Value.int .u64 9940570264628428797] ++ cel [sqP])).toArray), .made (cel [0] ++ ([Value.int .u64 0] ++ cel [0])) 36, .laid 1 (cel [0] ++ ([Value.int .u64 0] ++ cel [0])) (cel [pB] ++ ([Value.int .u64 9940570264628428797] ++ cel [sqP]))] (sB H1) ?ho2 ?he2 (hL := ?hL2)
 case hL2 => exact ⟨⟨_, rfl⟩, trivial⟩
 case ho2 => exact ac (fun w' h => eC call19 (dP w')) (am (ex_made36 rfl) (ak (fun J => ⟨rfl, rfl, rfl, fun w' h => ex_laidT h rfl rfl As36 rfl rfl rfl⟩) trivial))
 intro J w2 l hM hl
 have H2 : Hid (Mm w2 ([(J 1, cel [pB] ++ ([Value.int .u64 9940570264628428797] ++ cel [sqP]))] ++ _) ∧ _) := wB H1 hM hl [1]
 have o2_1 := vB H1 hM hl 1
 clear hM hl l H1
 generalize J 1 = J2_1 at H2 o2_1 ⊢
 clear J
 refine rN (wp_seq ?_)
 refine zQ 21 [.q (.agg (cel [pB] ++ ([Value.int .u64 9940570264628428797] ++ cel [sqP])).toArray), .q (.agg (cel [pB] ++ ([Value.int .u64 9940570264628428797] ++ cel [sqP])).toArray), .q (PT J1_0 0), .q (N a0), .q (PT J1_0 0), .q (N a0), .call (N t0), .q (.agg (cel [pB] ++ ([Value.int .u64 9940570264628428797] ++ cel [sqP])).toArray), .q (PT J1_0 6), .q (N a1), .q (PT J1_0 6), .q (N a1), .call (N t1), .call (N n1), .call (.tuple #[N nn, .bool true]), .q (.tuple #[N nn, .bool true]), .q (N nn), .q (.bool true), .made zero6 24, .laid 18 zero6 (zB nn), .q (.bool true)] (sB H2) ?ho3 ?he3 (hL := ?hL3)
 case hL3 => exact ⟨⟨_, rfl⟩, trivial⟩
 case ho3 => exact bT 0 Ai36 As36 (bT 0 Ai36 As36 (ag (aq (fun w' h => zH (i := 0) h 1 rfl rfl rfl rfl) (ag (aq (fun w' h => zH (i := 0) h 1 rfl rfl rfl rfl) (ac (fun w' h => eC call29 (C0.out w')) (bT 0 Ai36 As36 (ag (aq (fun w' h => zH (i := 1) h 1 rfl rfl rfl rfl) (ag (aq (fun w' h => zH (i := 1) h 1 rfl rfl rfl rfl) (ac (fun w' h => eC call29 (C1.out w')) (ac (fun w' h => eC call23 (C2.out w')) (ac (fun w' h => eC call34 (C3.out w')) (ar (ag (ag (am (zF rfl) (ak (fun J => ⟨rfl, rfl, rfl, fun w' h => zJ h rfl rfl rfl⟩) (ar trivial))))))))))))))))))))
 intro J w3 l hM hl
 have H3 : Hid (Mm w3 ([(J 18, zB nn)] ++ _) ∧ _) := wB H2 hM hl [18]
 have o3_18 := vB H2 hM hl 18
 clear hM hl l H2
 generalize J 18 = J3_18 at H3 o3_18 ⊢
 clear J
 refine rN (wp_seq (wp_seq ?_))
 refine zC 2 [.q (.bool true), .q (.bool false)] H3 ?ho4 ?he4
 case ho4 => exact ar (ag trivial)
 intro _ w4 H4
 clear H3
 refine rN (wp_cond_false rfl ?_)
 refine wp_skip (zA ?_)
 refine wp_seq (wp_seq ?_)
 refine zC 1 [.q (.int .i64 0)] H4 ?ho5 ?he5
 case ho5 => exact ar trivial
 intro _ w5 H5
 clear H4
 refine rN (wp_block ?_)
 refine wp_loop_rounds 3 ?_
 refine rounds_in (n := 2) ?_
 refine wp_seq (wp_seq ?_)
 refine zC 2 [.q (.int .i64 0), .q (.bool true)] H5 ?ho6 ?he6
 case ho6 => exact ar (ag trivial)
 intro _ w6 H6
 clear H5
 refine rN (wp_cond_true rfl ?_)
 refine wp_skip (zA ?_)
 refine wp_seq (wp_block (wp_seq ?_))
 refine zD 13 [.q (.agg (cel [pB] ++ ([Value.int .u64 9940570264628428797] ++ cel [sqP])).toArray), .q (PT J1_0 0), .q (N a0), .q (N nn), .call (N s1), .call (N h1), .call (.tuple #[N r1, .bool true]), .q (.tuple #[N r1, .bool true]), .q (N r1), .q (.bool true), .made zero6 24, .laid 10 zero6 (zB r1), .q (.bool true)] (sB H6) ?ho7 ?he7 (hL := ?hL7)
 case hL7 => exact ⟨⟨_, rfl⟩, trivial⟩
 case ho7 => exact bT 1 Ai36 As36 (ag (aq (fun w' h => zH (i := 0) h 2 rfl rfl rfl rfl) (bN 0 (ac (fun w' h => eC call23 (C4.out w')) (ac (fun w' h => eC call35 (C5.out w')) (ac (fun w' h => eC call34 (C6.out w')) (ar (ag (ag (am (zF rfl) (ak (fun J => ⟨rfl, rfl, rfl, fun w' h => zJ h rfl rfl rfl⟩) (ar trivial))))))))))))
 intro J w7 l hM hl
 have H7 : Hid (Mm w7 ([(J 10, zB r1)] ++ _) ∧ _) := wB H6 hM hl [10]
 have o7_10 := vB H6 hM hl 10
 clear hM hl l H6
 generalize J 10 = J7_10 at H7 o7_10 ⊢
 clear J
 refine rN (wp_seq ?_)
 refine zD 13 [.q (.agg (cel [pB] ++ ([Value.int .u64 9940570264628428797] ++ cel [sqP])).toArray), .q (N nn), .q (PT J1_0 0), .q (N a0), .call (N d1), .call (N g1), .call (.tuple #[N q1, .bool false]), .q (.tuple #[N q1, .bool false]), .q (N q1), .q (.bool false), .made zero6 24, .laid 10 zero6 (zB q1), .q (.bool false)] (sB H7) ?ho8 ?he8 (hL := ?hL8)
 case hL8 => exact ⟨⟨_, rfl⟩, trivial⟩
 case ho8 => exact bT 2 Ai36 As36 (bN 1 (ag (aq (fun w' h => zH (i := 0) h 3 rfl rfl rfl rfl) (ac (fun w' h => eC call28 (C7.out w')) (ac (fun w' h => eC call35 (C8.out w')) (ac (fun w' h => eC call34 (C9.out w')) (ar (ag (ag (am (zF rfl) (ak (fun J => ⟨rfl, rfl, rfl, fun w' h => zJ h rfl rfl rfl⟩) (ar trivial))))))))))))
 intro J w8 l hM hl
 have H8 : Hid (Mm w8 ([(J 10, zB q1)] ++ _) ∧ _) := wB H7 hM hl [10]
 have o8_10 := vB H7 hM hl 10
 clear hM hl l H7
 generalize J 10 = J8_10 at H8 o8_10 ⊢
 clear J
 refine rN (wp_seq (wp_seq ?_))
 refine zC 4 [.q (.bool true), .q (.bool true), .q (.bool false), .q (.bool false)] H8 ?ho9 ?he9
 case ho9 => exact ar (ar (ar (ag trivial)))
 intro _ w9 H9
 clear H8
 refine rN (wp_cond_false rfl ?_)
 refine wp_skip (zA ?_)
 refine zC 3 [.q (.agg (cel [pB] ++ ([Value.int .u64 9940570264628428797] ++ cel [sqP])).toArray), .q (N nn), .call (N nm)] H9 ?ho10 ?he10
 case ho10 => exact bT 3 Ai36 As36 (bN 2 (ac (fun w' h => eC call25 (C10.out w')) trivial))
 intro _ w10 H10
 clear H9
 refine zG (l := [3]) rfl ?_
 refine sG rfl (fun h => zM h 2 rfl rfl rfl rfl (Nat.le_of_ble_eq_true rfl)) 2 [_, _, (_, zB nm), _, _, _] H10 o3_18 fun w11 H11 => ?_
 clear H10
 refine zE (zT (zA ?_))
 refine zC 2 [.q (.int .i64 0), .q (.int .i64 1)] H11 ?ho11 ?he11
 case ho11 => exact ar (av trivial)
 intro _ w12 H12
 clear H11
 refine zG (l := [2]) rfl ?_
 refine zN (d := 7) rfl rfl rfl rfl ?_
 simp only [Act.put, sa, sz, ss]
 refine zE (zA ?_)
 refine rounds_in (n := 1) ?_
 refine wp_seq (wp_seq ?_)
 refine zC 2 [.q (.int .i64 1), .q (.bool true)] H12 ?ho12 ?he12
 case ho12 => exact ar (ag trivial)
 intro _ w13 H13
 clear H12
 refine rN (wp_cond_true rfl ?_)
 refine wp_skip (zA ?_)
 refine wp_seq (wp_block (wp_seq ?_))
 refine zD 13 [.q (.agg (cel [pB] ++ ([Value.int .u64 9940570264628428797] ++ cel [sqP])).toArray), .q (PT J1_0 0), .q (N a0), .q (N nm), .call (N s2), .call (N h2), .call (.tuple #[N r2, .bool true]), .q (.tuple #[N r2, .bool true]), .q (N r2), .q (.bool true), .made zero6 24, .laid 10 zero6 (zB r2), .q (.bool true)] (sB H13) ?ho13 ?he13 (hL := ?hL13)
 case hL13 => exact ⟨⟨_, rfl⟩, trivial⟩
 case ho13 => exact bT 3 Ai36 As36 (ag (aq (fun w' h => zH (i := 0) h 4 rfl rfl rfl rfl) (bN 2 (ac (fun w' h => eC call23 (C11.out w')) (ac (fun w' h => eC call35 (C12.out w')) (ac (fun w' h => eC call34 (C13.out w')) (ar (ag (ag (am (zF rfl) (ak (fun J => ⟨rfl, rfl, rfl, fun w' h => zJ h rfl rfl rfl⟩) (ar trivial))))))))))))
 intro J w14 l hM hl
 have H14 : Hid (Mm w14 ([(J 10, zB r2)] ++ _) ∧ _) := wB H13 hM hl [10]
 have o13_10 := vB H13 hM hl 10
 clear hM hl l H13
 generalize J 10 = J13_10 at H14 o13_10 ⊢
 clear J
 refine rN (wp_seq ?_)
 refine zD 13 [.q (.agg (cel [pB] ++ ([Value.int .u64 9940570264628428797] ++ cel [sqP])).toArray), .q (N nm), .q (PT J1_0 0), .q (N a0), .call (N d2), .call (N g2), .call (.tuple #[N q2, .bool true]), .q (.tuple #[N q2, .bool true]), .q (N q2), .q (.bool true), .made zero6 24, .laid 10 zero6 (zB q2), .q (.bool true)] (sB H14) ?ho14 ?he14 (hL := ?hL14)
 case hL14 => exact ⟨⟨_, rfl⟩, trivial⟩
 case ho14 => exact bT 4 Ai36 As36 (bN 3 (ag (aq (fun w' h => zH (i := 0) h 5 rfl rfl rfl rfl) (ac (fun w' h => eC call28 (C14.out w')) (ac (fun w' h => eC call35 (C15.out w')) (ac (fun w' h => eC call34 (C16.out w')) (ar (ag (ag (am (zF rfl) (ak (fun J => ⟨rfl, rfl, rfl, fun w' h => zJ h rfl rfl rfl⟩) (ar trivial))))))))))))
 intro J w15 l hM hl
 have H15 : Hid (Mm w15 ([(J 10, zB q2)] ++ _) ∧ _) := wB H14 hM hl [10]
 have o14_10 := vB H14 hM hl 10
 clear hM hl l H14
 generalize J 10 = J14_10 at H15 o14_10 ⊢
 clear J
 refine rN (wp_seq (wp_seq ?_))
 refine zC 4 [.q (.bool true), .q (.bool true), .q (.bool true), .q (.bool true)] H15 ?ho15 ?he15
 case ho15 => exact ar (ar (ar (ag trivial)))
 intro _ w16 H16
 clear H15
 refine rN (wp_cond_true rfl (wp_seq ?_))
 refine zD 5 [.q (N r2), .q (N q2), .q (V [r2, q2]), .made (cel [0, 0]) 26, .laid 3 (cel [0, 0]) (cel [r2, q2])] (sB H16) ?ho16 ?he16 (hL := ?hL16)
 case hL16 => exact ⟨⟨_, rfl⟩, trivial⟩
 case ho16 => exact bN 1 (bN 0 (ak (fun J => ⟨rfl, fun w' _ => yC rfl rfl rfl⟩) (am (zO rfl) (ak (fun J => ⟨rfl, rfl, rfl, fun w' h => ex_laidA h rfl As26 rfl rfl rfl⟩) trivial))))
 intro J w17 l hM hl
 have H17 : Hid (Mm w17 ([(J 3, cel [r2, q2])] ++ _) ∧ _) := wB H16 hM hl [3]
 have o16_3 := vB H16 hM hl 3
 clear hM hl l H16
 generalize J 3 = J16_3 at H17 o16_3 ⊢
 clear J
 refine rN (wp_seq (wp_seq ?_))
 refine zS 5 [.q (V [r2, q2]), .q (V [r2, q2]), .call (V [m2, k2]), .q (V [a0, a1]), .q (.bool false)] H17 ?ho17 ?he17
 case ho17 => exact bA 0 2 0 Ai26 As26 (bA 0 2 0 Ai26 As26 (ac (fun w' h => eC call12 (C17.out w')) (bA 0 2 7 Ai26 As26 (ak (fun J => ⟨rfl, fun w' _ => exec_eqE2 e_m2 rfl rfl rfl⟩) trivial))))
 intro _ w18 H18
 clear H17
 refine rN (wp_cond_false rfl ?_)
 refine wp_skip (zA (wp_seq ?_))
 refine zS 5 [.q (N r2), .q (.agg (cel [pB] ++ ([Value.int .u64 9940570264628428797] ++ cel [sqP])).toArray), .q (N q2), .call (N y2), .q (V [r2, y2])] H18 ?ho18 ?he18
 case ho18 => exact bN 2 (bT 6 Ai36 As36 (bN 1 (ac (fun w' h => eC call25 (C18.out w')) (ak (fun J => ⟨rfl, fun w' _ => yC rfl rfl rfl⟩) trivial))))
 intro _ w19 H19
 clear H18
 refine zG (l := [5]) rfl ?_
 refine sF 0 [r2, y2] [_, _, _, _, _, _, _, _, _] H19 o16_3 As26 fun w20 H20 => ?_
 clear H19
 refine zE (zA (wp_seq ?_))
 refine zS 5 [.q (V [r2, y2]), .q (V [r2, y2]), .call (V [o2, i2]), .q (V [a0, a1]), .q (.bool true)] H20 ?ho19 ?he19
 case ho19 => exact bA 0 2 0 Ai26 As26 (bA 0 2 0 Ai26 As26 (ac (fun w' h => eC call12 (C19.out w')) (bA 0 2 7 Ai26 As26 (ak (fun J => ⟨rfl, fun w' _ => exec_eqE2 e_o2 rfl rfl rfl⟩) trivial))))
 intro _ w21 H21
 clear H20
 refine rN (wp_cond_true rfl (wp_seq ?_))
 refine zC 2 [.q (V [r2, y2]), .call (V [l0, l1])] H21 ?ho20 ?he20
 case ho20 => exact bA 0 2 0 Ai26 As26 (ac (fun w' h => eC call36 (C20.out w')) trivial)
 intro _ w22 H22
 clear H21
 refine zG (l := [2, 3]) rfl ?_
 refine sF 8 [l0, l1] [_, _, _, _, _, _, _, _, _] H22 o1_1 As26 fun w23 H23 => ?_
 clear H22
 refine zN (d := 3) rfl rfl rfl rfl ?_
 simp only [Act.put, sa, sz, ss]
 refine zE (zA (wp_ret ?_))
 repeat (first | refine zK ?_ | refine zI ?_)
 have hf0 := cel_var (k := 2) H23.out.1 8 rfl Ai26 As26 rfl
 refine bodyPost_ret (v := .tuple #[V [l0, l1], .bool true]) (by simp [results, Tryz.results17, asAddr, Act.eval, hf0]) rfl ?_
 exact ⟨rfl, H23.out.2⟩
set_option maxHeartbeats 4000000 in
theorem r2_n2_c {a0 a1 t0 t1 n1 nn s1 h1 r1 d1 g1 q1 m1 k1 y1 o1 i1 nm s2 h2 r2 d2 g2 q2 m2 k2 l0 l1 : Nat}
  (e_m1 : ∀ w, (Op.equalIn 10000 26 (V [m1, k1]) (V [a0, a1])).run Tryz.prog w = .ok false w)
  (e_o1 : ∀ w, (Op.equalIn 10000 26 (V [o1, i1]) (V [a0, a1])).run Tryz.prog w = .ok false w)
  (e_m2 : ∀ w, (Op.equalIn 10000 26 (V [m2, k2]) (V [a0, a1])).run Tryz.prog w = .ok true w)
  (c0 : ∀ w, Calls Tryz.prog 29 #[.agg (cel [pB] ++ ([Value.int .u64 9940570264628428797] ++ cel [sqP])).toArray, N a0, N a0] w (Rt w (N t0)))
  (c1 : ∀ w, Calls Tryz.prog 29 #[.agg (cel [pB] ++ ([Value.int .u64 9940570264628428797] ++ cel [sqP])).toArray, N a1, N a1] w (Rt w (N t1)))
  (c2 : ∀ w, Calls Tryz.prog 23 #[.agg (cel [pB] ++ ([Value.int .u64 9940570264628428797] ++ cel [sqP])).toArray, N t0, N t1] w (Rt w (N n1)))
  (c3 : ∀ w, Calls Tryz.prog 34 #[N n1] w (Rt w (.tuple #[N nn, .bool true])))
  (c4 : ∀ w, Calls Tryz.prog 23 #[.agg (cel [pB] ++ ([Value.int .u64 9940570264628428797] ++ cel [sqP])).toArray, N a0, N nn] w (Rt w (N s1)))
  (c5 : ∀ w, Calls Tryz.prog 35 #[N s1] w (Rt w (N h1)))
  (c6 : ∀ w, Calls Tryz.prog 34 #[N h1] w (Rt w (.tuple #[N r1, .bool true])))
  (c7 : ∀ w, Calls Tryz.prog 28 #[.agg (cel [pB] ++ ([Value.int .u64 9940570264628428797] ++ cel [sqP])).toArray, N nn, N a0] w (Rt w (N d1)))
  (c8 : ∀ w, Calls Tryz.prog 35 #[N d1] w (Rt w (N g1)))
  (c9 : ∀ w, Calls Tryz.prog 34 #[N g1] w (Rt w (.tuple #[N q1, .bool true])))
  (c10 : ∀ w, Calls Tryz.prog 12 #[V [r1, q1], V [r1, q1]] w (Rt w (V [m1, k1])))
  (c11 : ∀ w, Calls Tryz.prog 25 #[.agg (cel [pB] ++ ([Value.int .u64 9940570264628428797] ++ cel [sqP])).toArray, N q1] w (Rt w (N y1)))
  (c12 : ∀ w, Calls Tryz.prog 12 #[V [r1, y1], V [r1, y1]] w (Rt w (V [o1, i1])))
  (c13 : ∀ w, Calls Tryz.prog 25 #[.agg (cel [pB] ++ ([Value.int .u64 9940570264628428797] ++ cel [sqP])).toArray, N nn] w (Rt w (N nm)))
  (c14 : ∀ w, Calls Tryz.prog 23 #[.agg (cel [pB] ++ ([Value.int .u64 9940570264628428797] ++ cel [sqP])).toArray, N a0, N nm] w (Rt w (N s2)))
  (c15 : ∀ w, Calls Tryz.prog 35 #[N s2] w (Rt w (N h2)))
  (c16 : ∀ w, Calls Tryz.prog 34 #[N h2] w (Rt w (.tuple #[N r2, .bool true])))
  (c17 : ∀ w, Calls Tryz.prog 28 #[.agg (cel [pB] ++ ([Value.int .u64 9940570264628428797] ++ cel [sqP])).toArray, N nm, N a0] w (Rt w (N d2)))
  (c18 : ∀ w, Calls Tryz.prog 35 #[N d2] w (Rt w (N g2)))
  (c19 : ∀ w, Calls Tryz.prog 34 #[N g2] w (Rt w (.tuple #[N q2, .bool true])))
  (c20 : ∀ w, Calls Tryz.prog 12 #[V [r2, q2], V [r2, q2]] w (Rt w (V [m2, k2])))
  (c21 : ∀ w, Calls Tryz.prog 36 #[V [r2, q2]] w (Rt w (V [l0, l1]))) (w : World) :
  Calls Tryz.prog 17 #[V [a0, a1]] w (Rt w (.tuple #[V [l0, l1], .bool true])) := by
 have H0 : Hid (_ ∧ _) := ⟨Mm.nil w, Below.refl w.heap.size w⟩
 have C0 : Hid _ := c0
 have C1 : Hid _ := c1
 have C2 : Hid _ := c2
 have C3 : Hid _ := c3
 have C4 : Hid _ := c4
 have C5 : Hid _ := c5
 have C6 : Hid _ := c6
 have C7 : Hid _ := c7
 have C8 : Hid _ := c8
 have C9 : Hid _ := c9
 have C10 : Hid _ := c10
 have C11 : Hid _ := c11
 have C12 : Hid _ := c12
 have C13 : Hid _ := c13
 have C14 : Hid _ := c14
 have C15 : Hid _ := c15
 have C16 : Hid _ := c16
 have C17 : Hid _ := c17
 have C18 : Hid _ := c18
 have C19 : Hid _ := c19
 have C20 : Hid _ := c20
 have C21 : Hid _ := c21
 clear c0 c1 c2 c3 c4 c5 c6 c7 c8 c9 c10 c11 c12 c13 c14 c15 c16 c17 c18 c19 c20 c21
 go_enter Tryz.func17, Tryz.ntmps17
 refine wp_seq ?_
 refine zD 3 [.made (cel [a0, a1]) 26, .made (cel [0, 0]) 26, .q (.bool false)] (sB H0) ?ho1 ?he1
 case ho1 => exact am (zV rfl rfl) (am (zO rfl) (ar trivial))
 intro J w1 l hM hl
 have H1 : Hid (Mm w1 [(J 0, cel [a0, a1]), (J 1, cel [0, 0])] ∧ _) := wB H0 hM hl [0, 1]
 have o1_0 := vB H0 hM hl 0
 have o1_1 := vB H0 hM hl 1
 clear hM hl l
 generalize J 0 = J1_0 at H1 o1_0 ⊢
 generalize J 1 = J1_1 at H1 o1_1 ⊢
 clear J
 refine rN (wp_seq ?_)
 refine zD 3 [.call (.agg (cel [pB] ++ ([Value.int .u64 9940570264628428797] ++ cel [sqP])).toArray), .made (cel [0] ++ ([Value.int .u64 0] ++ cel [0])) 36, .laid 1 (cel [0] ++ ([Value.int .u64 0] ++ cel [0])) (cel [pB] ++ ([Value.int .u64 9940570264628428797] ++ cel [sqP]))] (sB H1) ?ho2 ?he2 (hL := ?hL2)
 case hL2 => exact ⟨⟨_, rfl⟩, trivial⟩
 case ho2 => exact ac (fun w' h => eC call19 (dP w')) (am (ex_made36 rfl) (ak (fun J => ⟨rfl, rfl, rfl, fun w' h => ex_laidT h rfl rfl As36 rfl rfl rfl⟩) trivial))
 intro J w2 l hM hl
 have H2 : Hid (Mm w2 ([(J 1, cel [pB] ++ ([Value.int .u64 9940570264628428797] ++ cel [sqP]))] ++ _) ∧ _) := wB H1 hM hl [1]
 have o2_1 := vB H1 hM hl 1
 clear hM hl l H1
 generalize J 1 = J2_1 at H2 o2_1 ⊢
 clear J
 refine rN (wp_seq ?_)
 refine zQ 21 [.q (.agg (cel [pB] ++ ([Value.int .u64 9940570264628428797] ++ cel [sqP])).toArray), .q (.agg (cel [pB] ++ ([Value.int .u64 9940570264628428797] ++ cel [sqP])).toArray), .q (PT J1_0 0), .q (N a0), .q (PT J1_0 0), .q (N a0), .call (N t0), .q (.agg (cel [pB] ++ ([Value.int .u64 9940570264628428797] ++ cel [sqP])).toArray), .q (PT J1_0 6), .q (N a1), .q (PT J1_0 6), .q (N a1), .call (N t1), .call (N n1), .call (.tuple #[N nn, .bool true]), .q (.tuple #[N nn, .bool true]), .q (N nn), .q (.bool true), .made zero6 24, .laid 18 zero6 (zB nn), .q (.bool true)] (sB H2) ?ho3 ?he3 (hL := ?hL3)
 case hL3 => exact ⟨⟨_, rfl⟩, trivial⟩
 case ho3 => exact bT 0 Ai36 As36 (bT 0 Ai36 As36 (ag (aq (fun w' h => zH (i := 0) h 1 rfl rfl rfl rfl) (ag (aq (fun w' h => zH (i := 0) h 1 rfl rfl rfl rfl) (ac (fun w' h => eC call29 (C0.out w')) (bT 0 Ai36 As36 (ag (aq (fun w' h => zH (i := 1) h 1 rfl rfl rfl rfl) (ag (aq (fun w' h => zH (i := 1) h 1 rfl rfl rfl rfl) (ac (fun w' h => eC call29 (C1.out w')) (ac (fun w' h => eC call23 (C2.out w')) (ac (fun w' h => eC call34 (C3.out w')) (ar (ag (ag (am (zF rfl) (ak (fun J => ⟨rfl, rfl, rfl, fun w' h => zJ h rfl rfl rfl⟩) (ar trivial))))))))))))))))))))
 intro J w3 l hM hl
 have H3 : Hid (Mm w3 ([(J 18, zB nn)] ++ _) ∧ _) := wB H2 hM hl [18]
 have o3_18 := vB H2 hM hl 18
 clear hM hl l H2
 generalize J 18 = J3_18 at H3 o3_18 ⊢
 clear J
 refine rN (wp_seq (wp_seq ?_))
 refine zC 2 [.q (.bool true), .q (.bool false)] H3 ?ho4 ?he4
 case ho4 => exact ar (ag trivial)
 intro _ w4 H4
 clear H3
 refine rN (wp_cond_false rfl ?_)
 refine wp_skip (zA ?_)
 refine wp_seq (wp_seq ?_)
 refine zC 1 [.q (.int .i64 0)] H4 ?ho5 ?he5
 case ho5 => exact ar trivial
 intro _ w5 H5
 clear H4
 refine rN (wp_block ?_)
 refine wp_loop_rounds 3 ?_
 refine rounds_in (n := 2) ?_
 refine wp_seq (wp_seq ?_)
 refine zC 2 [.q (.int .i64 0), .q (.bool true)] H5 ?ho6 ?he6
 case ho6 => exact ar (ag trivial)
 intro _ w6 H6
 clear H5
 refine rN (wp_cond_true rfl ?_)
 refine wp_skip (zA ?_)
 refine wp_seq (wp_block (wp_seq ?_))
 refine zD 13 [.q (.agg (cel [pB] ++ ([Value.int .u64 9940570264628428797] ++ cel [sqP])).toArray), .q (PT J1_0 0), .q (N a0), .q (N nn), .call (N s1), .call (N h1), .call (.tuple #[N r1, .bool true]), .q (.tuple #[N r1, .bool true]), .q (N r1), .q (.bool true), .made zero6 24, .laid 10 zero6 (zB r1), .q (.bool true)] (sB H6) ?ho7 ?he7 (hL := ?hL7)
 case hL7 => exact ⟨⟨_, rfl⟩, trivial⟩
 case ho7 => exact bT 1 Ai36 As36 (ag (aq (fun w' h => zH (i := 0) h 2 rfl rfl rfl rfl) (bN 0 (ac (fun w' h => eC call23 (C4.out w')) (ac (fun w' h => eC call35 (C5.out w')) (ac (fun w' h => eC call34 (C6.out w')) (ar (ag (ag (am (zF rfl) (ak (fun J => ⟨rfl, rfl, rfl, fun w' h => zJ h rfl rfl rfl⟩) (ar trivial))))))))))))
 intro J w7 l hM hl
 have H7 : Hid (Mm w7 ([(J 10, zB r1)] ++ _) ∧ _) := wB H6 hM hl [10]
 have o7_10 := vB H6 hM hl 10
 clear hM hl l H6
 generalize J 10 = J7_10 at H7 o7_10 ⊢
 clear J
 refine rN (wp_seq ?_)
 refine zD 13 [.q (.agg (cel [pB] ++ ([Value.int .u64 9940570264628428797] ++ cel [sqP])).toArray), .q (N nn), .q (PT J1_0 0), .q (N a0), .call (N d1), .call (N g1), .call (.tuple #[N q1, .bool true]), .q (.tuple #[N q1, .bool true]), .q (N q1), .q (.bool true), .made zero6 24, .laid 10 zero6 (zB q1), .q (.bool true)] (sB H7) ?ho8 ?he8 (hL := ?hL8)
 case hL8 => exact ⟨⟨_, rfl⟩, trivial⟩
 case ho8 => exact bT 2 Ai36 As36 (bN 1 (ag (aq (fun w' h => zH (i := 0) h 3 rfl rfl rfl rfl) (ac (fun w' h => eC call28 (C7.out w')) (ac (fun w' h => eC call35 (C8.out w')) (ac (fun w' h => eC call34 (C9.out w')) (ar (ag (ag (am (zF rfl) (ak (fun J => ⟨rfl, rfl, rfl, fun w' h => zJ h rfl rfl rfl⟩) (ar trivial))))))))))))
 intro J w8 l hM hl
 have H8 : Hid (Mm w8 ([(J 10, zB q1)] ++ _) ∧ _) := wB H7 hM hl [10]
 have o8_10 := vB H7 hM hl 10
 clear hM hl l H7
 generalize J 10 = J8_10 at H8 o8_10 ⊢
 clear J
 refine rN (wp_seq (wp_seq ?_))
 refine zC 4 [.q (.bool true), .q (.bool true), .q (.bool true), .q (.bool true)] H8 ?ho9 ?he9
 case ho9 => exact ar (ar (ar (ag trivial)))
 intro _ w9 H9
 clear H8
 refine rN (wp_cond_true rfl (wp_seq ?_))
 refine zD 5 [.q (N r1), .q (N q1), .q (V [r1, q1]), .made (cel [0, 0]) 26, .laid 3 (cel [0, 0]) (cel [r1, q1])] (sB H9) ?ho10 ?he10 (hL := ?hL10)
 case hL10 => exact ⟨⟨_, rfl⟩, trivial⟩
 case ho10 => exact bN 1 (bN 0 (ak (fun J => ⟨rfl, fun w' _ => yC rfl rfl rfl⟩) (am (zO rfl) (ak (fun J => ⟨rfl, rfl, rfl, fun w' h => ex_laidA h rfl As26 rfl rfl rfl⟩) trivial))))
 intro J w10 l hM hl
 have H10 : Hid (Mm w10 ([(J 3, cel [r1, q1])] ++ _) ∧ _) := wB H9 hM hl [3]
 have o10_3 := vB H9 hM hl 3
 clear hM hl l H9
 generalize J 3 = J10_3 at H10 o10_3 ⊢
 clear J
 refine rN (wp_seq (wp_seq ?_))
 refine zS 5 [.q (V [r1, q1]), .q (V [r1, q1]), .call (V [m1, k1]), .q (V [a0, a1]), .q (.bool false)] H10 ?ho11 ?he11
 case ho11 => exact bA 0 2 0 Ai26 As26 (bA 0 2 0 Ai26 As26 (ac (fun w' h => eC call12 (C10.out w')) (bA 0 2 5 Ai26 As26 (ak (fun J => ⟨rfl, fun w' _ => exec_eqE2 e_m1 rfl rfl rfl⟩) trivial))))
 intro _ w11 H11
 clear H10
 refine rN (wp_cond_false rfl ?_)
 refine wp_skip (zA (wp_seq ?_))
 refine zS 5 [.q (N r1), .q (.agg (cel [pB] ++ ([Value.int .u64 9940570264628428797] ++ cel [sqP])).toArray), .q (N q1), .call (N y1), .q (V [r1, y1])] H11 ?ho12 ?he12
 case ho12 => exact bN 2 (bT 4 Ai36 As36 (bN 1 (ac (fun w' h => eC call25 (C11.out w')) (ak (fun J => ⟨rfl, fun w' _ => yC rfl rfl rfl⟩) trivial))))
 intro _ w12 H12
 clear H11
 refine zG (l := [5]) rfl ?_
 refine sF 0 [r1, y1] [_, _, _, _, _, _, _] H12 o10_3 As26 fun w13 H13 => ?_
 clear H12
 refine zE (zA (wp_seq ?_))
 refine zS 5 [.q (V [r1, y1]), .q (V [r1, y1]), .call (V [o1, i1]), .q (V [a0, a1]), .q (.bool false)] H13 ?ho13 ?he13
 case ho13 => exact bA 0 2 0 Ai26 As26 (bA 0 2 0 Ai26 As26 (ac (fun w' h => eC call12 (C12.out w')) (bA 0 2 5 Ai26 As26 (ak (fun J => ⟨rfl, fun w' _ => exec_eqE2 e_o1 rfl rfl rfl⟩) trivial))))
 intro _ w14 H14
 clear H13
 refine rN (wp_cond_false rfl ?_)
 refine wp_skip (zA ?_)
 refine zC 3 [.q (.agg (cel [pB] ++ ([Value.int .u64 9940570264628428797] ++ cel [sqP])).toArray), .q (N nn), .call (N nm)] H14 ?ho14 ?he14
 case ho14 => exact bT 4 Ai36 As36 (bN 3 (ac (fun w' h => eC call25 (C13.out w')) trivial))
 intro _ w15 H15
 clear H14
 refine zG (l := [3]) rfl ?_
 refine sG rfl (fun h => zM h 3 rfl rfl rfl rfl (Nat.le_of_ble_eq_true rfl)) 3 [_, _, _, (_, zB nm), _, _, _] H15 o3_18 fun w16 H16 => ?_
 clear H15
 refine zE (zT (zA ?_))
 refine zC 2 [.q (.int .i64 0), .q (.int .i64 1)] H16 ?ho15 ?he15
 case ho15 => exact ar (av trivial)
 intro _ w17 H17
 clear H16
 refine zG (l := [2]) rfl ?_
 refine zN (d := 7) rfl rfl rfl rfl ?_
 simp only [Act.put, sa, sz, ss]
 refine zE (zA ?_)
 refine rounds_in (n := 1) ?_
 refine wp_seq (wp_seq ?_)
 refine zC 2 [.q (.int .i64 1), .q (.bool true)] H17 ?ho16 ?he16
 case ho16 => exact ar (ag trivial)
 intro _ w18 H18
 clear H17
 refine rN (wp_cond_true rfl ?_)
 refine wp_skip (zA ?_)
 refine wp_seq (wp_block (wp_seq ?_))
 refine zD 13 [.q (.agg (cel [pB] ++ ([Value.int .u64 9940570264628428797] ++ cel [sqP])).toArray), .q (PT J1_0 0), .q (N a0), .q (N nm), .call (N s2), .call (N h2), .call (.tuple #[N r2, .bool true]), .q (.tuple #[N r2, .bool true]), .q (N r2), .q (.bool true), .made zero6 24, .laid 10 zero6 (zB r2), .q (.bool true)] (sB H18) ?ho17 ?he17 (hL := ?hL17)
 case hL17 => exact ⟨⟨_, rfl⟩, trivial⟩
 case ho17 => exact bT 4 Ai36 As36 (ag (aq (fun w' h => zH (i := 0) h 5 rfl rfl rfl rfl) (bN 3 (ac (fun w' h => eC call23 (C14.out w')) (ac (fun w' h => eC call35 (C15.out w')) (ac (fun w' h => eC call34 (C16.out w')) (ar (ag (ag (am (zF rfl) (ak (fun J => ⟨rfl, rfl, rfl, fun w' h => zJ h rfl rfl rfl⟩) (ar trivial))))))))))))
 intro J w19 l hM hl
 have H19 : Hid (Mm w19 ([(J 10, zB r2)] ++ _) ∧ _) := wB H18 hM hl [10]
 have o17_10 := vB H18 hM hl 10
 clear hM hl l H18
 generalize J 10 = J17_10 at H19 o17_10 ⊢
 clear J
 refine rN (wp_seq ?_)
 refine zD 13 [.q (.agg (cel [pB] ++ ([Value.int .u64 9940570264628428797] ++ cel [sqP])).toArray), .q (N nm), .q (PT J1_0 0), .q (N a0), .call (N d2), .call (N g2), .call (.tuple #[N q2, .bool true]), .q (.tuple #[N q2, .bool true]), .q (N q2), .q (.bool true), .made zero6 24, .laid 10 zero6 (zB q2), .q (.bool true)] (sB H19) ?ho18 ?he18 (hL := ?hL18)
 case hL18 => exact ⟨⟨_, rfl⟩, trivial⟩
 case ho18 => exact bT 5 Ai36 As36 (bN 4 (ag (aq (fun w' h => zH (i := 0) h 6 rfl rfl rfl rfl) (ac (fun w' h => eC call28 (C17.out w')) (ac (fun w' h => eC call35 (C18.out w')) (ac (fun w' h => eC call34 (C19.out w')) (ar (ag (ag (am (zF rfl) (ak (fun J => ⟨rfl, rfl, rfl, fun w' h => zJ h rfl rfl rfl⟩) (ar trivial))))))))))))
 intro J w20 l hM hl
 have H20 : Hid (Mm w20 ([(J 10, zB q2)] ++ _) ∧ _) := wB H19 hM hl [10]
 have o18_10 := vB H19 hM hl 10
 clear hM hl l H19
 generalize J 10 = J18_10 at H20 o18_10 ⊢
 clear J
 refine rN (wp_seq (wp_seq ?_))
 refine zC 4 [.q (.bool true), .q (.bool true), .q (.bool true), .q (.bool true)] H20 ?ho19 ?he19
 case ho19 => exact ar (ar (ar (ag trivial)))
 intro _ w21 H21
 clear H20
 refine rN (wp_cond_true rfl (wp_seq ?_))
 refine zD 5 [.q (N r2), .q (N q2), .q (V [r2, q2]), .made (cel [0, 0]) 26, .laid 3 (cel [0, 0]) (cel [r2, q2])] (sB H21) ?ho20 ?he20 (hL := ?hL20)
 case hL20 => exact ⟨⟨_, rfl⟩, trivial⟩
 case ho20 => exact bN 1 (bN 0 (ak (fun J => ⟨rfl, fun w' _ => yC rfl rfl rfl⟩) (am (zO rfl) (ak (fun J => ⟨rfl, rfl, rfl, fun w' h => ex_laidA h rfl As26 rfl rfl rfl⟩) trivial))))
 intro J w22 l hM hl
 have H22 : Hid (Mm w22 ([(J 3, cel [r2, q2])] ++ _) ∧ _) := wB H21 hM hl [3]
 have o20_3 := vB H21 hM hl 3
 clear hM hl l H21
 generalize J 3 = J20_3 at H22 o20_3 ⊢
 clear J
 refine rN (wp_seq (wp_seq ?_))
 refine zS 5 [.q (V [r2, q2]), .q (V [r2, q2]), .call (V [m2, k2]), .q (V [a0, a1]), .q (.bool true)] H22 ?ho21 ?he21
 case ho21 => exact bA 0 2 0 Ai26 As26 (bA 0 2 0 Ai26 As26 (ac (fun w' h => eC call12 (C20.out w')) (bA 0 2 8 Ai26 As26 (ak (fun J => ⟨rfl, fun w' _ => exec_eqE2 e_m2 rfl rfl rfl⟩) trivial))))
 intro _ w23 H23
 clear H22
 refine rN (wp_cond_true rfl (wp_seq ?_))
 refine zC 2 [.q (V [r2, q2]), .call (V [l0, l1])] H23 ?ho22 ?he22
 case ho22 => exact bA 0 2 0 Ai26 As26 (ac (fun w' h => eC call36 (C21.out w')) trivial)
 intro _ w24 H24
 clear H23
 refine zG (l := [2, 3]) rfl ?_
 refine sF 9 [l0, l1] [_, _, _, _, _, _, _, _, _, _] H24 o1_1 As26 fun w25 H25 => ?_
 clear H24
 refine zN (d := 3) rfl rfl rfl rfl ?_
 simp only [Act.put, sa, sz, ss]
 refine zE (zA (wp_ret ?_))
 repeat (first | refine zK ?_ | refine zI ?_)
 have hf0 := cel_var (k := 2) H25.out.1 9 rfl Ai26 As26 rfl
 refine bodyPost_ret (v := .tuple #[V [l0, l1], .bool true]) (by simp [results, Tryz.results17, asAddr, Act.eval, hf0]) rfl ?_
 exact ⟨rfl, H25.out.2⟩
set_option maxHeartbeats 4000000 in
theorem r2_n2_d {a0 a1 t0 t1 n1 nn s1 h1 r1 d1 g1 q1 m1 k1 y1 o1 i1 nm s2 h2 r2 d2 g2 q2 m2 k2 y2 o2 i2 l0 l1 : Nat}
  (e_m1 : ∀ w, (Op.equalIn 10000 26 (V [m1, k1]) (V [a0, a1])).run Tryz.prog w = .ok false w)
  (e_o1 : ∀ w, (Op.equalIn 10000 26 (V [o1, i1]) (V [a0, a1])).run Tryz.prog w = .ok false w)
  (e_m2 : ∀ w, (Op.equalIn 10000 26 (V [m2, k2]) (V [a0, a1])).run Tryz.prog w = .ok false w)
  (e_o2 : ∀ w, (Op.equalIn 10000 26 (V [o2, i2]) (V [a0, a1])).run Tryz.prog w = .ok true w)
  (c0 : ∀ w, Calls Tryz.prog 29 #[.agg (cel [pB] ++ ([Value.int .u64 9940570264628428797] ++ cel [sqP])).toArray, N a0, N a0] w (Rt w (N t0)))
  (c1 : ∀ w, Calls Tryz.prog 29 #[.agg (cel [pB] ++ ([Value.int .u64 9940570264628428797] ++ cel [sqP])).toArray, N a1, N a1] w (Rt w (N t1)))
  (c2 : ∀ w, Calls Tryz.prog 23 #[.agg (cel [pB] ++ ([Value.int .u64 9940570264628428797] ++ cel [sqP])).toArray, N t0, N t1] w (Rt w (N n1)))
  (c3 : ∀ w, Calls Tryz.prog 34 #[N n1] w (Rt w (.tuple #[N nn, .bool true])))
  (c4 : ∀ w, Calls Tryz.prog 23 #[.agg (cel [pB] ++ ([Value.int .u64 9940570264628428797] ++ cel [sqP])).toArray, N a0, N nn] w (Rt w (N s1)))
  (c5 : ∀ w, Calls Tryz.prog 35 #[N s1] w (Rt w (N h1)))
  (c6 : ∀ w, Calls Tryz.prog 34 #[N h1] w (Rt w (.tuple #[N r1, .bool true])))
  (c7 : ∀ w, Calls Tryz.prog 28 #[.agg (cel [pB] ++ ([Value.int .u64 9940570264628428797] ++ cel [sqP])).toArray, N nn, N a0] w (Rt w (N d1)))
  (c8 : ∀ w, Calls Tryz.prog 35 #[N d1] w (Rt w (N g1)))
  (c9 : ∀ w, Calls Tryz.prog 34 #[N g1] w (Rt w (.tuple #[N q1, .bool true])))
  (c10 : ∀ w, Calls Tryz.prog 12 #[V [r1, q1], V [r1, q1]] w (Rt w (V [m1, k1])))
  (c11 : ∀ w, Calls Tryz.prog 25 #[.agg (cel [pB] ++ ([Value.int .u64 9940570264628428797] ++ cel [sqP])).toArray, N q1] w (Rt w (N y1)))
  (c12 : ∀ w, Calls Tryz.prog 12 #[V [r1, y1], V [r1, y1]] w (Rt w (V [o1, i1])))
  (c13 : ∀ w, Calls Tryz.prog 25 #[.agg (cel [pB] ++ ([Value.int .u64 9940570264628428797] ++ cel [sqP])).toArray, N nn] w (Rt w (N nm)))
  (c14 : ∀ w, Calls Tryz.prog 23 #[.agg (cel [pB] ++ ([Value.int .u64 9940570264628428797] ++ cel [sqP])).toArray, N a0, N nm] w (Rt w (N s2)))
  (c15 : ∀ w, Calls Tryz.prog 35 #[N s2] w (Rt w (N h2)))
  (c16 : ∀ w, Calls Tryz.prog 34 #[N h2] w (Rt w (.tuple #[N r2, .bool true])))
  (c17 : ∀ w, Calls Tryz.prog 28 #[.agg (cel [pB] ++ ([Value.int .u64 9940570264628428797] ++ cel [sqP])).toArray, N nm, N a0] w (Rt w (N d2)))
  (c18 : ∀ w, Calls Tryz.prog 35 #[N d2] w (Rt w (N g2)))
  (c19 : ∀ w, Calls Tryz.prog 34 #[N g2] w (Rt w (.tuple #[N q2, .bool true])))
  (c20 : ∀ w, Calls Tryz.prog 12 #[V [r2, q2], V [r2, q2]] w (Rt w (V [m2, k2])))
  (c21 : ∀ w, Calls Tryz.prog 25 #[.agg (cel [pB] ++ ([Value.int .u64 9940570264628428797] ++ cel [sqP])).toArray, N q2] w (Rt w (N y2)))
  (c22 : ∀ w, Calls Tryz.prog 12 #[V [r2, y2], V [r2, y2]] w (Rt w (V [o2, i2])))
  (c23 : ∀ w, Calls Tryz.prog 36 #[V [r2, y2]] w (Rt w (V [l0, l1]))) (w : World) :
  Calls Tryz.prog 17 #[V [a0, a1]] w (Rt w (.tuple #[V [l0, l1], .bool true])) := by
 have H0 : Hid (_ ∧ _) := ⟨Mm.nil w, Below.refl w.heap.size w⟩
 have C0 : Hid _ := c0
 have C1 : Hid _ := c1
 have C2 : Hid _ := c2
 have C3 : Hid _ := c3
 have C4 : Hid _ := c4
 have C5 : Hid _ := c5
 have C6 : Hid _ := c6
 have C7 : Hid _ := c7
 have C8 : Hid _ := c8
 have C9 : Hid _ := c9
 have C10 : Hid _ := c10
 have C11 : Hid _ := c11
 have C12 : Hid _ := c12
 have C13 : Hid _ := c13
 have C14 : Hid _ := c14
 have C15 : Hid _ := c15
 have C16 : Hid _ := c16
 have C17 : Hid _ := c17
 have C18 : Hid _ := c18
 have C19 : Hid _ := c19
 have C20 : Hid _ := c20
 have C21 : Hid _ := c21
 have C22 : Hid _ := c22
 have C23 : Hid _ := c23
 clear c0 c1 c2 c3 c4 c5 c6 c7 c8 c9 c10 c11 c12 c13 c14 c15 c16 c17 c18 c19 c20 c21 c22 c23
 go_enter Tryz.func17, Tryz.ntmps17
 refine wp_seq ?_
 refine zD 3 [.made (cel [a0, a1]) 26, .made (cel [0, 0]) 26, .q (.bool false)] (sB H0) ?ho1 ?he1
 case ho1 => exact am (zV rfl rfl) (am (zO rfl) (ar trivial))
 intro J w1 l hM hl
 have H1 : Hid (Mm w1 [(J 0, cel [a0, a1]), (J 1, cel [0, 0])] ∧ _) := wB H0 hM hl [0, 1]
 have o1_0 := vB H0 hM hl 0
 have o1_1 := vB H0 hM hl 1
 clear hM hl l
 generalize J 0 = J1_0 at H1 o1_0 ⊢
 generalize J 1 = J1_1 at H1 o1_1 ⊢
 clear J
 refine rN (wp_seq ?_)
 refine zD 3 [.call (.agg (cel [pB] ++ ([Value.int .u64 9940570264628428797] ++ cel [sqP])).toArray), .made (cel [0] ++ ([Value.int .u64 0] ++ cel [0])) 36, .laid 1 (cel [0] ++ ([Value.int .u64 0] ++ cel [0])) (cel [pB] ++ ([Value.int .u64 9940570264628428797] ++ cel [sqP]))] (sB H1) ?ho2 ?he2 (hL := ?hL2)
 case hL2 => exact ⟨⟨_, rfl⟩, trivial⟩
 case ho2 => exact ac (fun w' h => eC call19 (dP w')) (am (ex_made36 rfl) (ak (fun J => ⟨rfl, rfl, rfl, fun w' h => ex_laidT h rfl rfl As36 rfl rfl rfl⟩) trivial))
 intro J w2 l hM hl
 have H2 : Hid (Mm w2 ([(J 1, cel [pB] ++ ([Value.int .u64 9940570264628428797] ++ cel [sqP]))] ++ _) ∧ _) := wB H1 hM hl [1]
 have o2_1 := vB H1 hM hl 1
 clear hM hl l H1
 generalize J 1 = J2_1 at H2 o2_1 ⊢
 clear J
 refine rN (wp_seq ?_)
 refine zQ 21 [.q (.agg (cel [pB] ++ ([Value.int .u64 9940570264628428797] ++ cel [sqP])).toArray), .q (.agg (cel [pB] ++ ([Value.int .u64 9940570264628428797] ++ cel [sqP])).toArray), .q (PT J1_0 0), .q (N a0), .q (PT J1_0 0), .q (N a0), .call (N t0), .q (.agg (cel [pB] ++ ([Value.int .u64 9940570264628428797] ++ cel [sqP])).toArray), .q (PT J1_0 6), .q (N a1), .q (PT J1_0 6), .q (N a1), .call (N t1), .call (N n1), .call (.tuple #[N nn, .bool true]), .q (.tuple #[N nn, .bool true]), .q (N nn), .q (.bool true), .made zero6 24, .laid 18 zero6 (zB nn), .q (.bool true)] (sB H2) ?ho3 ?he3 (hL := ?hL3)
 case hL3 => exact ⟨⟨_, rfl⟩, trivial⟩
 case ho3 => exact bT 0 Ai36 As36 (bT 0 Ai36 As36 (ag (aq (fun w' h => zH (i := 0) h 1 rfl rfl rfl rfl) (ag (aq (fun w' h => zH (i := 0) h 1 rfl rfl rfl rfl) (ac (fun w' h => eC call29 (C0.out w')) (bT 0 Ai36 As36 (ag (aq (fun w' h => zH (i := 1) h 1 rfl rfl rfl rfl) (ag (aq (fun w' h => zH (i := 1) h 1 rfl rfl rfl rfl) (ac (fun w' h => eC call29 (C1.out w')) (ac (fun w' h => eC call23 (C2.out w')) (ac (fun w' h => eC call34 (C3.out w')) (ar (ag (ag (am (zF rfl) (ak (fun J => ⟨rfl, rfl, rfl, fun w' h => zJ h rfl rfl rfl⟩) (ar trivial))))))))))))))))))))
 intro J w3 l hM hl
 have H3 : Hid (Mm w3 ([(J 18, zB nn)] ++ _) ∧ _) := wB H2 hM hl [18]
 have o3_18 := vB H2 hM hl 18
 clear hM hl l H2
 generalize J 18 = J3_18 at H3 o3_18 ⊢
 clear J
 refine rN (wp_seq (wp_seq ?_))
 refine zC 2 [.q (.bool true), .q (.bool false)] H3 ?ho4 ?he4
 case ho4 => exact ar (ag trivial)
 intro _ w4 H4
 clear H3
 refine rN (wp_cond_false rfl ?_)
 refine wp_skip (zA ?_)
 refine wp_seq (wp_seq ?_)
 refine zC 1 [.q (.int .i64 0)] H4 ?ho5 ?he5
 case ho5 => exact ar trivial
 intro _ w5 H5
 clear H4
 refine rN (wp_block ?_)
 refine wp_loop_rounds 3 ?_
 refine rounds_in (n := 2) ?_
 refine wp_seq (wp_seq ?_)
 refine zC 2 [.q (.int .i64 0), .q (.bool true)] H5 ?ho6 ?he6
 case ho6 => exact ar (ag trivial)
 intro _ w6 H6
 clear H5
 refine rN (wp_cond_true rfl ?_)
 refine wp_skip (zA ?_)
 refine wp_seq (wp_block (wp_seq ?_))
 refine zD 13 [.q (.agg (cel [pB] ++ ([Value.int .u64 9940570264628428797] ++ cel [sqP])).toArray), .q (PT J1_0 0), .q (N a0), .q (N nn), .call (N s1), .call (N h1), .call (.tuple #[N r1, .bool true]), .q (.tuple #[N r1, .bool true]), .q (N r1), .q (.bool true), .made zero6 24, .laid 10 zero6 (zB r1), .q (.bool true)] (sB H6) ?ho7 ?he7 (hL := ?hL7)
 case hL7 => exact ⟨⟨_, rfl⟩, trivial⟩
 case ho7 => exact bT 1 Ai36 As36 (ag (aq (fun w' h => zH (i := 0) h 2 rfl rfl rfl rfl) (bN 0 (ac (fun w' h => eC call23 (C4.out w')) (ac (fun w' h => eC call35 (C5.out w')) (ac (fun w' h => eC call34 (C6.out w')) (ar (ag (ag (am (zF rfl) (ak (fun J => ⟨rfl, rfl, rfl, fun w' h => zJ h rfl rfl rfl⟩) (ar trivial))))))))))))
 intro J w7 l hM hl
 have H7 : Hid (Mm w7 ([(J 10, zB r1)] ++ _) ∧ _) := wB H6 hM hl [10]
 have o7_10 := vB H6 hM hl 10
 clear hM hl l H6
 generalize J 10 = J7_10 at H7 o7_10 ⊢
 clear J
 refine rN (wp_seq ?_)
 refine zD 13 [.q (.agg (cel [pB] ++ ([Value.int .u64 9940570264628428797] ++ cel [sqP])).toArray), .q (N nn), .q (PT J1_0 0), .q (N a0), .call (N d1), .call (N g1), .call (.tuple #[N q1, .bool true]), .q (.tuple #[N q1, .bool true]), .q (N q1), .q (.bool true), .made zero6 24, .laid 10 zero6 (zB q1), .q (.bool true)] (sB H7) ?ho8 ?he8 (hL := ?hL8)
 case hL8 => exact ⟨⟨_, rfl⟩, trivial⟩
 case ho8 => exact bT 2 Ai36 As36 (bN 1 (ag (aq (fun w' h => zH (i := 0) h 3 rfl rfl rfl rfl) (ac (fun w' h => eC call28 (C7.out w')) (ac (fun w' h => eC call35 (C8.out w')) (ac (fun w' h => eC call34 (C9.out w')) (ar (ag (ag (am (zF rfl) (ak (fun J => ⟨rfl, rfl, rfl, fun w' h => zJ h rfl rfl rfl⟩) (ar trivial))))))))))))
 intro J w8 l hM hl
 have H8 : Hid (Mm w8 ([(J 10, zB q1)] ++ _) ∧ _) := wB H7 hM hl [10]
 have o8_10 := vB H7 hM hl 10
 clear hM hl l H7
 generalize J 10 = J8_10 at H8 o8_10 ⊢
 clear J
 refine rN (wp_seq (wp_seq ?_))
 refine zC 4 [.q (.bool true), .q (.bool true), .q (.bool true), .q (.bool true)] H8 ?ho9 ?he9
 case ho9 => exact ar (ar (ar (ag trivial)))
 intro _ w9 H9
 clear H8
 refine rN (wp_cond_true rfl (wp_seq ?_))
 refine zD 5 [.q (N r1), .q (N q1), .q (V [r1, q1]), .made (cel [0, 0]) 26, .laid 3 (cel [0, 0]) (cel [r1, q1])] (sB H9) ?ho10 ?he10 (hL := ?hL10)
 case hL10 => exact ⟨⟨_, rfl⟩, trivial⟩
 case ho10 => exact bN 1 (bN 0 (ak (fun J => ⟨rfl, fun w' _ => yC rfl rfl rfl⟩) (am (zO rfl) (ak (fun J => ⟨rfl, rfl, rfl, fun w' h => ex_laidA h rfl As26 rfl rfl rfl⟩) trivial))))
 intro J w10 l hM hl
 have H10 : Hid (Mm w10 ([(J 3, cel [r1, q1])] ++ _) ∧ _) := wB H9 hM hl [3]
 have o10_3 := vB H9 hM hl 3
 clear hM hl l H9
 generalize J 3 = J10_3 at H10 o10_3 ⊢
 clear J
 refine rN (wp_seq (wp_seq ?_))
 refine zS 5 [.q (V [r1, q1]), .q (V [r1, q1]), .call (V [m1, k1]), .q (V [a0, a1]), .q (.bool false)] H10 ?ho11 ?he11
 case ho11 => exact bA 0 2 0 Ai26 As26 (bA 0 2 0 Ai26 As26 (ac (fun w' h => eC call12 (C10.out w')) (bA 0 2 5 Ai26 As26 (ak (fun J => ⟨rfl, fun w' _ => exec_eqE2 e_m1 rfl rfl rfl⟩) trivial))))
 intro _ w11 H11
 clear H10
 refine rN (wp_cond_false rfl ?_)
 refine wp_skip (zA (wp_seq ?_))
 refine zS 5 [.q (N r1), .q (.agg (cel [pB] ++ ([Value.int .u64 9940570264628428797] ++ cel [sqP])).toArray), .q (N q1), .call (N y1), .q (V [r1, y1])] H11 ?ho12 ?he12
 case ho12 => exact bN 2 (bT 4 Ai36 As36 (bN 1 (ac (fun w' h => eC call25 (C11.out w')) (ak (fun J => ⟨rfl, fun w' _ => yC rfl rfl rfl⟩) trivial))))
 intro _ w12 H12
 clear H11
 refine zG (l := [5]) rfl ?_
 refine sF 0 [r1, y1] [_, _, _, _, _, _, _] H12 o10_3 As26 fun w13 H13 => ?_
 clear H12
 refine zE (zA (wp_seq ?_))
 refine zS 5 [.q (V [r1, y1]), .q (V [r1, y1]), .call (V [o1, i1]), .q (V [a0, a1]), .q (.bool false)] H13 ?ho13 ?he13
 case ho13 => exact bA 0 2 0 Ai26 As26 (bA 0 2 0 Ai26 As26 (ac (fun w' h => eC call12 (C12.out w')) (bA 0 2 5 Ai26 As26 (ak (fun J => ⟨rfl, fun w' _ => exec_eqE2 e_o1 rfl rfl rfl⟩) trivial))))
 intro _ w14 H14
 clear H13
 refine rN (wp_cond_false rfl ?_)
 refine wp_skip (zA ?_)
 refine zC 3 [.q (.agg (cel [pB] ++ ([Value.int .u64 9940570264628428797] ++ cel [sqP])).toArray), .q (N nn), .call (N nm)] H14 ?ho14 ?he14
 case ho14 => exact bT 4 Ai36 As36 (bN 3 (ac (fun w' h => eC call25 (C13.out w')) trivial))
 intro _ w15 H15
 clear H14
 refine zG (l := [3]) rfl ?_
 refine sG rfl (fun h => zM h 3 rfl rfl rfl rfl (Nat.le_of_ble_eq_true rfl)) 3 [_, _, _, (_, zB nm), _, _, _] H15 o3_18 fun w16 H16 => ?_
 clear H15
 refine zE (zT (zA ?_))
 refine zC 2 [.q (.int .i64 0), .q (.int .i64 1)] H16 ?ho15 ?he15
 case ho15 => exact ar (av trivial)
 intro _ w17 H17
 clear H16
 refine zG (l := [2]) rfl ?_
 refine zN (d := 7) rfl rfl rfl rfl ?_
 simp only [Act.put, sa, sz, ss]
 refine zE (zA ?_)
 refine rounds_in (n := 1) ?_
 refine wp_seq (wp_seq ?_)
 refine zC 2 [.q (.int .i64 1), .q (.bool true)] H17 ?ho16 ?he16
 case ho16 => exact ar (ag trivial)
 intro _ w18 H18
 clear H17
 refine rN (wp_cond_true rfl ?_)
 refine wp_skip (zA ?_)
 refine wp_seq (wp_block (wp_seq ?_))
 refine zD 13 [.q (.agg (cel [pB] ++ ([Value.int .u64 9940570264628428797] ++ cel [sqP])).toArray), .q (PT J1_0 0), .q (N a0), .q (N nm), .call (N s2), .call (N h2), .call (.tuple #[N r2, .bool true]), .q (.tuple #[N r2, .bool true]), .q (N r2), .q (.bool true), .made zero6 24, .laid 10 zero6 (zB r2), .q (.bool true)] (sB H18) ?ho17 ?he17 (hL := ?hL17)
 case hL17 => exact ⟨⟨_, rfl⟩, trivial⟩
 case ho17 => exact bT 4 Ai36 As36 (ag (aq (fun w' h => zH (i := 0) h 5 rfl rfl rfl rfl) (bN 3 (ac (fun w' h => eC call23 (C14.out w')) (ac (fun w' h => eC call35 (C15.out w')) (ac (fun w' h => eC call34 (C16.out w')) (ar (ag (ag (am (zF rfl) (ak (fun J => ⟨rfl, rfl, rfl, fun w' h => zJ h rfl rfl rfl⟩) (ar trivial))))))))))))
 intro J w19 l hM hl
 have H19 : Hid (Mm w19 ([(J 10, zB r2)] ++ _) ∧ _) := wB H18 hM hl [10]
 have o17_10 := vB H18 hM hl 10
 clear hM hl l H18
 generalize J 10 = J17_10 at H19 o17_10 ⊢
 clear J
 refine rN (wp_seq ?_)
 refine zD 13 [.q (.agg (cel [pB] ++ ([Value.int .u64 9940570264628428797] ++ cel [sqP])).toArray), .q (N nm), .q (PT J1_0 0), .q (N a0), .call (N d2), .call (N g2), .call (.tuple #[N q2, .bool true]), .q (.tuple #[N q2, .bool true]), .q (N q2), .q (.bool true), .made zero6 24, .laid 10 zero6 (zB q2), .q (.bool true)] (sB H19) ?ho18 ?he18 (hL := ?hL18)
 case hL18 => exact ⟨⟨_, rfl⟩, trivial⟩
 case ho18 => exact bT 5 Ai36 As36 (bN 4 (ag (aq (fun w' h => zH (i := 0) h 6 rfl rfl rfl rfl) (ac (fun w' h => eC call28 (C17.out w')) (ac (fun w' h => eC call35 (C18.out w')) (ac (fun w' h => eC call34 (C19.out w')) (ar (ag (ag (am (zF rfl) (ak (fun J => ⟨rfl, rfl, rfl, fun w' h => zJ h rfl rfl rfl⟩) (ar trivial))))))))))))
 intro J w20 l hM hl
 have H20 : Hid (Mm w20 ([(J 10, zB q2)] ++ _) ∧ _) := wB H19 hM hl [10]
 have o18_10 := vB H19 hM hl 10
 clear hM hl l H19
 generalize J 10 = J18_10 at H20 o18_10 ⊢
 clear J
 refine rN (wp_seq (wp_seq ?_))
 refine zC 4 [.q (.bool true), .q (.bool true), .q (.bool true), .q (.bool true)] H20 ?ho19 ?he19
 case ho19 => exact ar (ar (ar (ag trivial)))
 intro _ w21 H21
 clear H20
 refine rN (wp_cond_true rfl (wp_seq ?_))
 refine zD 5 [.q (N r2), .q (N q2), .q (V [r2, q2]), .made (cel [0, 0]) 26, .laid 3 (cel [0, 0]) (cel [r2, q2])] (sB H21) ?ho20 ?he20 (hL := ?hL20)
 case hL20 => exact ⟨⟨_, rfl⟩, trivial⟩
 case ho20 => exact bN 1 (bN 0 (ak (fun J => ⟨rfl, fun w' _ => yC rfl rfl rfl⟩) (am (zO rfl) (ak (fun J => ⟨rfl, rfl, rfl, fun w' h => ex_laidA h rfl As26 rfl rfl rfl⟩) trivial))))
 intro J w22 l hM hl
 have H22 : Hid (Mm w22 ([(J 3, cel [r2, q2])] ++ _) ∧ _) := wB H21 hM hl [3]
 have o20_3 := vB H21 hM hl 3
 clear hM hl l H21
 generalize J 3 = J20_3 at H22 o20_3 ⊢
 clear J
 refine rN (wp_seq (wp_seq ?_))
 refine zS 5 [.q (V [r2, q2]), .q (V [r2, q2]), .call (V [m2, k2]), .q (V [a0, a1]), .q (.bool false)] H22 ?ho21 ?he21
 case ho21 => exact bA 0 2 0 Ai26 As26 (bA 0 2 0 Ai26 As26 (ac (fun w' h => eC call12 (C20.out w')) (bA 0 2 8 Ai26 As26 (ak (fun J => ⟨rfl, fun w' _ => exec_eqE2 e_m2 rfl rfl rfl⟩) trivial))))
 intro _ w23 H23
 clear H22
 refine rN (wp_cond_false rfl ?_)
 refine wp_skip (zA (wp_seq ?_))
 refine zS 5 [.q (N r2), .q (.agg (cel [pB] ++ ([Value.int .u64 9940570264628428797] ++ cel [sqP])).toArray), .q (N q2), .call (N y2), .q (V [r2, y2])] H23 ?ho22 ?he22
 case ho22 => exact bN 2 (bT 7 Ai36 As36 (bN 1 (ac (fun w' h => eC call25 (C21.out w')) (ak (fun J => ⟨rfl, fun w' _ => yC rfl rfl rfl⟩) trivial))))
 intro _ w24 H24
 clear H23
 refine zG (l := [5]) rfl ?_
 refine sF 0 [r2, y2] [_, _, _, _, _, _, _, _, _, _] H24 o20_3 As26 fun w25 H25 => ?_
 clear H24
 refine zE (zA (wp_seq ?_))
 refine zS 5 [.q (V [r2, y2]), .q (V [r2, y2]), .call (V [o2, i2]), .q (V [a0, a1]), .q (.bool true)] H25 ?ho23 ?he23
 case ho23 => exact bA 0 2 0 Ai26 As26 (bA 0 2 0 Ai26 As26 (ac (fun w' h => eC call12 (C22.out w')) (bA 0 2 8 Ai26 As26 (ak (fun J => ⟨rfl, fun w' _ => exec_eqE2 e_o2 rfl rfl rfl⟩) trivial))))
 intro _ w26 H26
 clear H25
 refine rN (wp_cond_true rfl (wp_seq ?_))
 refine zC 2 [.q (V [r2, y2]), .call (V [l0, l1])] H26 ?ho24 ?he24
 case ho24 => exact bA 0 2 0 Ai26 As26 (ac (fun w' h => eC call36 (C23.out w')) trivial)
 intro _ w27 H27
 clear H26
 refine zG (l := [2, 3]) rfl ?_
 refine sF 9 [l0, l1] [_, _, _, _, _, _, _, _, _, _] H27 o1_1 As26 fun w28 H28 => ?_
 clear H27
 refine zN (d := 3) rfl rfl rfl rfl ?_
 simp only [Act.put, sa, sz, ss]
 refine zE (zA (wp_ret ?_))
 repeat (first | refine zK ?_ | refine zI ?_)
 have hf0 := cel_var (k := 2) H28.out.1 9 rfl Ai26 As26 rfl
 refine bodyPost_ret (v := .tuple #[V [l0, l1], .bool true]) (by simp [results, Tryz.results17, asAddr, Act.eval, hf0]) rfl ?_
 exact ⟨rfl, H28.out.2⟩
end Rg
end Go.Proofs.YtacicklddhehaaaGreatDoor
end
section
namespace Go.Proofs.YtacicklddhehaaaGreatDoor
open Go.RowKit
namespace Rg
set_option maxRecDepth 100000
theorem pow_step1 (n a e j : Nat) (h : e / 2 ^ j % 2 = 1) : a ^ (e / 2 ^ (j + 1)) % n * (a ^ (e / 2 ^ (j + 1)) % n) % n * a % n = a ^ (e / 2 ^ j) % n := by
 rw [Nat.pow_succ, ← Nat.div_div_eq_div_mul]
 generalize e / 2 ^ j = q at *
 rw [← Nat.mul_mod, ← Nat.pow_add, Nat.mod_mul_mod, ← Nat.pow_succ, show (q / 2 + q / 2).succ = q by omega]
theorem pow_step0 (n a e j : Nat) (h : ¬ e / 2 ^ j % 2 = 1) : a ^ (e / 2 ^ (j + 1)) % n * (a ^ (e / 2 ^ (j + 1)) % n) % n = a ^ (e / 2 ^ j) % n := by
 rw [Nat.pow_succ, ← Nat.div_div_eq_div_mul]
 generalize e / 2 ^ j = q at *
 rw [← Nat.mul_mod, ← Nat.pow_add, show q / 2 + q / 2 = q by omega]
theorem bit_in (a i : Nat) (hi : i < 384) (w : World) : Calls Tryz.prog 86 #[N a, .int .i64 ((i : Nat) : Int)] w (Rt w (.int .i64 ((a / 2 ^ i % 2 : Nat) : Int))) := bit_ref_in a i hi w
theorem one_pB : 1 < pB := by decide +kernel
theorem fPowP {a ee : Nat} (ha : a < pB) (he : ee < big) (hl : bl ee ≤ 384) (w : World) : Calls Tryz.prog 60 #[.agg (cel [pB] ++ ([Value.int .u64 9940570264628428797] ++ cel [sqP])).toArray, N a, N ee] w (Rt w (N (a ^ ee % pB))) := by
 have h1r := one_pB
 have hlt : ee < 2 ^ bl ee := bl_lt _
 have h := fpow_gen (fn := pB) (fs := sqP) (fl := 9940570264628428797) (n := pB) (a := a) (ex := ee) (L := bl ee) (fun k => a ^ (ee / 2 ^ k) % pB) (fun k => ee / 2 ^ k % 2) (by omega) ha hl
  (by rw [Nat.div_eq_of_lt hlt, Nat.pow_zero, Nat.mod_eq_of_lt h1r]) (fun k => Nat.mod_lt _ (by omega)) (fun j hj => pow_step1 pB a ee j hj) (fun j hj => pow_step0 pB a ee j hj)
  (fun x y hx hy w => fMulP hx hy w) (fun w => len_ref ee he w) (fun j hj w => bit_in ee j (by omega) w) w
 rw [Nat.pow_zero, Nat.div_one] at h
 exact h
theorem subp2 : (pB + big - 2) % big = pB - 2 := by
 have h1r := one_pB
 have h2 := pB_lt
 rw [show pB + big - 2 = (pB - 2) + big by omega, Nat.add_mod_right, Nat.mod_eq_of_lt (by omega)]
theorem blp2 : bl (pB - 2) ≤ 384 := by decide +kernel
theorem ble : bl (eP + 1) ≤ 384 := by decide +kernel
theorem eP_big : eP + 1 < big := by decide +kernel
theorem fInvZ {x : Int} (h : ¬ Dv x) (w : World) : Calls Tryz.prog 37 #[.agg (cel [pB] ++ ([Value.int .u64 9940570264628428797] ++ cel [sqP])).toArray, N (pz x)] w (Rt w (N (pz (iv x : Int)))) := by
 have hs := fun w => sub_ref pB 2 pB_lt (small_big 2 (by decide)) w
 rw [subp2] at hs
 have e : pz x ^ (pB - 2) % pB = pz (iv x : Int) := by
  rw [pz_small (iv_lt h)]
  have h1 := one_pB
  refine inv_unique (Nat.mod_lt _ (by omega)) (iv_lt h) ?_ (invm_spec pB_ok (unit_gcd h)).2
  rw [Nat.mod_mul_mod, ← Nat.pow_succ, show (pB - 2).succ = pB - 1 by omega]
  exact unit_pow h
 have h2 := finv_gen (fl := 9940570264628428797) (fs := sqP) rfl hs (fun w => fPowP (pz_lt x) (Nat.lt_of_le_of_lt (Nat.sub_le _ _) pB_lt) blp2 w) w
 rw [e] at h2
 exact h2
theorem addp1 : (pB + 1) % big = pB + 1 := by decide +kernel
theorem shp2 : shv (pB + 1) (-2) = eP + 1 := by decide +kernel
/-- What, twice, is 1. -/
def hP : Nat := (pB + 1) / 2
theorem shp1 : shv (pB + 1) (-1) = hP := by decide +kernel
theorem hP_lt : hP < pB := by decide +kernel
theorem hP_two : 2 * hP = pB + 1 := by decide +kernel
theorem p1_big : pB + 1 < big := by decide +kernel
theorem dadd1 (w : World) : Calls Tryz.prog 43 #[N pB, N 1] w (Rt w (.tuple #[N (pB + 1), .bool (decide (big ≤ pB + 1))])) := by
 have h := add_ref pB 1 pB_lt (small_big 1 (by decide)) w
 rw [addp1] at h
 exact h
theorem dsh2 (w : World) : Calls Tryz.prog 61 #[N (pB + 1), .int .i64 (-2)] w (Rt w (N (eP + 1))) := by
 have h := shift_ref (pB + 1) (-2) p1_big w
 rw [shp2] at h
 exact h
theorem dsh1 (w : World) : Calls Tryz.prog 61 #[N (pB + 1), .int .i64 (-1)] w (Rt w (N hP)) := by
 have h := shift_ref (pB + 1) (-1) p1_big w
 rw [shp1] at h
 exact h
theorem rrz (x : Int) : pz (rr x : Int) = rr x := pz_small (rr_lt x)
theorem powrr (x : Int) (w : World) : Calls Tryz.prog 60 #[.agg (cel [pB] ++ ([Value.int .u64 9940570264628428797] ++ cel [sqP])).toArray, N (pz x), N (eP + 1)] w (Rt w (N (rr x))) := by
 unfold rr
 exact fPowP (pz_lt x) eP_big ble w
theorem root1_y {x : Int} (h : Sq x) (w : World) : Calls Tryz.prog 34 #[N (pz x)] w (Rt w (.tuple #[N (pz (rr x : Int)), .bool true])) := by
 rw [rrz]
 exact root1_true (a := pz x) (k1 := 1) (ez := pB + 1) (e4 := eP + 1) (cz := rr x) (m := rr x * rr x % pB) rfl dadd1 dsh2 (powrr x) (fun w => fMulP (rr_lt x) (rr_lt x) w) (fun w => by rw [run_eqN _ _ (Nat.lt_trans (Nat.mod_lt _ pB_ok.pos) pB_lt) (pz_big x), decide_eq_true ((sq_nat x).2 h)]) w
theorem root1_n {x : Int} (h : ¬ Sq x) (w : World) : Calls Tryz.prog 34 #[N (pz x)] w (Rt w (.tuple #[N (pz (rr x : Int)), .bool false])) := by
 rw [rrz]
 exact root1_false (a := pz x) (k1 := 1) (ez := pB + 1) (e4 := eP + 1) (cz := rr x) (m := rr x * rr x % pB) rfl dadd1 dsh2 (powrr x) (fun w => fMulP (rr_lt x) (rr_lt x) w) (fun w => by rw [run_eqN _ _ (Nat.lt_trans (Nat.mod_lt _ pB_ok.pos) pB_lt) (pz_big x), decide_eq_false (fun e => h ((sq_nat x).1 e))]) w
theorem root1_b (x : Int) : ∃ t : Bool, ∀ w, Calls Tryz.prog 34 #[N (pz x)] w (Rt w (.tuple #[N (pz (rr x : Int)), .bool t])) := by
 by_cases h : Sq x
 ·exact ⟨true, fun w => root1_y h w⟩
 ·exact ⟨false, fun w => root1_n h w⟩
theorem half_z (x : Int) (w : World) : Calls Tryz.prog 35 #[N (pz x)] w (Rt w (N (pz (x * (hP : Int))))) := by
 have h := half_w rfl dadd1 dsh1 (fun w => fMulP (pz_lt x) hP_lt w) w
 rw [pz_times x hP_lt] at h
 exact h
theorem half_dv (x : Int) : Dv (2 * (x * (hP : Int)) - x) := by
 have h : Dv ((pB : Int) * x) := Int.dvd_mul_right _ _
 refine h.of ?_
 have e : (2 : Int) * (hP : Int) = (pB : Int) + 1 := by have := hP_two; omega
 rw [show 2 * (x * (hP : Int)) = x * (2 * (hP : Int)) by grind, e]
 grind
/-- The lesser of a root and the negated one. -/
theorem lesser_z (u v : Int) : ∃ x y : Int, ((x = u ∧ y = v) ∨ (x = -u ∧ y = -v)) ∧ Le2 x y ∧ ∀ w, Calls Tryz.prog 36 #[V [pz u, pz v]] w (Rt w (V [pz x, pz y])) := by
 have n1 := fun w => dNeg2 u v w
 have c1 := fun w => compare_ref (pz v) (pz (-v)) (pz_big _) (pz_big _) w
 have c0 := fun w => compare_ref (pz u) (pz (-u)) (pz_big _) (pz_big _) w
 rcases Nat.lt_trichotomy (pz v) (pz (-v)) with h | h | h
 ·exact ⟨u, v, .inl ⟨rfl, rfl⟩, .inl h, fun w => les_m n1 c1 (by rw [cmp_lt h]; decide) w⟩
 ·have hz : cmpv (pz v) (pz (-v)) = 0 := by unfold cmpv; rw [if_pos h]
  by_cases h0 : pz u ≤ pz (-u)
  ·refine ⟨u, v, .inl ⟨rfl, rfl⟩, .inr ⟨h, h0⟩, fun w => les_0m n1 c1 c0 hz ?_ w⟩
   unfold cmpv
   split
   ·omega
   ·rw [if_pos (by omega)]; omega
  ·refine ⟨-u, -v, .inr ⟨rfl, rfl⟩, .inr ⟨by rw [Int.neg_neg]; exact h.symm, by rw [Int.neg_neg]; omega⟩, fun w => les_0p n1 c1 c0 hz ?_ w⟩
   unfold cmpv
   rw [if_neg (by omega), if_neg (by omega)]
   omega
 ·refine ⟨-u, -v, .inr ⟨rfl, rfl⟩, .inl (by rw [Int.neg_neg]; exact h), fun w => les_p n1 c1 ?_ w⟩
  unfold cmpv
  rw [if_neg (by omega), if_neg (by omega)]
  omega
theorem root_pm {u v x y : Int} (h0 : Dv (u * u - v * v - (x * x - y * y))) (h1 : Dv (2 * (u * v) - (x * y + y * x))) : (Dv (u - x) ∧ Dv (v - y)) ∨ (Dv (u + x) ∧ Dv (v + y)) := by
 have h : O2 (cm (u - x, v - y) (u + x, v + y)) := ⟨h0.of (by unfold cm; grind), h1.of (by unfold cm; grind)⟩
 exact h.dom
theorem le2_uni {x y u v : Int} (h : Le2 x y) (k : Le2 u v) (e : (pz x = pz u ∧ pz y = pz v) ∨ (pz x = pz (-u) ∧ pz y = pz (-v) ∧ pz (-x) = pz u ∧ pz (-y) = pz v)) : pz x = pz u ∧ pz y = pz v := by
 unfold Le2 at h k
 rcases e with e | ⟨e1, e2, e3, e4⟩
 ·exact e
 ·rw [e1, e2, e3, e4] at h
  rw [e1, e2]
  omega
/-- What the document tells of a root that it found. -/
theorem found {r q x y u v : Int} (hu : Dv (u * u - v * v - x)) (hv : Dv (2 * (u * v) - y)) (hL : Le2 u v) (h0 : pz (r * r - q * q) = pz x) (h1 : pz (r * q + q * r) = pz y) : ∀ w, Calls Tryz.prog 36 #[V [pz r, pz q]] w (Rt w (V [pz u, pz v])) := by
 obtain ⟨X, Y, he, hl, hc⟩ := lesser_z r q
 have d0 := (pz_iff _ _).1 h0
 have d1 := (pz_iff _ _).1 h1
 have hp := root_pm (u := r) (v := q) (x := u) (y := v) ((d0.sub hu).of (by grind)) ((d1.sub hv).of (by grind))
 have key : pz X = pz u ∧ pz Y = pz v := by
  refine le2_uni hl hL ?_
  rcases hp with ⟨a, c⟩ | ⟨a, c⟩ <;> rcases he with ⟨rfl, rfl⟩ | ⟨rfl, rfl⟩
  ·exact .inl ⟨pz_mod _ _ a, pz_mod _ _ c⟩
  ·refine .inr ⟨pz_mod _ _ ((dv_zero.sub a).of (by grind)), pz_mod _ _ ((dv_zero.sub c).of (by grind)), pz_mod _ _ (a.of (by grind)), pz_mod _ _ (c.of (by grind))⟩
  ·refine .inr ⟨pz_mod _ _ (a.of (by grind)), pz_mod _ _ (c.of (by grind)), pz_mod _ _ ((dv_zero.sub a).of (by grind)), pz_mod _ _ ((dv_zero.sub c).of (by grind))⟩
  ·exact .inl ⟨pz_mod _ _ ((dv_zero.sub a).of (by grind)), pz_mod _ _ ((dv_zero.sub c).of (by grind))⟩
 rw [key.1, key.2] at hc
 exact hc
def okc (x y nz : Int) : Prop := pz ((rr ((x + nz) * (hP : Int)) : Int) * (rr ((x + nz) * (hP : Int)) : Int) - (rr ((nz - x) * (hP : Int)) : Int) * (rr ((nz - x) * (hP : Int)) : Int)) = pz x ∧ pz ((rr ((x + nz) * (hP : Int)) : Int) * (rr ((nz - x) * (hP : Int)) : Int) + (rr ((nz - x) * (hP : Int)) : Int) * (rr ((x + nz) * (hP : Int)) : Int)) = pz y
def okd (x y nz : Int) : Prop := pz ((rr ((x + nz) * (hP : Int)) : Int) * (rr ((x + nz) * (hP : Int)) : Int) - (-(rr ((nz - x) * (hP : Int)) : Int)) * (-(rr ((nz - x) * (hP : Int)) : Int))) = pz x ∧ pz ((rr ((x + nz) * (hP : Int)) : Int) * (-(rr ((nz - x) * (hP : Int)) : Int)) + (-(rr ((nz - x) * (hP : Int)) : Int)) * (rr ((x + nz) * (hP : Int)) : Int)) = pz y
theorem sq_pm {r s : Int} (h : Dv (r * r - s * s)) : Dv (r - s) ∨ Dv (r + s) := (h.of (by grind : r * r - s * s = (r - s) * (r + s))).prime
theorem sq_same {r s x : Int} (hr : Dv (r * r - x)) (hs : Dv (s * s - x)) : Dv (r - s) ∨ Dv (r + s) := sq_pm ((hr.sub hs).of (by grind))
theorem two_dv {x : Int} (h : Dv (2 * x)) : Dv x := h.prime.resolve_left not_two
/-- With the right root of the norm a root is found. -/
theorem comes {x y u v nz : Int} (hu : Dv (u * u - v * v - x)) (hv : Dv (2 * (u * v) - y)) (hn : Dv (nz - (u * u + v * v))) :
  Sq ((x + nz) * (hP : Int)) ∧ Sq ((nz - x) * (hP : Int)) ∧ (okc x y nz ∨ okd x y nz) := by
 have a1 : Dv (u * u - (x + nz) * (hP : Int)) := two_dv (((hu.sub hn).sub (half_dv (x + nz))).of (by grind))
 have a2 : Dv (v * v - (nz - x) * (hP : Int)) := two_dv ((((dv_zero.sub hn).sub hu).sub (half_dv (nz - x))).of (by grind))
 have s1 : Sq ((x + nz) * (hP : Int)) := sq_of a1
 have s2 : Sq ((nz - x) * (hP : Int)) := sq_of a2
 refine ⟨s1, s2, ?_⟩
 have r1 := sq_same s1 a1
 have r2 := sq_same s2 a2
 have q1 : Dv ((rr ((x + nz) * (hP : Int)) : Int) * (rr ((x + nz) * (hP : Int)) : Int) - (x + nz) * (hP : Int)) := s1
 have q2 : Dv ((rr ((nz - x) * (hP : Int)) : Int) * (rr ((nz - x) * (hP : Int)) : Int) - (nz - x) * (hP : Int)) := s2
 unfold okc okd
 generalize (rr ((x + nz) * (hP : Int)) : Int) = r at *
 generalize (rr ((nz - x) * (hP : Int)) : Int) = q at *
 have e0 : Dv (r * r - q * q - x) := ((((q1.sub q2).sub a1).add a2).add hu).of (by grind)
 rcases r1 with r1 | r1 <;> rcases r2 with r2 | r2
 ·exact .inl ⟨pz_mod _ _ e0, pz_mod _ _ ((((r1.mulr (2 * q)).add (r2.mul (2 * u))).add hv).of (by grind))⟩
 ·exact .inr ⟨pz_mod _ _ (e0.of (by grind)), pz_mod _ _ (((hv.sub (r1.mulr (2 * q))).sub (r2.mul (2 * u))).of (by grind))⟩
 ·exact .inr ⟨pz_mod _ _ (e0.of (by grind)), pz_mod _ _ (((hv.sub (r1.mulr (2 * q))).add (r2.mul (2 * u))).of (by grind))⟩
 ·exact .inl ⟨pz_mod _ _ e0, pz_mod _ _ (((hv.add (r1.mulr (2 * q))).sub (r2.mul (2 * u))).of (by grind))⟩
end Rg
end Go.Proofs.YtacicklddhehaaaGreatDoor
end
section
namespace Go.Proofs.YtacicklddhehaaaGreatDoor
open Go.RowKit
namespace Rg
set_option maxRecDepth 100000
theorem eqZ_t {p q x y : Int} (h : pz p = pz x ∧ pz q = pz y) (w : World) : (Op.equalIn 10000 26 (V [pz p, pz q]) (V [pz x, pz y])).run Tryz.prog w = .ok true w := by
 rw [run_eqE2 _ _ _ _ (pz_big _) (pz_big _) (pz_big _) (pz_big _), decide_eq_true h.1, decide_eq_true h.2]
 rfl
theorem eqZ_f {p q x y : Int} (h : ¬ (pz p = pz x ∧ pz q = pz y)) (w : World) : (Op.equalIn 10000 26 (V [pz p, pz q]) (V [pz x, pz y])).run Tryz.prog w = .ok false w := by
 rw [run_eqE2 _ _ _ _ (pz_big _) (pz_big _) (pz_big _) (pz_big _), ← Bool.decide_and, decide_eq_false h]
theorem dRoot_none (x y : Int) (h : ¬ Sq (x * x + y * y)) (w : World) : Calls Tryz.prog 17 #[V [pz x, pz y]] w (Rt w (.tuple #[V [0, 0], .bool false])) :=
 r2_no (fun w => fMulZ x x w) (fun w => fMulZ y y w) (fun w => fAddZ (x * x) (y * y) w) (fun w => root1_n h w) w
theorem dRoot_ex {x y u v : Int} (hu : Dv (u * u - v * v - x)) (hv : Dv (2 * (u * v) - y)) (hL : Le2 u v) (w : World) : Calls Tryz.prog 17 #[V [pz x, pz y]] w (Rt w (.tuple #[V [pz u, pz v], .bool true])) := by
 have h0 : Dv ((u * u + v * v) * (u * u + v * v) - (x * x + y * y)) := ((hu.mulr (u * u - v * v + x)).add (hv.mulr (2 * (u * v) + y))).of (by grind)
 have hN : Sq (x * x + y * y) := sq_of h0
 have hn : Dv ((rr (x * x + y * y) : Int) * (rr (x * x + y * y) : Int) - (x * x + y * y)) := hN
 have hpm := sq_same hn h0
 have back : ¬ Dv ((rr (x * x + y * y) : Int) - (u * u + v * v)) → Dv (-(rr (x * x + y * y) : Int) - (u * u + v * v)) := fun h => by
  rcases hpm with k | k
  ·exact absurd k h
  ·exact (dv_zero.sub k).of (by grind)
 by_cases S1 : Sq ((x + (rr (x * x + y * y) : Int)) * (hP : Int))
 ·by_cases S2 : Sq (((rr (x * x + y * y) : Int) - x) * (hP : Int))
  ·by_cases oc : okc x y (rr (x * x + y * y) : Int)
   ·exact r2_c (eqZ_t oc) (fun w => fMulZ x x w) (fun w => fMulZ y y w) (fun w => fAddZ (x * x) (y * y) w) (fun w => root1_y hN w) (fun w => fAddZ x (rr (x * x + y * y) : Int) w) (half_z (x + (rr (x * x + y * y) : Int))) (fun w => root1_y S1 w) (fun w => fSubZ (rr (x * x + y * y) : Int) x w) (half_z ((rr (x * x + y * y) : Int) - x)) (fun w => root1_y S2 w) (fun w => dMul2 (rr ((x + (rr (x * x + y * y) : Int)) * (hP : Int)) : Int) (rr (((rr (x * x + y * y) : Int) - x) * (hP : Int)) : Int) (rr ((x + (rr (x * x + y * y) : Int)) * (hP : Int)) : Int) (rr (((rr (x * x + y * y) : Int) - x) * (hP : Int)) : Int) w) (found hu hv hL oc.1 oc.2) w
   ·by_cases od : okd x y (rr (x * x + y * y) : Int)
    ·exact r2_d (eqZ_f oc) (eqZ_t od) (fun w => fMulZ x x w) (fun w => fMulZ y y w) (fun w => fAddZ (x * x) (y * y) w) (fun w => root1_y hN w) (fun w => fAddZ x (rr (x * x + y * y) : Int) w) (half_z (x + (rr (x * x + y * y) : Int))) (fun w => root1_y S1 w) (fun w => fSubZ (rr (x * x + y * y) : Int) x w) (half_z ((rr (x * x + y * y) : Int) - x)) (fun w => root1_y S2 w) (fun w => dMul2 (rr ((x + (rr (x * x + y * y) : Int)) * (hP : Int)) : Int) (rr (((rr (x * x + y * y) : Int) - x) * (hP : Int)) : Int) (rr ((x + (rr (x * x + y * y) : Int)) * (hP : Int)) : Int) (rr (((rr (x * x + y * y) : Int) - x) * (hP : Int)) : Int) w) (fun w => fNegZ (rr (((rr (x * x + y * y) : Int) - x) * (hP : Int)) : Int) w) (fun w => dMul2 (rr ((x + (rr (x * x + y * y) : Int)) * (hP : Int)) : Int) (-(rr (((rr (x * x + y * y) : Int) - x) * (hP : Int)) : Int)) (rr ((x + (rr (x * x + y * y) : Int)) * (hP : Int)) : Int) (-(rr (((rr (x * x + y * y) : Int) - x) * (hP : Int)) : Int)) w) (found hu hv hL od.1 od.2) w
    ·obtain ⟨S3, S4, k⟩ := comes hu hv (back (fun h => (comes hu hv h).2.2.elim oc od))
     rcases k with pc | pd
     ·exact r2_n2_c (eqZ_f oc) (eqZ_f od) (eqZ_t pc) (fun w => fMulZ x x w) (fun w => fMulZ y y w) (fun w => fAddZ (x * x) (y * y) w) (fun w => root1_y hN w) (fun w => fAddZ x (rr (x * x + y * y) : Int) w) (half_z (x + (rr (x * x + y * y) : Int))) (fun w => root1_y S1 w) (fun w => fSubZ (rr (x * x + y * y) : Int) x w) (half_z ((rr (x * x + y * y) : Int) - x)) (fun w => root1_y S2 w) (fun w => dMul2 (rr ((x + (rr (x * x + y * y) : Int)) * (hP : Int)) : Int) (rr (((rr (x * x + y * y) : Int) - x) * (hP : Int)) : Int) (rr ((x + (rr (x * x + y * y) : Int)) * (hP : Int)) : Int) (rr (((rr (x * x + y * y) : Int) - x) * (hP : Int)) : Int) w) (fun w => fNegZ (rr (((rr (x * x + y * y) : Int) - x) * (hP : Int)) : Int) w) (fun w => dMul2 (rr ((x + (rr (x * x + y * y) : Int)) * (hP : Int)) : Int) (-(rr (((rr (x * x + y * y) : Int) - x) * (hP : Int)) : Int)) (rr ((x + (rr (x * x + y * y) : Int)) * (hP : Int)) : Int) (-(rr (((rr (x * x + y * y) : Int) - x) * (hP : Int)) : Int)) w) (fun w => fNegZ (rr (x * x + y * y) : Int) w) (fun w => fAddZ x (-(rr (x * x + y * y) : Int)) w) (half_z (x + (-(rr (x * x + y * y) : Int)))) (fun w => root1_y S3 w) (fun w => fSubZ (-(rr (x * x + y * y) : Int)) x w) (half_z ((-(rr (x * x + y * y) : Int)) - x)) (fun w => root1_y S4 w) (fun w => dMul2 (rr ((x + (-(rr (x * x + y * y) : Int))) * (hP : Int)) : Int) (rr (((-(rr (x * x + y * y) : Int)) - x) * (hP : Int)) : Int) (rr ((x + (-(rr (x * x + y * y) : Int))) * (hP : Int)) : Int) (rr (((-(rr (x * x + y * y) : Int)) - x) * (hP : Int)) : Int) w) (found hu hv hL pc.1 pc.2) w
     ·by_cases pc : okc x y (-(rr (x * x + y * y) : Int))
      ·exact r2_n2_c (eqZ_f oc) (eqZ_f od) (eqZ_t pc) (fun w => fMulZ x x w) (fun w => fMulZ y y w) (fun w => fAddZ (x * x) (y * y) w) (fun w => root1_y hN w) (fun w => fAddZ x (rr (x * x + y * y) : Int) w) (half_z (x + (rr (x * x + y * y) : Int))) (fun w => root1_y S1 w) (fun w => fSubZ (rr (x * x + y * y) : Int) x w) (half_z ((rr (x * x + y * y) : Int) - x)) (fun w => root1_y S2 w) (fun w => dMul2 (rr ((x + (rr (x * x + y * y) : Int)) * (hP : Int)) : Int) (rr (((rr (x * x + y * y) : Int) - x) * (hP : Int)) : Int) (rr ((x + (rr (x * x + y * y) : Int)) * (hP : Int)) : Int) (rr (((rr (x * x + y * y) : Int) - x) * (hP : Int)) : Int) w) (fun w => fNegZ (rr (((rr (x * x + y * y) : Int) - x) * (hP : Int)) : Int) w) (fun w => dMul2 (rr ((x + (rr (x * x + y * y) : Int)) * (hP : Int)) : Int) (-(rr (((rr (x * x + y * y) : Int) - x) * (hP : Int)) : Int)) (rr ((x + (rr (x * x + y * y) : Int)) * (hP : Int)) : Int) (-(rr (((rr (x * x + y * y) : Int) - x) * (hP : Int)) : Int)) w) (fun w => fNegZ (rr (x * x + y * y) : Int) w) (fun w => fAddZ x (-(rr (x * x + y * y) : Int)) w) (half_z (x + (-(rr (x * x + y * y) : Int)))) (fun w => root1_y S3 w) (fun w => fSubZ (-(rr (x * x + y * y) : Int)) x w) (half_z ((-(rr (x * x + y * y) : Int)) - x)) (fun w => root1_y S4 w) (fun w => dMul2 (rr ((x + (-(rr (x * x + y * y) : Int))) * (hP : Int)) : Int) (rr (((-(rr (x * x + y * y) : Int)) - x) * (hP : Int)) : Int) (rr ((x + (-(rr (x * x + y * y) : Int))) * (hP : Int)) : Int) (rr (((-(rr (x * x + y * y) : Int)) - x) * (hP : Int)) : Int) w) (found hu hv hL pc.1 pc.2) w
      ·exact r2_n2_d (eqZ_f oc) (eqZ_f od) (eqZ_f pc) (eqZ_t pd) (fun w => fMulZ x x w) (fun w => fMulZ y y w) (fun w => fAddZ (x * x) (y * y) w) (fun w => root1_y hN w) (fun w => fAddZ x (rr (x * x + y * y) : Int) w) (half_z (x + (rr (x * x + y * y) : Int))) (fun w => root1_y S1 w) (fun w => fSubZ (rr (x * x + y * y) : Int) x w) (half_z ((rr (x * x + y * y) : Int) - x)) (fun w => root1_y S2 w) (fun w => dMul2 (rr ((x + (rr (x * x + y * y) : Int)) * (hP : Int)) : Int) (rr (((rr (x * x + y * y) : Int) - x) * (hP : Int)) : Int) (rr ((x + (rr (x * x + y * y) : Int)) * (hP : Int)) : Int) (rr (((rr (x * x + y * y) : Int) - x) * (hP : Int)) : Int) w) (fun w => fNegZ (rr (((rr (x * x + y * y) : Int) - x) * (hP : Int)) : Int) w) (fun w => dMul2 (rr ((x + (rr (x * x + y * y) : Int)) * (hP : Int)) : Int) (-(rr (((rr (x * x + y * y) : Int) - x) * (hP : Int)) : Int)) (rr ((x + (rr (x * x + y * y) : Int)) * (hP : Int)) : Int) (-(rr (((rr (x * x + y * y) : Int) - x) * (hP : Int)) : Int)) w) (fun w => fNegZ (rr (x * x + y * y) : Int) w) (fun w => fAddZ x (-(rr (x * x + y * y) : Int)) w) (half_z (x + (-(rr (x * x + y * y) : Int)))) (fun w => root1_y S3 w) (fun w => fSubZ (-(rr (x * x + y * y) : Int)) x w) (half_z ((-(rr (x * x + y * y) : Int)) - x)) (fun w => root1_y S4 w) (fun w => dMul2 (rr ((x + (-(rr (x * x + y * y) : Int))) * (hP : Int)) : Int) (rr (((-(rr (x * x + y * y) : Int)) - x) * (hP : Int)) : Int) (rr ((x + (-(rr (x * x + y * y) : Int))) * (hP : Int)) : Int) (rr (((-(rr (x * x + y * y) : Int)) - x) * (hP : Int)) : Int) w) (fun w => fNegZ (rr (((-(rr (x * x + y * y) : Int)) - x) * (hP : Int)) : Int) w) (fun w => dMul2 (rr ((x + (-(rr (x * x + y * y) : Int))) * (hP : Int)) : Int) (-(rr (((-(rr (x * x + y * y) : Int)) - x) * (hP : Int)) : Int)) (rr ((x + (-(rr (x * x + y * y) : Int))) * (hP : Int)) : Int) (-(rr (((-(rr (x * x + y * y) : Int)) - x) * (hP : Int)) : Int)) w) (found hu hv hL pd.1 pd.2) w
  ·obtain ⟨S3, S4, k⟩ := comes hu hv (back (fun h => S2 (comes hu hv h).2.1))
   rcases k with pc | pd
   ·exact r2_n1b_c (eqZ_t pc) (fun w => fMulZ x x w) (fun w => fMulZ y y w) (fun w => fAddZ (x * x) (y * y) w) (fun w => root1_y hN w) (fun w => fAddZ x (rr (x * x + y * y) : Int) w) (half_z (x + (rr (x * x + y * y) : Int))) (fun w => root1_y S1 w) (fun w => fSubZ (rr (x * x + y * y) : Int) x w) (half_z ((rr (x * x + y * y) : Int) - x)) (fun w => root1_n S2 w) (fun w => fNegZ (rr (x * x + y * y) : Int) w) (fun w => fAddZ x (-(rr (x * x + y * y) : Int)) w) (half_z (x + (-(rr (x * x + y * y) : Int)))) (fun w => root1_y S3 w) (fun w => fSubZ (-(rr (x * x + y * y) : Int)) x w) (half_z ((-(rr (x * x + y * y) : Int)) - x)) (fun w => root1_y S4 w) (fun w => dMul2 (rr ((x + (-(rr (x * x + y * y) : Int))) * (hP : Int)) : Int) (rr (((-(rr (x * x + y * y) : Int)) - x) * (hP : Int)) : Int) (rr ((x + (-(rr (x * x + y * y) : Int))) * (hP : Int)) : Int) (rr (((-(rr (x * x + y * y) : Int)) - x) * (hP : Int)) : Int) w) (found hu hv hL pc.1 pc.2) w
   ·by_cases pc : okc x y (-(rr (x * x + y * y) : Int))
    ·exact r2_n1b_c (eqZ_t pc) (fun w => fMulZ x x w) (fun w => fMulZ y y w) (fun w => fAddZ (x * x) (y * y) w) (fun w => root1_y hN w) (fun w => fAddZ x (rr (x * x + y * y) : Int) w) (half_z (x + (rr (x * x + y * y) : Int))) (fun w => root1_y S1 w) (fun w => fSubZ (rr (x * x + y * y) : Int) x w) (half_z ((rr (x * x + y * y) : Int) - x)) (fun w => root1_n S2 w) (fun w => fNegZ (rr (x * x + y * y) : Int) w) (fun w => fAddZ x (-(rr (x * x + y * y) : Int)) w) (half_z (x + (-(rr (x * x + y * y) : Int)))) (fun w => root1_y S3 w) (fun w => fSubZ (-(rr (x * x + y * y) : Int)) x w) (half_z ((-(rr (x * x + y * y) : Int)) - x)) (fun w => root1_y S4 w) (fun w => dMul2 (rr ((x + (-(rr (x * x + y * y) : Int))) * (hP : Int)) : Int) (rr (((-(rr (x * x + y * y) : Int)) - x) * (hP : Int)) : Int) (rr ((x + (-(rr (x * x + y * y) : Int))) * (hP : Int)) : Int) (rr (((-(rr (x * x + y * y) : Int)) - x) * (hP : Int)) : Int) w) (found hu hv hL pc.1 pc.2) w
    ·exact r2_n1b_d (eqZ_f pc) (eqZ_t pd) (fun w => fMulZ x x w) (fun w => fMulZ y y w) (fun w => fAddZ (x * x) (y * y) w) (fun w => root1_y hN w) (fun w => fAddZ x (rr (x * x + y * y) : Int) w) (half_z (x + (rr (x * x + y * y) : Int))) (fun w => root1_y S1 w) (fun w => fSubZ (rr (x * x + y * y) : Int) x w) (half_z ((rr (x * x + y * y) : Int) - x)) (fun w => root1_n S2 w) (fun w => fNegZ (rr (x * x + y * y) : Int) w) (fun w => fAddZ x (-(rr (x * x + y * y) : Int)) w) (half_z (x + (-(rr (x * x + y * y) : Int)))) (fun w => root1_y S3 w) (fun w => fSubZ (-(rr (x * x + y * y) : Int)) x w) (half_z ((-(rr (x * x + y * y) : Int)) - x)) (fun w => root1_y S4 w) (fun w => dMul2 (rr ((x + (-(rr (x * x + y * y) : Int))) * (hP : Int)) : Int) (rr (((-(rr (x * x + y * y) : Int)) - x) * (hP : Int)) : Int) (rr ((x + (-(rr (x * x + y * y) : Int))) * (hP : Int)) : Int) (rr (((-(rr (x * x + y * y) : Int)) - x) * (hP : Int)) : Int) w) (fun w => fNegZ (rr (((-(rr (x * x + y * y) : Int)) - x) * (hP : Int)) : Int) w) (fun w => dMul2 (rr ((x + (-(rr (x * x + y * y) : Int))) * (hP : Int)) : Int) (-(rr (((-(rr (x * x + y * y) : Int)) - x) * (hP : Int)) : Int)) (rr ((x + (-(rr (x * x + y * y) : Int))) * (hP : Int)) : Int) (-(rr (((-(rr (x * x + y * y) : Int)) - x) * (hP : Int)) : Int)) w) (found hu hv hL pd.1 pd.2) w
 ·obtain ⟨t1, T1⟩ := root1_b (((rr (x * x + y * y) : Int) - x) * (hP : Int))
  obtain ⟨S3, S4, k⟩ := comes hu hv (back (fun h => S1 (comes hu hv h).1))
  rcases k with pc | pd
  ·exact r2_n1a_c (eqZ_t pc) (fun w => fMulZ x x w) (fun w => fMulZ y y w) (fun w => fAddZ (x * x) (y * y) w) (fun w => root1_y hN w) (fun w => fAddZ x (rr (x * x + y * y) : Int) w) (half_z (x + (rr (x * x + y * y) : Int))) (fun w => root1_n S1 w) (fun w => fSubZ (rr (x * x + y * y) : Int) x w) (half_z ((rr (x * x + y * y) : Int) - x)) T1 (fun w => fNegZ (rr (x * x + y * y) : Int) w) (fun w => fAddZ x (-(rr (x * x + y * y) : Int)) w) (half_z (x + (-(rr (x * x + y * y) : Int)))) (fun w => root1_y S3 w) (fun w => fSubZ (-(rr (x * x + y * y) : Int)) x w) (half_z ((-(rr (x * x + y * y) : Int)) - x)) (fun w => root1_y S4 w) (fun w => dMul2 (rr ((x + (-(rr (x * x + y * y) : Int))) * (hP : Int)) : Int) (rr (((-(rr (x * x + y * y) : Int)) - x) * (hP : Int)) : Int) (rr ((x + (-(rr (x * x + y * y) : Int))) * (hP : Int)) : Int) (rr (((-(rr (x * x + y * y) : Int)) - x) * (hP : Int)) : Int) w) (found hu hv hL pc.1 pc.2) w
  ·by_cases pc : okc x y (-(rr (x * x + y * y) : Int))
   ·exact r2_n1a_c (eqZ_t pc) (fun w => fMulZ x x w) (fun w => fMulZ y y w) (fun w => fAddZ (x * x) (y * y) w) (fun w => root1_y hN w) (fun w => fAddZ x (rr (x * x + y * y) : Int) w) (half_z (x + (rr (x * x + y * y) : Int))) (fun w => root1_n S1 w) (fun w => fSubZ (rr (x * x + y * y) : Int) x w) (half_z ((rr (x * x + y * y) : Int) - x)) T1 (fun w => fNegZ (rr (x * x + y * y) : Int) w) (fun w => fAddZ x (-(rr (x * x + y * y) : Int)) w) (half_z (x + (-(rr (x * x + y * y) : Int)))) (fun w => root1_y S3 w) (fun w => fSubZ (-(rr (x * x + y * y) : Int)) x w) (half_z ((-(rr (x * x + y * y) : Int)) - x)) (fun w => root1_y S4 w) (fun w => dMul2 (rr ((x + (-(rr (x * x + y * y) : Int))) * (hP : Int)) : Int) (rr (((-(rr (x * x + y * y) : Int)) - x) * (hP : Int)) : Int) (rr ((x + (-(rr (x * x + y * y) : Int))) * (hP : Int)) : Int) (rr (((-(rr (x * x + y * y) : Int)) - x) * (hP : Int)) : Int) w) (found hu hv hL pc.1 pc.2) w
   ·exact r2_n1a_d (eqZ_f pc) (eqZ_t pd) (fun w => fMulZ x x w) (fun w => fMulZ y y w) (fun w => fAddZ (x * x) (y * y) w) (fun w => root1_y hN w) (fun w => fAddZ x (rr (x * x + y * y) : Int) w) (half_z (x + (rr (x * x + y * y) : Int))) (fun w => root1_n S1 w) (fun w => fSubZ (rr (x * x + y * y) : Int) x w) (half_z ((rr (x * x + y * y) : Int) - x)) T1 (fun w => fNegZ (rr (x * x + y * y) : Int) w) (fun w => fAddZ x (-(rr (x * x + y * y) : Int)) w) (half_z (x + (-(rr (x * x + y * y) : Int)))) (fun w => root1_y S3 w) (fun w => fSubZ (-(rr (x * x + y * y) : Int)) x w) (half_z ((-(rr (x * x + y * y) : Int)) - x)) (fun w => root1_y S4 w) (fun w => dMul2 (rr ((x + (-(rr (x * x + y * y) : Int))) * (hP : Int)) : Int) (rr (((-(rr (x * x + y * y) : Int)) - x) * (hP : Int)) : Int) (rr ((x + (-(rr (x * x + y * y) : Int))) * (hP : Int)) : Int) (rr (((-(rr (x * x + y * y) : Int)) - x) * (hP : Int)) : Int) w) (fun w => fNegZ (rr (((-(rr (x * x + y * y) : Int)) - x) * (hP : Int)) : Int) w) (fun w => dMul2 (rr ((x + (-(rr (x * x + y * y) : Int))) * (hP : Int)) : Int) (-(rr (((-(rr (x * x + y * y) : Int)) - x) * (hP : Int)) : Int)) (rr ((x + (-(rr (x * x + y * y) : Int))) * (hP : Int)) : Int) (-(rr (((-(rr (x * x + y * y) : Int)) - x) * (hP : Int)) : Int)) w) (found hu hv hL pd.1 pd.2) w
end Rg
end Go.Proofs.YtacicklddhehaaaGreatDoor
end
