/- Texts of the proof, joined. -/
import Derived.Test.YtahghpkjkfaieaaGreatDoorP8
set_option maxRecDepth 100000
section
namespace Go.Proofs.YtahghpkjkfaieaaGreatDoor
open Go.RowKit
namespace Rg
namespace Wi
set_option maxRecDepth 100000
theorem drop_at {gb o m c k : Nat} (h : k < c) : sdrop (.slice (some ⟨gb, o, none⟩) m c) k = .slice (some ⟨gb, o + k, none⟩) (m - k) (c - k) := by
 rw [sdrop_slice, if_neg (by omega), Option.map_some, show (⟨gb, o, none⟩ : Addr).add k = ⟨gb, o + k, none⟩ by unfold Addr.add; split <;> simp_all]
theorem number_at (gr gb o m c k most : Nat) (f : Nat → Nat) (cs : List Value) (hk : k ≤ m) (h8 : k ≤ 8) (hc : m ≤ c) (hmo : most < 9223372036854775808) (hf : ∀ j, f j < 256) (hn : ∀ z, z < k → nv f z * 256 < 18446744073709551616) (hcs : ∀ i, i < k → cs[o + i]? = some (Z8 (f i))) (hV : nv f k ≤ most) (hkc : k < c) (w : World) (hm : Mm w [(gr, [Value.slice (some ⟨gb, o, none⟩) m c, Value.bool false]), (gb, cs)]) :
  Calls Tryz.prog 44 #[PT gr 0, .int .i64 ((k : Nat) : Int), .int .i64 ((most : Nat) : Int)] w fun e w' => e = .returned (.int .i64 ((nv f k : Nat) : Int)) ∧ Mm w' [(gr, [Value.slice (some ⟨gb, o + k, none⟩) (m - k) (c - k), Value.bool false])] ∧ Kp gr w w' := by
 have h := number_ok gr gb o m c k most f cs hk h8 hc hmo hf hn hcs hV w hm
 rw [drop_at hkc] at h
 exact h
theorem text_at (gr gb o m c k most : Nat) (f : Nat → Nat) (cs : List Value) (h8 : k ≤ 8) (hc : m ≤ c) (hmo : most < 9223372036854775808) (hf : ∀ j, f j < 256) (hn : ∀ z, z < k → nv f z * 256 < 18446744073709551616) (hcs : ∀ i, i < k → cs[o + i]? = some (Z8 (f i))) (hV : nv f k ≤ most) (hL : k + nv f k ≤ m) (hkc : k + nv f k < c) (w : World) (hm : Mm w [(gr, [Value.slice (some ⟨gb, o, none⟩) m c, Value.bool false]), (gb, cs)]) :
  Calls Tryz.prog 58 #[PT gr 0, .int .i64 ((k : Nat) : Int), .int .i64 ((most : Nat) : Int)] w fun e w' => e = .returned (.slice (some ⟨gb, o + k, none⟩) (nv f k) (c - k)) ∧ Mm w' [(gr, [Value.slice (some ⟨gb, o + k + nv f k, none⟩) (m - k - nv f k) (c - k - nv f k), Value.bool false])] ∧ Kp gr w w' := by
 have h := text_ok gr gb o m c k most f cs h8 hc hmo hf hn hcs hV hL w hm
 rw [drop_at (show k < c by omega), drop_at (show nv f k < c - k by omega)] at h
 exact h
theorem lb_lt (l : List Nat) (h : ∀ x ∈ l, x < 256) (j : Nat) : lb l j < 256 := by
 unfold lb
 rw [List.getD_eq_getElem?_getD]
 rcases e : l[j]? with _ | x
 ·decide
 ·exact h x (List.mem_of_getElem? e)
theorem nv_bd {f : Nat → Nat} (hf : ∀ j, f j < 256) {k : Nat} (h : k ≤ 8) (z : Nat) (hz : z < k) : nv f z * 256 < 18446744073709551616 := by
 have h1 := nv_lt f hf z
 have h2 : 256 ^ z ≤ 256 ^ 7 := Nat.pow_le_pow_right (by decide) (by omega)
 have h3 : (256 : Nat) ^ 7 = 72057594037927936 := by decide
 omega
section
variable {ρ : Operand → Value} {o : Oper} {x y : Operand} {g off : Nat} {w : World}
/-- copy into a row of bytes. -/
theorem ex_copyR {gb so sn sc dn dc kk mm N : Nat} {F r : Nat → Nat} {l : List (Nat × List Value)} (h : Mm w l) (q : Nat) (hk : l[q]? = some (g, zH .u8 r N)) (hf : ∀ j, j < mm → w.cell? ⟨gb, so + j, none⟩ = some (Z8 (F j))) (hm : mm = Nat.min sn dn) (hd : kk + mm ≤ N)
  (ho : o.op = .call { callee := .builtin .copy, args := #[x, y], argTypes := #[51, 51] }) (hx : ρ x = .slice (some ⟨g, kk, none⟩) dn dc) (hy : ρ y = .slice (some ⟨gb, so, none⟩) sn sc) : (execOp ρ o).run Tryz.prog w = .ok (.value (.int .i64 ((mm : Nat) : Int))) (w.setCells g kk (zH .u8 F mm)) := by
 have hmem := List.mem_of_getElem? hk
 have hcell : ∀ j, j < mm → ∃ u, (zH .u8 r N)[kk + j]? = some u := fun j hj => ⟨_, List.getElem?_eq_getElem (by rw [ints_len]; omega)⟩
 have hr : (Builtin.copy_ #[51, 51] o.type #[.slice (some ⟨g, kk, none⟩) dn dc, .slice (some ⟨gb, so, none⟩) sn sc]).run Tryz.prog w = .ok (goInt (zH .u8 F mm).length) (w.setCells g kk (zH .u8 F mm)) :=
  run_copy_cells (P := Tryz.prog) w 51 51 o.type 5 g kk dn dc ⟨gb, so, none⟩ sn sc (zH .u8 F mm) (by kernel_rfl) (by kernel_rfl) (by rw [ints_len, hm])
   (fun j v hv => by
    have hj : j < mm := by
     have := (List.getElem?_eq_some_iff.1 hv).1
     rwa [ints_len] at this
    rw [ints_get _ _ hj] at hv
    rw [show (⟨gb, so, none⟩ : Addr).add j = ⟨gb, so + j, none⟩ from by unfold Addr.add; split <;> simp_all, hf j hj]
    exact hv)
   (fun j hj => by
    rw [ints_len] at hj
    obtain ⟨u, hu⟩ := hcell j hj
    rw [h.cell hmem hu]; rfl)
   (fun j hj => by
    rw [ints_len] at hj
    obtain ⟨u, hu⟩ := hcell j hj
    exact h.free hmem hu)
   (List.all_eq_true.1 (ints_all _ _ _))
 rw [ints_len] at hr
 clear h hk hf hm hcell hmem
 unfold execOp
 simp only [ho, resolve, invoke, builtin, Sem.run_bind, Sem.run_pure, Result.andThen_ok, List.map_toArray, List.map_cons, List.map_nil, hx, hy, hr]
 rfl
theorem ex_mk1 (ho : o.op = .makeSlice 51 x y) (hx : ρ x = .int .i64 1) (hy : ρ y = .int .i64 1) : (execOp ρ o).run Tryz.prog w = .ok (.value (.slice (some ⟨w.heap.size, 0, none⟩) 1 1)) (w.alloc (.cells (zH .u8 (fun _ => 0) 1).toArray 5)) := by
 simp only [execOp, ho, hx, hy]
 kernel_rfl
theorem ex_mk104 (ho : o.op = .alloc 104) : (execOp ρ o).run Tryz.prog w = .ok (.value (.pointer (some ⟨w.heap.size, 0, none⟩))) (w.alloc (.cells ([Value.int .i64 0, Value.int .i64 0, Value.int .i64 0] : List Value).toArray 104)) := by
 simp only [execOp, ho]
 go_simp
end
set_option maxHeartbeats 2000000 in
theorem fresh_nil (p : Option Addr) (c : Nat) (w : World) :
  Calls Tryz.prog 57 #[.slice p 0 c] w (Rt w (.slice none 0 0)) := by
 have H0 : Hid (_ ∧ _) := ⟨Mm.nil w, Below.refl w.heap.size w⟩
 go_enter Tryz.func57, Tryz.ntmps57
 refine wp_seq ?_
 refine zN (l := [0]) rfl (fun u0 hu0 => ?_)
 have H1 : Hid (Mm u0 [] ∧ Below w.heap.size w u0) := by rw [hu0]; exact H0
 clear hu0 H0
 refine zA (d := 2) (v := .slice none 0 0) (w' := u0) rfl rfl rfl (rfl) ?_
 simp only [Act.put, sa, sz, ss]
 refine zC (zB ?_)
 refine wp_seq (wp_seq ?_)
 refine zD (l := [0, 1, 2]) rfl ?_
 refine zA (d := 4) (v := .slice p 0 c) (w' := u0) rfl rfl rfl (rfl) ?_
 simp only [Act.put, sa, sz, ss]
 refine zA (d := 5) (v := .int .i64 0) (w' := u0) rfl rfl rfl (by go_simp) ?_
 simp only [Act.put, sa, sz, ss]
 refine zA (d := 6) (v := .bool true) (w' := u0) rfl rfl rfl (by kernel_rfl) ?_
 simp only [Act.put, sa, sz, ss]
 refine zC (zB ?_)
 refine wp_cond_true rfl (wp_seq ?_)
 refine zD (l := [0]) rfl ?_
 refine zA (d := 2) (v := .slice none 0 0) (w' := u0) rfl rfl rfl (rfl) ?_
 simp only [Act.put, sa, sz, ss]
 refine zC (zB (wp_ret ?_))
 repeat (first | refine zL ?_ | refine zK ?_)
 refine bodyPost_ret (v := .slice none 0 0) (by simp [results, Tryz.results57, go_sem, *]) rfl ?_
 exact ⟨rfl, H1.out.2⟩
set_option maxHeartbeats 2000000 in
theorem fresh_one (gb o c bb : Nat) (cs : List Value) (hcs0 : cs[o]? = some (Z8 bb)) (w : World) (hm : Mm w [(gb, cs)]) :
  Calls Tryz.prog 57 #[.slice (some ⟨gb, o, none⟩) 1 c] w fun e w' => ∃ g, e = .returned (.slice (some ⟨g, 0, none⟩) 1 1) ∧ Below w.heap.size w w' := by
 have H0 : Hid (_ ∧ _) := ⟨hm, Below.refl w.heap.size w⟩
 clear hm
 have hcs : Hid _ := hcs0
 clear hcs0
 go_enter Tryz.func57, Tryz.ntmps57
 refine wp_seq ?_
 refine zN (l := [0]) rfl (fun u0 hu0 => ?_)
 have H1 : Hid (Mm u0 [(gb, cs)] ∧ Below w.heap.size w u0) := by rw [hu0]; exact H0
 clear hu0 H0
 refine zA (d := 2) (v := .slice none 0 0) (w' := u0) rfl rfl rfl (rfl) ?_
 simp only [Act.put, sa, sz, ss]
 refine zC (zB ?_)
 refine wp_seq (wp_seq ?_)
 refine zD (l := [0, 1, 2]) rfl ?_
 refine zA (d := 4) (v := .slice (some ⟨gb, o, none⟩) 1 c) (w' := u0) rfl rfl rfl (rfl) ?_
 simp only [Act.put, sa, sz, ss]
 refine zA (d := 5) (v := .int .i64 1) (w' := u0) rfl rfl rfl (by go_simp) ?_
 simp only [Act.put, sa, sz, ss]
 refine zA (d := 6) (v := .bool false) (w' := u0) rfl rfl rfl (by kernel_rfl) ?_
 simp only [Act.put, sa, sz, ss]
 refine zC (zB ?_)
 refine wp_cond_false rfl (wp_skip ?_)
 refine zB (wp_seq ?_)
 refine zD (l := [0, 1, 2, 3]) rfl ?_
 refine zA (d := 7) (v := .slice (some ⟨gb, o, none⟩) 1 c) (w' := u0) rfl rfl rfl (rfl) ?_
 simp only [Act.put, sa, sz, ss]
 refine zA (d := 8) (v := .int .i64 1) (w' := u0) rfl rfl rfl (by go_simp) ?_
 simp only [Act.put, sa, sz, ss]
 refine zA (d := 9) (v := .slice (some ⟨u0.heap.size, 0, none⟩) 1 1) (w' := (u0.alloc (.cells (zH .u8 (fun _ => 0) 1 : List Value).toArray 5))) rfl rfl rfl (ex_mk1 rfl rfl rfl) ?_
 simp only [Act.put, sa, sz, ss]
 have o_Js2 : Hid (w.heap.size ≤ u0.heap.size) := H1.out.2.size
 have H2 : Hid (Mm (u0.alloc (.cells (zH .u8 (fun _ => 0) 1 : List Value).toArray 5)) ((u0.heap.size, zH .u8 (fun _ => 0) 1) :: [(gb, cs)]) ∧ Below w.heap.size w (u0.alloc (.cells (zH .u8 (fun _ => 0) 1 : List Value).toArray 5))) := ⟨H1.out.1.alloc _ 5 rfl, H1.out.2.trans (((Below.refl _ _).alloc (Nat.le_refl _) _).mono H1.out.2.size)⟩
 clear H1
 generalize hgw : u0.alloc (.cells (zH .u8 (fun _ => 0) 1 : List Value).toArray 5) = w2 at H2 ⊢
 clear hgw
 generalize u0.heap.size = Js2 at o_Js2 H2 ⊢
 refine zA (d := 3) (v := .slice (some ⟨Js2, 0, none⟩) 1 1) (w' := w2) rfl rfl rfl (rfl) ?_
 simp only [Act.put, sa, sz, ss]
 refine zC (zB (wp_seq ?_))
 refine zD (l := [0, 1, 2]) rfl ?_
 refine zA (d := 10) (v := .slice (some ⟨Js2, 0, none⟩) 1 1) (w' := w2) rfl rfl rfl (rfl) ?_
 simp only [Act.put, sa, sz, ss]
 refine zA (d := 11) (v := .slice (some ⟨gb, o, none⟩) 1 c) (w' := w2) rfl rfl rfl (rfl) ?_
 simp only [Act.put, sa, sz, ss]
 refine zA (d := 12) (v := .int .i64 1) (w' := (w2.setCells Js2 0 (zH .u8 (fun _ => bb) 1))) rfl rfl rfl (ex_copyR (F := fun _ => bb) (mm := 1) H2.out.1 0 rfl (fun j hj => by obtain rfl : j = 0 := (by omega); exact H2.out.1.get 1 rfl o hcs.out) rfl (by decide) rfl rfl rfl) ?_
 simp only [Act.put, sa, sz, ss]
 have H3 : Hid (Mm (w2.setCells Js2 0 (zH .u8 (fun _ => bb) 1)) [(gb, cs)] ∧ Below w.heap.size w (w2.setCells Js2 0 (zH .u8 (fun _ => bb) 1))) := ⟨(H2.out.1.put 0 (off := 0) (vs := zH .u8 (fun _ => bb) 1) rfl (by simp [ints_len])).tail, below_setCells _ o_Js2.out _ _ _ H2.out.2⟩
 clear H2
 generalize hgw : World.setCells _ _ _ _ = w3 at H3 ⊢
 clear hgw
 refine zC (zB (wp_seq ?_))
 refine zD (l := [0, 1]) rfl ?_
 refine zA (d := 13) (v := .slice (some ⟨Js2, 0, none⟩) 1 1) (w' := w3) rfl rfl rfl (rfl) ?_
 simp only [Act.put, sa, sz, ss]
 refine zA (d := 2) (v := .slice (some ⟨Js2, 0, none⟩) 1 1) (w' := w3) rfl rfl rfl (rfl) ?_
 simp only [Act.put, sa, sz, ss]
 refine zC (zB (wp_ret ?_))
 repeat (first | refine zL ?_ | refine zK ?_)
 refine bodyPost_ret (v := .slice (some ⟨Js2, 0, none⟩) 1 1) (by simp [results, Tryz.results57, go_sem, *]) rfl ?_
 exact ⟨_, rfl, H3.out.2⟩
theorem number0 (gr gb o m c mo : Nat) (cs : List Value) (hcs : cs[o]? = some (Z8 0)) (h1 : 1 ≤ m) (hc : m ≤ c) (h2 : 1 < c) (hmo : mo < 9223372036854775808) (w : World) (hm : Mm w [(gr, [Value.slice (some ⟨gb, o, none⟩) m c, Value.bool false]), (gb, cs)]) :
  Calls Tryz.prog 44 #[PT gr 0, .int .i64 1, .int .i64 ((mo : Nat) : Int)] w fun e w' => e = .returned (.int .i64 0) ∧ Mm w' [(gr, [Value.slice (some ⟨gb, o + 1, none⟩) (m - 1) (c - 1), Value.bool false])] ∧ Kp gr w w' :=
 number_at gr gb o m c 1 mo (lb [0]) cs h1 (by decide) hc hmo (lb_lt _ (by decide)) (nv_bd (lb_lt _ (by decide)) (by decide)) (fun i hi => by obtain rfl : i = 0 := (by omega); exact hcs) (by show 0 ≤ mo; exact Nat.zero_le _) h2 w hm
theorem numberE (gr gb o c mo : Nat) (cs : List Value) (hcs : cs[o]? = some (Z8 0)) (hc : 1 ≤ c) (hmo : mo < 9223372036854775808) (w : World) (hm : Mm w [(gr, [Value.slice (some ⟨gb, o, none⟩) 1 c, Value.bool false]), (gb, cs)]) :
  Calls Tryz.prog 44 #[PT gr 0, .int .i64 1, .int .i64 ((mo : Nat) : Int)] w fun e w' => e = .returned (.int .i64 0) ∧ Mm w' [(gr, [sdrop (.slice (some ⟨gb, o, none⟩) 1 c) 1, Value.bool false])] ∧ Kp gr w w' :=
 number_ok gr gb o 1 c 1 mo (lb [0]) cs (by decide) (by decide) hc hmo (lb_lt _ (by decide)) (nv_bd (lb_lt _ (by decide)) (by decide)) (fun i hi => by obtain rfl : i = 0 := (by omega); exact hcs) (by show 0 ≤ mo; exact Nat.zero_le _) w hm
set_option maxHeartbeats 2000000 in
theorem manyI_0 (gr gb o m c mo : Nat) (fv : Value) (cs : List Value) (hcs0 : cs[o]? = some (Z8 0)) (h1 : 1 ≤ m) (hc : m ≤ c) (h2 : 1 < c) (hmo : mo < 9223372036854775808) (w : World) (hm : Mm w [(gr, [Value.slice (some ⟨gb, o, none⟩) m c, Value.bool false]), (gb, cs)]) :
  Calls Tryz.prog 59 #[PT gr 0, .int .i64 1, .int .i64 ((mo : Nat) : Int), fv] w fun e w' => e = .returned (.slice none 0 0) ∧ Mm w' [(gr, [Value.slice (some ⟨gb, o + 1, none⟩) (m - 1) (c - 1), Value.bool false])] ∧ Kp gr w w' := by
 have H0 : Hid (_ ∧ _) := ⟨hm, Kp.refl gr w⟩
 clear hm
 have hcs : Hid _ := hcs0
 clear hcs0
 go_enter Tryz.func59, Tryz.ntmps59
 refine wp_seq ?_
 refine zN (l := [0]) rfl (fun u0 hu0 => ?_)
 have H1 : Hid (Mm u0 [(gr, [Value.slice (some ⟨gb, o, none⟩) m c, Value.bool false]), (gb, cs)] ∧ Kp gr w u0) := by rw [hu0]; exact H0
 clear hu0 H0
 refine zA (d := 8) (v := .slice none 0 0) (w' := u0) rfl rfl rfl (rfl) ?_
 simp only [Act.put, sa, sz, ss]
 refine zC (zB (wp_seq ?_))
 refine zD (l := [0]) rfl ?_
 refine zA (d := 9) (v := .slice none 0 0) (w' := u0) rfl rfl rfl (rfl) ?_
 simp only [Act.put, sa, sz, ss]
 refine zC (zB ?_)
 refine wp_seq (wp_seq ?_)
 refine zD (l := [0, 1, 2, 3, 4]) rfl ?_
 refine zA (d := 10) (v := PT gr 0) (w' := u0) rfl rfl rfl (rfl) ?_
 simp only [Act.put, sa, sz, ss]
 refine zA (d := 11) (v := .int .i64 1) (w' := u0) rfl rfl rfl (rfl) ?_
 simp only [Act.put, sa, sz, ss]
 refine zA (d := 12) (v := .int .i64 ((mo : Nat) : Int)) (w' := u0) rfl rfl rfl (rfl) ?_
 simp only [Act.put, sa, sz, ss]
 refine zF (d := 13) (R := fun vv w' => vv = .int .i64 0 ∧ Mm w' [(gr, [Value.slice (some ⟨gb, o + 1, none⟩) (m - 1) (c - 1), Value.bool false])] ∧ Kp gr u0 w') rfl rfl rfl (zG (args := #[PT gr 0, .int .i64 1, .int .i64 ((mo : Nat) : Int)]) rfl call44 rfl (mpn rfl)) (Calls.mono (number0 gr gb o m c mo cs hcs.out (by omega) (by omega) (by omega) (by omega) u0 H1.out.1) (fun e w2 hh => ⟨_, hh.1, rfl, hh.2⟩)) ?_
 rintro _ w2 ⟨rfl, hn, hp⟩
 have H2 : Hid (Mm w2 [(gr, [Value.slice (some ⟨gb, o + 1, none⟩) (m - 1) (c - 1), Value.bool false]), (gb, cs)] ∧ Kp gr w w2) := ⟨H1.out.1.change 0 rfl hp hn, H1.out.2.join hp⟩
 clear hn hp
 clear H1
 simp only [Act.put, sa, sz, ss]
 refine zA (d := 14) (v := .int .i64 0) (w' := w2) rfl rfl rfl (rfl) ?_
 simp only [Act.put, sa, sz, ss]
 refine zC (zB (wp_block ?_))
 refine wp_loop_rounds 1 ?_
 refine zU (n := 0) ?_
 refine wp_seq ?_
 refine zD (l := [0]) rfl ?_
 refine zA (d := 15) (v := .bool false) (w' := w2) rfl rfl rfl (by kernel_rfl) ?_
 simp only [Act.put, sa, sz, ss]
 refine zC (zB ?_)
 refine wp_seq (wp_cond_false rfl ?_)
 refine wp_exit ?_
 repeat refine zX ?_
 refine zT ?_
 refine zB (wp_seq ?_)
 refine zD (l := [0, 1]) rfl ?_
 refine zA (d := 26) (v := .slice none 0 0) (w' := w2) rfl rfl rfl (rfl) ?_
 simp only [Act.put, sa, sz, ss]
 refine zA (d := 8) (v := .slice none 0 0) (w' := w2) rfl rfl rfl (rfl) ?_
 simp only [Act.put, sa, sz, ss]
 refine zC (zB (wp_ret ?_))
 repeat (first | refine zL ?_ | refine zK ?_)
 refine bodyPost_ret (v := .slice none 0 0) (by simp [results, Tryz.results59, go_sem, *]) rfl ?_
 exact ⟨rfl, H2.out.1.one 0 rfl, H2.out.2⟩
set_option maxHeartbeats 2000000 in
theorem manyN_0 (gr gb o m c mo : Nat) (fv : Value) (cs : List Value) (hcs0 : cs[o]? = some (Z8 0)) (h1 : 1 ≤ m) (hc : m ≤ c) (h2 : 1 < c) (hmo : mo < 9223372036854775808) (w : World) (hm : Mm w [(gr, [Value.slice (some ⟨gb, o, none⟩) m c, Value.bool false]), (gb, cs)]) :
  Calls Tryz.prog 61 #[PT gr 0, .int .i64 1, .int .i64 ((mo : Nat) : Int), fv] w fun e w' => e = .returned (.slice none 0 0) ∧ Mm w' [(gr, [Value.slice (some ⟨gb, o + 1, none⟩) (m - 1) (c - 1), Value.bool false])] ∧ Kp gr w w' := by
 have H0 : Hid (_ ∧ _) := ⟨hm, Kp.refl gr w⟩
 clear hm
 have hcs : Hid _ := hcs0
 clear hcs0
 go_enter Tryz.func61, Tryz.ntmps61
 refine wp_seq ?_
 refine zN (l := [0]) rfl (fun u0 hu0 => ?_)
 have H1 : Hid (Mm u0 [(gr, [Value.slice (some ⟨gb, o, none⟩) m c, Value.bool false]), (gb, cs)] ∧ Kp gr w u0) := by rw [hu0]; exact H0
 clear hu0 H0
 refine zA (d := 8) (v := .slice none 0 0) (w' := u0) rfl rfl rfl (rfl) ?_
 simp only [Act.put, sa, sz, ss]
 refine zC (zB (wp_seq ?_))
 refine zD (l := [0]) rfl ?_
 refine zA (d := 9) (v := .slice none 0 0) (w' := u0) rfl rfl rfl (rfl) ?_
 simp only [Act.put, sa, sz, ss]
 refine zC (zB ?_)
 refine wp_seq (wp_seq ?_)
 refine zD (l := [0, 1, 2, 3, 4]) rfl ?_
 refine zA (d := 10) (v := PT gr 0) (w' := u0) rfl rfl rfl (rfl) ?_
 simp only [Act.put, sa, sz, ss]
 refine zA (d := 11) (v := .int .i64 1) (w' := u0) rfl rfl rfl (rfl) ?_
 simp only [Act.put, sa, sz, ss]
 refine zA (d := 12) (v := .int .i64 ((mo : Nat) : Int)) (w' := u0) rfl rfl rfl (rfl) ?_
 simp only [Act.put, sa, sz, ss]
 refine zF (d := 13) (R := fun vv w' => vv = .int .i64 0 ∧ Mm w' [(gr, [Value.slice (some ⟨gb, o + 1, none⟩) (m - 1) (c - 1), Value.bool false])] ∧ Kp gr u0 w') rfl rfl rfl (zG (args := #[PT gr 0, .int .i64 1, .int .i64 ((mo : Nat) : Int)]) rfl call44 rfl (mpn rfl)) (Calls.mono (number0 gr gb o m c mo cs hcs.out (by omega) (by omega) (by omega) (by omega) u0 H1.out.1) (fun e w2 hh => ⟨_, hh.1, rfl, hh.2⟩)) ?_
 rintro _ w2 ⟨rfl, hn, hp⟩
 have H2 : Hid (Mm w2 [(gr, [Value.slice (some ⟨gb, o + 1, none⟩) (m - 1) (c - 1), Value.bool false]), (gb, cs)] ∧ Kp gr w w2) := ⟨H1.out.1.change 0 rfl hp hn, H1.out.2.join hp⟩
 clear hn hp
 clear H1
 simp only [Act.put, sa, sz, ss]
 refine zA (d := 14) (v := .int .i64 0) (w' := w2) rfl rfl rfl (rfl) ?_
 simp only [Act.put, sa, sz, ss]
 refine zC (zB (wp_block ?_))
 refine wp_loop_rounds 1 ?_
 refine zU (n := 0) ?_
 refine wp_seq ?_
 refine zD (l := [0]) rfl ?_
 refine zA (d := 15) (v := .bool false) (w' := w2) rfl rfl rfl (by kernel_rfl) ?_
 simp only [Act.put, sa, sz, ss]
 refine zC (zB ?_)
 refine wp_seq (wp_cond_false rfl ?_)
 refine wp_exit ?_
 repeat refine zX ?_
 refine zT ?_
 refine zB (wp_seq ?_)
 refine zD (l := [0, 1]) rfl ?_
 refine zA (d := 26) (v := .slice none 0 0) (w' := w2) rfl rfl rfl (rfl) ?_
 simp only [Act.put, sa, sz, ss]
 refine zA (d := 8) (v := .slice none 0 0) (w' := w2) rfl rfl rfl (rfl) ?_
 simp only [Act.put, sa, sz, ss]
 refine zC (zB (wp_ret ?_))
 repeat (first | refine zL ?_ | refine zK ?_)
 refine bodyPost_ret (v := .slice none 0 0) (by simp [results, Tryz.results61, go_sem, *]) rfl ?_
 exact ⟨rfl, H2.out.1.one 0 rfl, H2.out.2⟩
set_option maxHeartbeats 2000000 in
theorem manyK_0 (gr gb o m c mo : Nat) (fv : Value) (cs : List Value) (hcs0 : cs[o]? = some (Z8 0)) (h1 : 1 ≤ m) (hc : m ≤ c) (h2 : 1 < c) (hmo : mo < 9223372036854775808) (w : World) (hm : Mm w [(gr, [Value.slice (some ⟨gb, o, none⟩) m c, Value.bool false]), (gb, cs)]) :
  Calls Tryz.prog 64 #[PT gr 0, .int .i64 1, .int .i64 ((mo : Nat) : Int), fv] w fun e w' => e = .returned (.slice none 0 0) ∧ Mm w' [(gr, [Value.slice (some ⟨gb, o + 1, none⟩) (m - 1) (c - 1), Value.bool false])] ∧ Kp gr w w' := by
 have H0 : Hid (_ ∧ _) := ⟨hm, Kp.refl gr w⟩
 clear hm
 have hcs : Hid _ := hcs0
 clear hcs0
 go_enter Tryz.func64, Tryz.ntmps64
 refine wp_seq ?_
 refine zN (l := [0]) rfl (fun u0 hu0 => ?_)
 have H1 : Hid (Mm u0 [(gr, [Value.slice (some ⟨gb, o, none⟩) m c, Value.bool false]), (gb, cs)] ∧ Kp gr w u0) := by rw [hu0]; exact H0
 clear hu0 H0
 refine zA (d := 8) (v := .slice none 0 0) (w' := u0) rfl rfl rfl (rfl) ?_
 simp only [Act.put, sa, sz, ss]
 refine zC (zB (wp_seq ?_))
 refine zD (l := [0]) rfl ?_
 refine zA (d := 9) (v := .slice none 0 0) (w' := u0) rfl rfl rfl (rfl) ?_
 simp only [Act.put, sa, sz, ss]
 refine zC (zB ?_)
 refine wp_seq (wp_seq ?_)
 refine zD (l := [0, 1, 2, 3, 4]) rfl ?_
 refine zA (d := 10) (v := PT gr 0) (w' := u0) rfl rfl rfl (rfl) ?_
 simp only [Act.put, sa, sz, ss]
 refine zA (d := 11) (v := .int .i64 1) (w' := u0) rfl rfl rfl (rfl) ?_
 simp only [Act.put, sa, sz, ss]
 refine zA (d := 12) (v := .int .i64 ((mo : Nat) : Int)) (w' := u0) rfl rfl rfl (rfl) ?_
 simp only [Act.put, sa, sz, ss]
 refine zF (d := 13) (R := fun vv w' => vv = .int .i64 0 ∧ Mm w' [(gr, [Value.slice (some ⟨gb, o + 1, none⟩) (m - 1) (c - 1), Value.bool false])] ∧ Kp gr u0 w') rfl rfl rfl (zG (args := #[PT gr 0, .int .i64 1, .int .i64 ((mo : Nat) : Int)]) rfl call44 rfl (mpn rfl)) (Calls.mono (number0 gr gb o m c mo cs hcs.out (by omega) (by omega) (by omega) (by omega) u0 H1.out.1) (fun e w2 hh => ⟨_, hh.1, rfl, hh.2⟩)) ?_
 rintro _ w2 ⟨rfl, hn, hp⟩
 have H2 : Hid (Mm w2 [(gr, [Value.slice (some ⟨gb, o + 1, none⟩) (m - 1) (c - 1), Value.bool false]), (gb, cs)] ∧ Kp gr w w2) := ⟨H1.out.1.change 0 rfl hp hn, H1.out.2.join hp⟩
 clear hn hp
 clear H1
 simp only [Act.put, sa, sz, ss]
 refine zA (d := 14) (v := .int .i64 0) (w' := w2) rfl rfl rfl (rfl) ?_
 simp only [Act.put, sa, sz, ss]
 refine zC (zB (wp_block ?_))
 refine wp_loop_rounds 1 ?_
 refine zU (n := 0) ?_
 refine wp_seq ?_
 refine zD (l := [0]) rfl ?_
 refine zA (d := 15) (v := .bool false) (w' := w2) rfl rfl rfl (by kernel_rfl) ?_
 simp only [Act.put, sa, sz, ss]
 refine zC (zB ?_)
 refine wp_seq (wp_cond_false rfl ?_)
 refine wp_exit ?_
 repeat refine zX ?_
 refine zT ?_
 refine zB (wp_seq ?_)
 refine zD (l := [0, 1]) rfl ?_
 refine zA (d := 26) (v := .slice none 0 0) (w' := w2) rfl rfl rfl (rfl) ?_
 simp only [Act.put, sa, sz, ss]
 refine zA (d := 8) (v := .slice none 0 0) (w' := w2) rfl rfl rfl (rfl) ?_
 simp only [Act.put, sa, sz, ss]
 refine zC (zB (wp_ret ?_))
 repeat (first | refine zL ?_ | refine zK ?_)
 refine bodyPost_ret (v := .slice none 0 0) (by simp [results, Tryz.results64, go_sem, *]) rfl ?_
 exact ⟨rfl, H2.out.1.one 0 rfl, H2.out.2⟩
set_option maxHeartbeats 2000000 in
theorem manyS_0 (gr gb o m c mo : Nat) (fv : Value) (cs : List Value) (hcs0 : cs[o]? = some (Z8 0)) (h1 : 1 ≤ m) (hc : m ≤ c) (h2 : 1 < c) (hmo : mo < 9223372036854775808) (w : World) (hm : Mm w [(gr, [Value.slice (some ⟨gb, o, none⟩) m c, Value.bool false]), (gb, cs)]) :
  Calls Tryz.prog 69 #[PT gr 0, .int .i64 1, .int .i64 ((mo : Nat) : Int), fv] w fun e w' => e = .returned (.slice none 0 0) ∧ Mm w' [(gr, [Value.slice (some ⟨gb, o + 1, none⟩) (m - 1) (c - 1), Value.bool false])] ∧ Kp gr w w' := by
 have H0 : Hid (_ ∧ _) := ⟨hm, Kp.refl gr w⟩
 clear hm
 have hcs : Hid _ := hcs0
 clear hcs0
 go_enter Tryz.func69, Tryz.ntmps69
 refine wp_seq ?_
 refine zN (l := [0]) rfl (fun u0 hu0 => ?_)
 have H1 : Hid (Mm u0 [(gr, [Value.slice (some ⟨gb, o, none⟩) m c, Value.bool false]), (gb, cs)] ∧ Kp gr w u0) := by rw [hu0]; exact H0
 clear hu0 H0
 refine zA (d := 8) (v := .slice none 0 0) (w' := u0) rfl rfl rfl (rfl) ?_
 simp only [Act.put, sa, sz, ss]
 refine zC (zB (wp_seq ?_))
 refine zD (l := [0]) rfl ?_
 refine zA (d := 9) (v := .slice none 0 0) (w' := u0) rfl rfl rfl (rfl) ?_
 simp only [Act.put, sa, sz, ss]
 refine zC (zB ?_)
 refine wp_seq (wp_seq ?_)
 refine zD (l := [0, 1, 2, 3, 4]) rfl ?_
 refine zA (d := 10) (v := PT gr 0) (w' := u0) rfl rfl rfl (rfl) ?_
 simp only [Act.put, sa, sz, ss]
 refine zA (d := 11) (v := .int .i64 1) (w' := u0) rfl rfl rfl (rfl) ?_
 simp only [Act.put, sa, sz, ss]
 refine zA (d := 12) (v := .int .i64 ((mo : Nat) : Int)) (w' := u0) rfl rfl rfl (rfl) ?_
 simp only [Act.put, sa, sz, ss]
 refine zF (d := 13) (R := fun vv w' => vv = .int .i64 0 ∧ Mm w' [(gr, [Value.slice (some ⟨gb, o + 1, none⟩) (m - 1) (c - 1), Value.bool false])] ∧ Kp gr u0 w') rfl rfl rfl (zG (args := #[PT gr 0, .int .i64 1, .int .i64 ((mo : Nat) : Int)]) rfl call44 rfl (mpn rfl)) (Calls.mono (number0 gr gb o m c mo cs hcs.out (by omega) (by omega) (by omega) (by omega) u0 H1.out.1) (fun e w2 hh => ⟨_, hh.1, rfl, hh.2⟩)) ?_
 rintro _ w2 ⟨rfl, hn, hp⟩
 have H2 : Hid (Mm w2 [(gr, [Value.slice (some ⟨gb, o + 1, none⟩) (m - 1) (c - 1), Value.bool false]), (gb, cs)] ∧ Kp gr w w2) := ⟨H1.out.1.change 0 rfl hp hn, H1.out.2.join hp⟩
 clear hn hp
 clear H1
 simp only [Act.put, sa, sz, ss]
 refine zA (d := 14) (v := .int .i64 0) (w' := w2) rfl rfl rfl (rfl) ?_
 simp only [Act.put, sa, sz, ss]
 refine zC (zB (wp_block ?_))
 refine wp_loop_rounds 1 ?_
 refine zU (n := 0) ?_
 refine wp_seq ?_
 refine zD (l := [0]) rfl ?_
 refine zA (d := 15) (v := .bool false) (w' := w2) rfl rfl rfl (by kernel_rfl) ?_
 simp only [Act.put, sa, sz, ss]
 refine zC (zB ?_)
 refine wp_seq (wp_cond_false rfl ?_)
 refine wp_exit ?_
 repeat refine zX ?_
 refine zT ?_
 refine zB (wp_seq ?_)
 refine zD (l := [0, 1]) rfl ?_
 refine zA (d := 26) (v := .slice none 0 0) (w' := w2) rfl rfl rfl (rfl) ?_
 simp only [Act.put, sa, sz, ss]
 refine zA (d := 8) (v := .slice none 0 0) (w' := w2) rfl rfl rfl (rfl) ?_
 simp only [Act.put, sa, sz, ss]
 refine zC (zB (wp_ret ?_))
 repeat (first | refine zL ?_ | refine zK ?_)
 refine bodyPost_ret (v := .slice none 0 0) (by simp [results, Tryz.results69, go_sem, *]) rfl ?_
 exact ⟨rfl, H2.out.1.one 0 rfl, H2.out.2⟩
set_option maxHeartbeats 2000000 in
theorem manyS_E (gr gb o c mo : Nat) (fv : Value) (cs : List Value) (hcs0 : cs[o]? = some (Z8 0)) (hc : 1 ≤ c) (hmo : mo < 9223372036854775808) (w : World) (hm : Mm w [(gr, [Value.slice (some ⟨gb, o, none⟩) 1 c, Value.bool false]), (gb, cs)]) :
  Calls Tryz.prog 69 #[PT gr 0, .int .i64 1, .int .i64 ((mo : Nat) : Int), fv] w fun e w' => e = .returned (.slice none 0 0) ∧ Mm w' [(gr, [sdrop (.slice (some ⟨gb, o, none⟩) 1 c) 1, Value.bool false])] ∧ Kp gr w w' := by
 have H0 : Hid (_ ∧ _) := ⟨hm, Kp.refl gr w⟩
 clear hm
 have hcs : Hid _ := hcs0
 clear hcs0
 go_enter Tryz.func69, Tryz.ntmps69
 refine wp_seq ?_
 refine zN (l := [0]) rfl (fun u0 hu0 => ?_)
 have H1 : Hid (Mm u0 [(gr, [Value.slice (some ⟨gb, o, none⟩) 1 c, Value.bool false]), (gb, cs)] ∧ Kp gr w u0) := by rw [hu0]; exact H0
 clear hu0 H0
 refine zA (d := 8) (v := .slice none 0 0) (w' := u0) rfl rfl rfl (rfl) ?_
 simp only [Act.put, sa, sz, ss]
 refine zC (zB (wp_seq ?_))
 refine zD (l := [0]) rfl ?_
 refine zA (d := 9) (v := .slice none 0 0) (w' := u0) rfl rfl rfl (rfl) ?_
 simp only [Act.put, sa, sz, ss]
 refine zC (zB ?_)
 refine wp_seq (wp_seq ?_)
 refine zD (l := [0, 1, 2, 3, 4]) rfl ?_
 refine zA (d := 10) (v := PT gr 0) (w' := u0) rfl rfl rfl (rfl) ?_
 simp only [Act.put, sa, sz, ss]
 refine zA (d := 11) (v := .int .i64 1) (w' := u0) rfl rfl rfl (rfl) ?_
 simp only [Act.put, sa, sz, ss]
 refine zA (d := 12) (v := .int .i64 ((mo : Nat) : Int)) (w' := u0) rfl rfl rfl (rfl) ?_
 simp only [Act.put, sa, sz, ss]
 refine zF (d := 13) (R := fun vv w' => vv = .int .i64 0 ∧ Mm w' [(gr, [sdrop (.slice (some ⟨gb, o, none⟩) 1 c) 1, Value.bool false])] ∧ Kp gr u0 w') rfl rfl rfl (zG (args := #[PT gr 0, .int .i64 1, .int .i64 ((mo : Nat) : Int)]) rfl call44 rfl (mpn rfl)) (Calls.mono (numberE gr gb o c mo cs hcs.out (by omega) (by omega) u0 H1.out.1) (fun e w2 hh => ⟨_, hh.1, rfl, hh.2⟩)) ?_
 rintro _ w2 ⟨rfl, hn, hp⟩
 have H2 : Hid (Mm w2 [(gr, [sdrop (.slice (some ⟨gb, o, none⟩) 1 c) 1, Value.bool false]), (gb, cs)] ∧ Kp gr w w2) := ⟨H1.out.1.change 0 rfl hp hn, H1.out.2.join hp⟩
 clear hn hp
 clear H1
 simp only [Act.put, sa, sz, ss]
 refine zA (d := 14) (v := .int .i64 0) (w' := w2) rfl rfl rfl (rfl) ?_
 simp only [Act.put, sa, sz, ss]
 refine zC (zB (wp_block ?_))
 refine wp_loop_rounds 1 ?_
 refine zU (n := 0) ?_
 refine wp_seq ?_
 refine zD (l := [0]) rfl ?_
 refine zA (d := 15) (v := .bool false) (w' := w2) rfl rfl rfl (by kernel_rfl) ?_
 simp only [Act.put, sa, sz, ss]
 refine zC (zB ?_)
 refine wp_seq (wp_cond_false rfl ?_)
 refine wp_exit ?_
 repeat refine zX ?_
 refine zT ?_
 refine zB (wp_seq ?_)
 refine zD (l := [0, 1]) rfl ?_
 refine zA (d := 26) (v := .slice none 0 0) (w' := w2) rfl rfl rfl (rfl) ?_
 simp only [Act.put, sa, sz, ss]
 refine zA (d := 8) (v := .slice none 0 0) (w' := w2) rfl rfl rfl (rfl) ?_
 simp only [Act.put, sa, sz, ss]
 refine zC (zB (wp_ret ?_))
 repeat (first | refine zL ?_ | refine zK ?_)
 refine bodyPost_ret (v := .slice none 0 0) (by simp [results, Tryz.results69, go_sem, *]) rfl ?_
 exact ⟨rfl, H2.out.1.one 0 rfl, H2.out.2⟩
set_option maxHeartbeats 2000000 in
theorem sizesOf_0  (w : World) :
  Calls Tryz.prog 48 #[.int .i64 0] w (Rt w (.agg ([Value.int .i64 32, Value.int .i64 48, Value.int .i64 96]).toArray)) := by
 have H0 : Hid (_ ∧ _) := ⟨Mm.nil w, Below.refl w.heap.size w⟩
 go_enter Tryz.func48, Tryz.ntmps48
 refine wp_seq ?_
 refine zN (l := [0]) rfl (fun u0 hu0 => ?_)
 have H1 : Hid (Mm u0 [] ∧ Below w.heap.size w u0) := by rw [hu0]; exact H0
 clear hu0 H0
 refine zA (d := 2) (v := PT u0.heap.size 0) (w' := (u0.alloc (.cells ([Value.int .i64 0, Value.int .i64 0, Value.int .i64 0] : List Value).toArray 104))) rfl rfl rfl (ex_mk104 rfl) ?_
 simp only [Act.put, sa, sz, ss]
 have o_Js2 : Hid (w.heap.size ≤ u0.heap.size) := H1.out.2.size
 have H2 : Hid (Mm (u0.alloc (.cells ([Value.int .i64 0, Value.int .i64 0, Value.int .i64 0] : List Value).toArray 104)) ((u0.heap.size, [Value.int .i64 0, Value.int .i64 0, Value.int .i64 0]) :: []) ∧ Below w.heap.size w (u0.alloc (.cells ([Value.int .i64 0, Value.int .i64 0, Value.int .i64 0] : List Value).toArray 104))) := ⟨H1.out.1.alloc _ 104 rfl, H1.out.2.trans (((Below.refl _ _).alloc (Nat.le_refl _) _).mono H1.out.2.size)⟩
 clear H1
 generalize hgw : u0.alloc (.cells ([Value.int .i64 0, Value.int .i64 0, Value.int .i64 0] : List Value).toArray 104) = w2 at H2 ⊢
 clear hgw
 generalize u0.heap.size = Js2 at o_Js2 H2 ⊢
 refine zC (zB (wp_seq ?_))
 refine zD (l := [0]) rfl ?_
 refine zA (d := 3) (v := .int .i64 0) (w' := w2) rfl rfl rfl (rfl) ?_
 simp only [Act.put, sa, sz, ss]
 refine zC (zB ?_)
 refine wp_block (wp_seq ?_)
 refine zD (l := [0, 1]) rfl ?_
 refine zA (d := 6) (v := .bool true) (w' := w2) rfl rfl rfl (by kernel_rfl) ?_
 simp only [Act.put, sa, sz, ss]
 refine zA (d := 5) (v := .bool true) (w' := w2) rfl rfl rfl (rfl) ?_
 simp only [Act.put, sa, sz, ss]
 refine zC (zB ?_)
 refine wp_cond_true rfl (wp_seq ?_)
 refine zD (l := [0, 1]) rfl ?_
 refine zA (d := 7) (v := .agg ([Value.int .i64 32, Value.int .i64 48, Value.int .i64 96]).toArray) (w' := w2) rfl rfl rfl (by kernel_rfl) ?_
 simp only [Act.put, sa, sz, ss]
 refine sG rfl (fun h => ex_storeT (vs := [Value.int .i64 32, Value.int .i64 48, Value.int .i64 96]) h 0 rfl rfl rfl rfl As104 rfl (Nat.le_of_ble_eq_true rfl)) 0 [(_, [Value.int .i64 32, Value.int .i64 48, Value.int .i64 96])] H2 o_Js2 fun w3 H3 => ?_
 clear H2
 refine zC (zB (wp_ret ?_))
 repeat (first | refine zL ?_ | refine zK ?_)
 have hf0 := var_T H3.out.1 0 rfl Tryz.isAgg104 As104 rfl
 refine bodyPost_ret (v := .agg ([Value.int .i64 32, Value.int .i64 48, Value.int .i64 96]).toArray) (by simp [results, Tryz.results48, asAddr, hf0]) rfl ?_
 exact ⟨rfl, H3.out.2⟩
end Wi
end Rg
end Go.Proofs.YtahghpkjkfaieaaGreatDoor
end
section
namespace Go.Proofs.YtahghpkjkfaieaaGreatDoor
open Go.RowKit
namespace Rg
namespace Wi
theorem call55 : CO 55 := by intro args w; go_simp
theorem call56 : CO 56 := by intro args w; go_simp
theorem call57 : CO 57 := by intro args w; go_simp
theorem call58 : CO 58 := by intro args w; go_simp
set_option maxRecDepth 100000
set_option maxHeartbeats 2000000 in
theorem clF_ok (gr gb o m c bb : Nat) (cs : List Value) (h40 : ∀ i, i < 4 → cs[o + i]? = some (Z8 (lb [0, 0, 0, 1] i))) (h50 : cs[o + 4]? = some (Z8 bb)) (hm5 : 5 ≤ m) (hc : m ≤ c) (hc5 : 5 < c) (w : World) (hm : Mm w [(gr, [Value.slice (some ⟨gb, o, none⟩) m c, Value.bool false]), (gb, cs)]) :
  Calls Tryz.prog 56 #[PT gr 0] w fun e w' => ∃ g, e = .returned (.slice (some ⟨g, 0, none⟩) 1 1) ∧ Mm w' [(gr, [Value.slice (some ⟨gb, o + 4 + 1, none⟩) (m - 4 - 1) (c - 4 - 1), Value.bool false])] ∧ Kp gr w w' := by
 have H0 : Hid (_ ∧ _) := ⟨hm, Kp.refl gr w⟩
 clear hm
 have h4 : Hid _ := h40
 have h5 : Hid _ := h50
 clear h40 h50
 go_enter Tryz.func56, Tryz.ntmps56
 refine wp_seq ?_
 refine zN (l := [0]) rfl (fun u0 hu0 => ?_)
 have H1 : Hid (Mm u0 [(gr, [Value.slice (some ⟨gb, o, none⟩) m c, Value.bool false]), (gb, cs)] ∧ Kp gr w u0) := by rw [hu0]; exact H0
 clear hu0 H0
 refine zA (d := 1) (v := .slice none 0 0) (w' := u0) rfl rfl rfl (rfl) ?_
 simp only [Act.put, sa, sz, ss]
 refine zC (zB (wp_seq ?_))
 refine zD (l := [0, 1, 2]) rfl ?_
 refine zF (d := 2) (R := fun vv w' => vv = .slice (some ⟨gb, (o + 4), none⟩) 1 (c - 4) ∧ Mm w' [(gr, [Value.slice (some ⟨gb, o + 4 + 1, none⟩) (m - 4 - 1) (c - 4 - 1), Value.bool false])] ∧ Kp gr u0 w') rfl rfl rfl (zG (args := #[PT gr 0, .int .i64 4, .int .i64 1048576]) rfl call58 rfl (mpn rfl)) (Calls.mono (text_at gr gb o m c 4 1048576 (lb [0, 0, 0, 1]) cs (by decide) (by omega) (by decide) (lb_lt _ (by decide)) (nv_bd (lb_lt _ (by decide)) (by decide)) h4.out (by decide) (show 4 + 1 ≤ m by omega) (show 4 + 1 < c by omega) u0 H1.out.1) (fun e w2 hh => ⟨_, hh.1, rfl, hh.2⟩)) ?_
 rintro _ w2 ⟨rfl, hn, hp⟩
 have H2 : Hid (Mm w2 [(gr, [Value.slice (some ⟨gb, o + 4 + 1, none⟩) (m - 4 - 1) (c - 4 - 1), Value.bool false]), (gb, cs)] ∧ Kp gr w w2) := ⟨H1.out.1.change 0 rfl hp hn, H1.out.2.join hp⟩
 clear hn hp
 clear H1
 simp only [Act.put, sa, sz, ss]
 refine zF (d := 3) (R := fun vv w' => ∃ g, vv = .slice (some ⟨g, 0, none⟩) 1 1 ∧ Below w2.heap.size w2 w') rfl rfl rfl (zG (args := #[.slice (some ⟨gb, (o + 4), none⟩) 1 (c - 4)]) rfl call57 rfl (mpn rfl)) (Calls.mono (fresh_one gb (o + 4) (c - 4) bb cs h5.out w2 (H2.out.1.one 1 rfl)) (fun e w2 hh => by obtain ⟨g, he, hb⟩ := hh; exact ⟨_, he, g, rfl, hb⟩)) ?_
 rintro _ w3 ⟨Jf, rfl, hb⟩
 have H3 : Hid (Mm w3 [(gr, [Value.slice (some ⟨gb, o + 4 + 1, none⟩) (m - 4 - 1) (c - 4 - 1), Value.bool false]), (gb, cs)] ∧ Kp gr w w3) := ⟨H2.out.1.below hb, H2.out.2.trans (hb)⟩
 clear hb
 clear H2
 simp only [Act.put, sa, sz, ss]
 refine zA (d := 1) (v := .slice (some ⟨Jf, 0, none⟩) 1 1) (w' := w3) rfl rfl rfl (rfl) ?_
 simp only [Act.put, sa, sz, ss]
 refine zC (zB (wp_ret ?_))
 repeat (first | refine zL ?_ | refine zK ?_)
 refine bodyPost_ret (v := .slice (some ⟨Jf, 0, none⟩) 1 1) (by simp [results, Tryz.results56, go_sem, *]) rfl ?_
 exact ⟨_, rfl, H3.out.1.one 0 rfl, H3.out.2⟩
set_option maxHeartbeats 2000000 in
theorem clF_bad (gr : Nat) (p : Option Addr) (m c : Nat) (hk : m < 4) (w : World) (hm : Mm w [(gr, [Value.slice p m c, Value.bool false])]) :
  Calls Tryz.prog 56 #[PT gr 0] w fun e w' => e = .returned (.slice none 0 0) ∧ Mm w' [(gr, [Value.slice p m c, Value.bool true])] ∧ Kp gr w w' := by
 have H0 : Hid (_ ∧ _) := ⟨hm, Kp.refl gr w⟩
 clear hm
 go_enter Tryz.func56, Tryz.ntmps56
 refine wp_seq ?_
 refine zN (l := [0]) rfl (fun u0 hu0 => ?_)
 have H1 : Hid (Mm u0 [(gr, [Value.slice p m c, Value.bool false])] ∧ Kp gr w u0) := by rw [hu0]; exact H0
 clear hu0 H0
 refine zA (d := 1) (v := .slice none 0 0) (w' := u0) rfl rfl rfl (rfl) ?_
 simp only [Act.put, sa, sz, ss]
 refine zC (zB (wp_seq ?_))
 refine zD (l := [0, 1, 2]) rfl ?_
 refine zF (d := 2) (R := fun vv w' => vv = .slice none 0 0 ∧ Mm w' [(gr, [Value.slice p m c, Value.bool true])] ∧ Kp gr u0 w') rfl rfl rfl (zG (args := #[PT gr 0, .int .i64 4, .int .i64 1048576]) rfl call58 rfl (mpn rfl)) (Calls.mono (text_long gr p m c 4 1048576 (by decide) hk u0 (H1.out.1.one 0 rfl)) (fun e w2 hh => ⟨_, hh.1, rfl, hh.2⟩)) ?_
 rintro _ w2 ⟨rfl, hn, hp⟩
 have H2 : Hid (Mm w2 [(gr, [Value.slice p m c, Value.bool true])] ∧ Kp gr w w2) := ⟨H1.out.1.change 0 rfl hp hn, H1.out.2.join hp⟩
 clear hn hp
 clear H1
 simp only [Act.put, sa, sz, ss]
 refine zF (d := 3) (R := fun vv w' => vv = .slice none 0 0 ∧ Below w2.heap.size w2 w') rfl rfl rfl (zG (args := #[.slice none 0 0]) rfl call57 rfl (mpn rfl)) (Calls.mono (fresh_nil none 0 w2) (fun e w2 hh => ⟨_, hh.1, rfl, hh.2⟩)) ?_
 rintro _ w3 ⟨rfl, hb⟩
 have H3 : Hid (Mm w3 [(gr, [Value.slice p m c, Value.bool true])] ∧ Kp gr w w3) := ⟨H2.out.1.below hb, H2.out.2.trans (hb)⟩
 clear hb
 clear H2
 simp only [Act.put, sa, sz, ss]
 refine zA (d := 1) (v := .slice none 0 0) (w' := w3) rfl rfl rfl (rfl) ?_
 simp only [Act.put, sa, sz, ss]
 refine zC (zB (wp_ret ?_))
 repeat (first | refine zL ?_ | refine zK ?_)
 refine bodyPost_ret (v := .slice none 0 0) (by simp [results, Tryz.results56, go_sem, *]) rfl ?_
 exact ⟨rfl, H3.out.1, H3.out.2⟩
theorem info_sl : ∃ i, Tryz.prog.info? 51 = some i ∧ i.zero = some (.slice none 0 0) ∧ i.size = 1 ∧ i.bytes = 24 := by
 obtain ⟨i, hi⟩ : ∃ i, Tryz.prog.info? 51 = some i := by
  have h : (Tryz.prog.info? 51).isSome = true := by kernel_rfl
  rcases e : Tryz.prog.info? 51 with _ | i
  ·rw [e] at h; cases h
  ·exact ⟨i, rfl⟩
 have h1 : (Tryz.prog.info? 51).map (·.zero) = some (some (.slice none 0 0)) := by kernel_rfl
 have h2 : (Tryz.prog.info? 51).map (·.size) = some 1 := by kernel_rfl
 have h3 : (Tryz.prog.info? 51).map (·.bytes) = some 24 := by kernel_rfl
 rw [hi] at h1 h2 h3
 exact ⟨i, hi, Option.some.inj h1, Option.some.inj h2, Option.some.inj h3⟩
/-- A list of the call's own, while block gr may change. -/
structure Km (gr : Nat) (w : World) (vv : Value) (N : Nat) (w' : World) : Prop where
 k : Kp gr w w'
 own : ∃ n xs, n ≤ N ∧ w'.ownsRow w.heap.size 51 1 vv n xs
theorem Km.start {gr : Nat} {w w' : World} (h : Kp gr w w') : Km gr w (.slice none 0 0) 0 w' := ⟨h, 0, [], Nat.le_refl _, World.ownsRow_nil _ _ _ _⟩
theorem Km.size {gr N : Nat} {w w' : World} {vv : Value} (h : Km gr w vv N w') : w.heap.size ≤ w'.heap.size := h.k.size
theorem Km.kp {gr N : Nat} {w w1 w2 : World} {vv : Value} (h : Km gr w vv N w1) (hk : Kp gr w1 w2) (hlt : gr < w.heap.size) : Km gr w vv N w2 := by
 obtain ⟨n, xs, hn, ho⟩ := h.own
 refine ⟨h.k.join hk, n, xs, hn, ho.1, ?_⟩
 rcases ho.2 with h1 | ⟨g, cap, cur, h1, h2, h3, h4⟩
 ·exact .inl h1
 ·refine .inr ⟨g, cap, cur, h1, h2, ?_, h4⟩
  rw [hk.block g (Array.getElem?_eq_some_iff.1 h3).1 (by omega)]
  exact h3
theorem Km.step {gr N : Nat} {w w1 w2 : World} {vv : Value} (h : Km gr w vv N w1) (hb : Below w1.heap.size w1 w2) (hlt : gr < w.heap.size) : Km gr w vv N w2 := h.kp ((Kp.refl gr w1).trans hb) hlt
theorem Km.app {gr N : Nat} {w w1 : World} {vv : Value} {l : List (Nat × List Value)} (h : Km gr w vv N w1) (hN : N ≤ 1000) (hm : Mm w1 l) (hl : ∀ p ∈ l, p.1 < w.heap.size) {gs : Nat} {u : Value} (hs : w1.cell? ⟨gs, 0, none⟩ = some u) (h1 : u.oneCell' = true) (ty : TypeId) :
  ∃ v' w2, (Builtin.append_ #[57, 57] ty #[vv, .slice (some ⟨gs, 0, none⟩) 1 1]).run Tryz.prog w1 = .ok v' w2 ∧ Km gr w v' (N + 1) w2 ∧ Mm w2 l := by
 obtain ⟨n, xs, hn, ho⟩ := h.own
 obtain ⟨i0, hi, hz0, hz1, hz2⟩ := info_sl
 obtain ⟨v', w2, r1, r2, r3, _, _⟩ := run_append_own_at (P := Tryz.prog) w1 w.heap.size 57 ty 51 i0 (.slice none 0 0) 1 24 Tryz.underlying57 hi hz0 hz1 hz2 rfl (by decide) vv n xs ho ⟨gs, 0, none⟩ 1 1 [u] rfl
  (fun j v hj => by
   rcases j with _ | j
   ·rw [add_z, hs]; exact hj
   ·cases hj) (fun v hv => by rw [List.mem_singleton.1 hv]; exact h1) (by unfold maxLen; omega) (by omega) h.k.size
 have hne : ∀ k, k < w.heap.size → some k ≠ vv.ownBlock := fun k hk e => by
  have := (World.ownsRow.lt ho k e.symm).1
  omega
 refine ⟨v', w2, r1, ⟨⟨r3.os.trans h.k.os, r3.tape.trans h.k.tape, r3.output.trans h.k.output, Nat.le_trans h.k.size r3.size, fun k hk hg => ?_⟩, n + 1, _, by omega, r2⟩, ⟨fun p hp => ?_, hm.nd⟩⟩
 ·rw [r3.block k (Nat.lt_of_lt_of_le hk h.k.size) (hne k hk)]
  exact h.k.block k hk hg
 ·have hq := (hm.blk p hp).1
  have hblk := r3.block p.1 hq (hne p.1 (hl p hp))
  refine ⟨Nat.lt_of_lt_of_le hq r3.size, fun j v hj => ?_⟩
  have := (hm.blk p hp).2 j v hj
  rw [World.cell?_of_block (a := ⟨p.1, j, none⟩) hblk, World.frozen?_of_block (a := ⟨p.1, j, none⟩) hblk]
  exact this
theorem ex_appL {ρ : Operand → Value} {o : Oper} {x y : Operand} {w w2 : World} {vv sv v' : Value} (ho : o.op = .call { callee := .builtin .append, args := #[x, y], argTypes := #[57, 57] }) (hx : ρ x = vv) (hy : ρ y = sv) (hr : (Builtin.append_ #[57, 57] o.type #[vv, sv]).run Tryz.prog w = .ok v' w2) : (execOp ρ o).run Tryz.prog w = .ok (.value v') w2 := by
 unfold execOp
 simp only [ho, resolve, invoke, builtin, Sem.run_bind, Sem.run_pure, Result.andThen_ok, List.map_toArray, List.map_cons, List.map_nil, hx, hy, hr]
theorem ex_bs57_1 {ρ : Operand → Value} {o : Oper} {x : Operand} {p : Option Addr} {n c : Nat} {w : World} (ho : o.op = .buildSlice 57 1 #[(0, x)]) (hx : ρ x = .slice p n c) : (execOp ρ o).run Tryz.prog w = .ok (.value (.slice (some ⟨w.heap.size, 0, none⟩) 1 1)) (w.alloc (.cells ([.slice p n c] : List Value).toArray 51)) := by
 simp only [execOp, ho, List.map_toArray, List.map_cons, List.map_nil, hx]
 kernel_rfl
set_option maxHeartbeats 4000000 in
theorem many_b (gr gb x : Nat) (w : World) (hm : Mm w [(gr, [Value.slice (some ⟨gb, 0, none⟩) 12 (13 + x), Value.bool false]), (gb, zH .u8 (lb [0, 0, 0, 2, 0, 0, 0, 1, 7, 0, 0, 0, 0]) 13)]) :
  Calls Tryz.prog 55 #[PT gr 0, .int .i64 4, .int .i64 4096, .func (.func 56) #[] #[PT gr 0]] w fun e w' => ∃ v, e = .returned v ∧ Mm w' [(gr, [Value.slice (some ⟨gb, 9, none⟩) 3 (13 + x - 4 - 4 - 1), Value.bool true])] ∧ Kp gr w w' := by
 have H0 : Hid (_ ∧ _) := ⟨hm, Km.start (Kp.refl gr w)⟩
 clear hm
 have hgr : Hid (gr < w.heap.size) := (H0.out.1.blk _ (List.mem_cons_self ..)).1
 have hgb : Hid (gb < w.heap.size) := (H0.out.1.blk _ (List.mem_cons_of_mem _ (List.mem_cons_self ..))).1
 go_enter Tryz.func55, Tryz.ntmps55
 refine wp_seq ?_
 refine zD (l := [0]) rfl ?_
 refine zA (d := 8) (v := .slice none 0 0) (w' := w) rfl rfl rfl (rfl) ?_
 simp only [Act.put, sa, sz, ss]
 refine zC (zB (wp_seq ?_))
 refine zD (l := [0]) rfl ?_
 refine zA (d := 9) (v := .slice none 0 0) (w' := w) rfl rfl rfl (rfl) ?_
 simp only [Act.put, sa, sz, ss]
 refine zC (zB ?_)
 refine wp_seq (wp_seq ?_)
 refine zD (l := [0, 1, 2, 3, 4]) rfl ?_
 refine zA (d := 10) (v := PT gr 0) (w' := w) rfl rfl rfl (rfl) ?_
 simp only [Act.put, sa, sz, ss]
 refine zA (d := 11) (v := .int .i64 4) (w' := w) rfl rfl rfl (rfl) ?_
 simp only [Act.put, sa, sz, ss]
 refine zA (d := 12) (v := .int .i64 4096) (w' := w) rfl rfl rfl (rfl) ?_
 simp only [Act.put, sa, sz, ss]
 refine zF (d := 13) (R := fun vv w' => vv = .int .i64 2 ∧ Mm w' [(gr, [Value.slice (some ⟨gb, 4, none⟩) 8 (13 + x - 4), Value.bool false])] ∧ Kp gr w w') rfl rfl rfl (zG (args := #[PT gr 0, .int .i64 4, .int .i64 4096]) rfl call44 rfl (mpn rfl)) (Calls.mono (number_at gr gb 0 12 (13 + x) 4 4096 (lb [0, 0, 0, 2, 0, 0, 0, 1, 7, 0, 0, 0, 0]) _ (by decide) (by decide) (by omega) (by decide) (lb_lt _ (by decide)) (nv_bd (lb_lt _ (by decide)) (by decide)) (fun i hi => by rw [Nat.zero_add]; exact ints_get _ _ (by omega)) (by decide) (by omega) w H0.out.1) (fun e w2 hh => ⟨_, hh.1, rfl, hh.2⟩)) ?_
 rintro _ w1 ⟨rfl, hn, hp⟩
 have H1 : Hid (Mm w1 [(gr, [Value.slice (some ⟨gb, 4, none⟩) 8 (13 + x - 4), Value.bool false]), (gb, zH .u8 (lb [0, 0, 0, 2, 0, 0, 0, 1, 7, 0, 0, 0, 0]) 13)] ∧ Km gr w (.slice none 0 0) 0 w1) := ⟨H0.out.1.change 0 rfl hp hn, H0.out.2.kp hp hgr.out⟩
 clear hn hp
 clear H0
 simp only [Act.put, sa, sz, ss]
 refine zA (d := 14) (v := .int .i64 0) (w' := w1) rfl rfl rfl (rfl) ?_
 simp only [Act.put, sa, sz, ss]
 refine zC (zB (wp_block ?_))
 refine wp_loop_rounds 3 ?_
 refine zU (n := 2) ?_
 refine wp_seq ?_
 refine zD (l := [0]) rfl ?_
 refine zA (d := 15) (v := .bool true) (w' := w1) rfl rfl rfl (by kernel_rfl) ?_
 simp only [Act.put, sa, sz, ss]
 refine zC (zB ?_)
 refine wp_seq (wp_cond_true rfl ?_)
 refine wp_skip (zB ?_)
 refine wp_seq (wp_block ?_)
 refine wp_seq (wp_seq ?_)
 refine zD (l := [0, 1, 2, 3]) rfl ?_
 refine zA (d := 16) (v := PT gr 0) (w' := w1) rfl rfl rfl (rfl) ?_
 simp only [Act.put, sa, sz, ss]
 refine zA (d := 17) (v := PT gr 0) (w' := w1) rfl rfl rfl (by go_simp) ?_
 simp only [Act.put, sa, sz, ss]
 refine zA (d := 18) (v := PT gr 1) (w' := w1) rfl rfl rfl (by go_simp) ?_
 simp only [Act.put, sa, sz, ss]
 refine zA (d := 19) (v := .bool false) (w' := w1) rfl rfl rfl (zJ H1.out.1 0 rfl rfl rfl Ai4 rfl) ?_
 simp only [Act.put, sa, sz, ss]
 refine zC (zB ?_)
 refine wp_cond_false rfl (wp_skip (zB ?_))
 refine zD (l := [0, 1, 2, 3, 4, 5]) rfl ?_
 refine zA (d := 20) (v := .slice none 0 0) (w' := w1) rfl rfl rfl (rfl) ?_
 simp only [Act.put, sa, sz, ss]
 refine zA (d := 21) (v := .func (.func 56) #[] #[PT gr 0]) (w' := w1) rfl rfl rfl (rfl) ?_
 simp only [Act.put, sa, sz, ss]
 refine zF (d := 22) (R := fun vv w' => ∃ g, vv = .slice (some ⟨g, 0, none⟩) 1 1 ∧ Mm w' [(gr, [Value.slice (some ⟨gb, 9, none⟩) 3 (13 + x - 4 - 4 - 1), Value.bool false])] ∧ Kp gr w1 w') rfl rfl rfl (ex_callV rfl call56 rfl (mpn rfl) rfl) (Calls.mono (clF_ok gr gb 4 8 (13 + x - 4) 7 (zH .u8 (lb [0, 0, 0, 2, 0, 0, 0, 1, 7, 0, 0, 0, 0]) 13) (fun i hi => by obtain rfl | rfl | rfl | rfl : i = 0 ∨ i = 1 ∨ i = 2 ∨ i = 3 := (by omega) <;> rfl) rfl (by decide) (by omega) (by omega) w1 H1.out.1) (fun e w2 hh => by obtain ⟨g, he, hb⟩ := hh; exact ⟨_, he, g, rfl, hb⟩)) ?_
 rintro _ w2 ⟨Jf, rfl, hn, hp⟩
 have H2 : Hid (Mm w2 [(gr, [Value.slice (some ⟨gb, 9, none⟩) 3 (13 + x - 4 - 4 - 1), Value.bool false]), (gb, zH .u8 (lb [0, 0, 0, 2, 0, 0, 0, 1, 7, 0, 0, 0, 0]) 13)] ∧ Km gr w (.slice none 0 0) 0 w2) := ⟨H1.out.1.change 0 rfl hp hn, H1.out.2.kp hp hgr.out⟩
 clear hn hp
 clear H1
 simp only [Act.put, sa, sz, ss]
 refine zA (d := 23) (v := .slice (some ⟨w2.heap.size, 0, none⟩) 1 1) (w' := (w2.alloc (.cells ([Value.slice (some ⟨Jf, 0, none⟩) 1 1] : List Value).toArray 51))) rfl rfl rfl (ex_bs57_1 rfl rfl) ?_
 simp only [Act.put, sa, sz, ss]
 have o_Js3 : Hid (w.heap.size ≤ w2.heap.size) := H2.out.2.size
 have H3 : Hid (Mm (w2.alloc (.cells ([Value.slice (some ⟨Jf, 0, none⟩) 1 1] : List Value).toArray 51)) ((w2.heap.size, [Value.slice (some ⟨Jf, 0, none⟩) 1 1]) :: [(gr, [Value.slice (some ⟨gb, 9, none⟩) 3 (13 + x - 4 - 4 - 1), Value.bool false]), (gb, zH .u8 (lb [0, 0, 0, 2, 0, 0, 0, 1, 7, 0, 0, 0, 0]) 13)]) ∧ Km gr w (.slice none 0 0) 0 (w2.alloc (.cells ([Value.slice (some ⟨Jf, 0, none⟩) 1 1] : List Value).toArray 51))) := ⟨H2.out.1.alloc _ 51 rfl, Km.step H2.out.2 (((Below.refl _ _).alloc (Nat.le_refl _) _)) hgr.out⟩
 clear H2
 generalize hgw : w2.alloc (.cells ([Value.slice (some ⟨Jf, 0, none⟩) 1 1] : List Value).toArray 51) = w3 at H3 ⊢
 clear hgw
 generalize w2.heap.size = Js3 at o_Js3 H3 ⊢
 obtain ⟨v4, w4, hr, hK, hM⟩ := H3.out.2.app (by decide) H3.out.1.tail (fun p hp => by rcases List.mem_cons.1 hp with rfl | hp; exact hgr.out; exact (List.mem_singleton.1 hp) ▸ hgb.out) (H3.out.1.get 0 rfl 0 rfl) rfl 57
 refine zA (d := 24) (v := v4) (w' := w4) rfl rfl rfl (ex_appL rfl rfl rfl hr) ?_
 simp only [Act.put, sa, sz, ss]
 have H4 : Hid (Mm w4 [(gr, [Value.slice (some ⟨gb, 9, none⟩) 3 (13 + x - 4 - 4 - 1), Value.bool false]), (gb, zH .u8 (lb [0, 0, 0, 2, 0, 0, 0, 1, 7, 0, 0, 0, 0]) 13)] ∧ Km gr w v4 1 w4) := ⟨hM, hK⟩
 clear hr hK hM H3
 refine zA (d := 9) (v := v4) (w' := w4) rfl rfl rfl (rfl) ?_
 simp only [Act.put, sa, sz, ss]
 refine zC (zS (zB ?_))
 refine zD (l := [0, 1]) rfl ?_
 refine zA (d := 25) (v := .int .i64 1) (w' := w4) rfl rfl rfl (by kernel_rfl) ?_
 simp only [Act.put, sa, sz, ss]
 refine zA (d := 14) (v := .int .i64 1) (w' := w4) rfl rfl rfl (rfl) ?_
 simp only [Act.put, sa, sz, ss]
 refine zC (zB ?_)
 refine zU (n := 1) ?_
 refine wp_seq ?_
 refine zD (l := [0]) rfl ?_
 refine zA (d := 15) (v := .bool true) (w' := w4) rfl rfl rfl (by kernel_rfl) ?_
 simp only [Act.put, sa, sz, ss]
 refine zC (zB ?_)
 refine wp_seq (wp_cond_true rfl ?_)
 refine wp_skip (zB ?_)
 refine wp_seq (wp_block ?_)
 refine wp_seq (wp_seq ?_)
 refine zD (l := [0, 1, 2, 3]) rfl ?_
 refine zA (d := 16) (v := PT gr 0) (w' := w4) rfl rfl rfl (rfl) ?_
 simp only [Act.put, sa, sz, ss]
 refine zA (d := 17) (v := PT gr 0) (w' := w4) rfl rfl rfl (by go_simp) ?_
 simp only [Act.put, sa, sz, ss]
 refine zA (d := 18) (v := PT gr 1) (w' := w4) rfl rfl rfl (by go_simp) ?_
 simp only [Act.put, sa, sz, ss]
 refine zA (d := 19) (v := .bool false) (w' := w4) rfl rfl rfl (zJ H4.out.1 0 rfl rfl rfl Ai4 rfl) ?_
 simp only [Act.put, sa, sz, ss]
 refine zC (zB ?_)
 refine wp_cond_false rfl (wp_skip (zB ?_))
 refine zD (l := [0, 1, 2, 3, 4, 5]) rfl ?_
 refine zA (d := 20) (v := v4) (w' := w4) rfl rfl rfl (rfl) ?_
 simp only [Act.put, sa, sz, ss]
 refine zA (d := 21) (v := .func (.func 56) #[] #[PT gr 0]) (w' := w4) rfl rfl rfl (rfl) ?_
 simp only [Act.put, sa, sz, ss]
 refine zF (d := 22) (R := fun vv w' => vv = .slice none 0 0 ∧ Mm w' [(gr, [Value.slice (some ⟨gb, 9, none⟩) 3 (13 + x - 4 - 4 - 1), Value.bool true])] ∧ Kp gr w4 w') rfl rfl rfl (ex_callV rfl call56 rfl (mpn rfl) rfl) (Calls.mono (clF_bad gr (some ⟨gb, 9, none⟩) 3 (13 + x - 4 - 4 - 1) (by decide) w4 (H4.out.1.one 0 rfl)) (fun e w2 hh => ⟨_, hh.1, rfl, hh.2⟩)) ?_
 rintro _ w5 ⟨rfl, hn, hp⟩
 have H5 : Hid (Mm w5 [(gr, [Value.slice (some ⟨gb, 9, none⟩) 3 (13 + x - 4 - 4 - 1), Value.bool true]), (gb, zH .u8 (lb [0, 0, 0, 2, 0, 0, 0, 1, 7, 0, 0, 0, 0]) 13)] ∧ Km gr w v4 1 w5) := ⟨H4.out.1.change 0 rfl hp hn, H4.out.2.kp hp hgr.out⟩
 clear hn hp
 clear H4
 simp only [Act.put, sa, sz, ss]
 refine zA (d := 23) (v := .slice (some ⟨w5.heap.size, 0, none⟩) 1 1) (w' := (w5.alloc (.cells ([Value.slice none 0 0] : List Value).toArray 51))) rfl rfl rfl (ex_bs57_1 rfl rfl) ?_
 simp only [Act.put, sa, sz, ss]
 have o_Js6 : Hid (w.heap.size ≤ w5.heap.size) := H5.out.2.size
 have H6 : Hid (Mm (w5.alloc (.cells ([Value.slice none 0 0] : List Value).toArray 51)) ((w5.heap.size, [Value.slice none 0 0]) :: [(gr, [Value.slice (some ⟨gb, 9, none⟩) 3 (13 + x - 4 - 4 - 1), Value.bool true]), (gb, zH .u8 (lb [0, 0, 0, 2, 0, 0, 0, 1, 7, 0, 0, 0, 0]) 13)]) ∧ Km gr w v4 1 (w5.alloc (.cells ([Value.slice none 0 0] : List Value).toArray 51))) := ⟨H5.out.1.alloc _ 51 rfl, Km.step H5.out.2 (((Below.refl _ _).alloc (Nat.le_refl _) _)) hgr.out⟩
 clear H5
 generalize hgw : w5.alloc (.cells ([Value.slice none 0 0] : List Value).toArray 51) = w6 at H6 ⊢
 clear hgw
 generalize w5.heap.size = Js6 at o_Js6 H6 ⊢
 obtain ⟨v7, w7, hr, hK, hM⟩ := H6.out.2.app (by decide) H6.out.1.tail (fun p hp => by rcases List.mem_cons.1 hp with rfl | hp; exact hgr.out; exact (List.mem_singleton.1 hp) ▸ hgb.out) (H6.out.1.get 0 rfl 0 rfl) rfl 57
 refine zA (d := 24) (v := v7) (w' := w7) rfl rfl rfl (ex_appL rfl rfl rfl hr) ?_
 simp only [Act.put, sa, sz, ss]
 have H7 : Hid (Mm w7 [(gr, [Value.slice (some ⟨gb, 9, none⟩) 3 (13 + x - 4 - 4 - 1), Value.bool true]), (gb, zH .u8 (lb [0, 0, 0, 2, 0, 0, 0, 1, 7, 0, 0, 0, 0]) 13)] ∧ Km gr w v7 2 w7) := ⟨hM, hK⟩
 clear hr hK hM H6
 refine zA (d := 9) (v := v7) (w' := w7) rfl rfl rfl (rfl) ?_
 simp only [Act.put, sa, sz, ss]
 refine zC (zS (zB ?_))
 refine zD (l := [0, 1]) rfl ?_
 refine zA (d := 25) (v := .int .i64 2) (w' := w7) rfl rfl rfl (by kernel_rfl) ?_
 simp only [Act.put, sa, sz, ss]
 refine zA (d := 14) (v := .int .i64 2) (w' := w7) rfl rfl rfl (rfl) ?_
 simp only [Act.put, sa, sz, ss]
 refine zC (zB ?_)
 refine zU (n := 0) ?_
 refine wp_seq ?_
 refine zD (l := [0]) rfl ?_
 refine zA (d := 15) (v := .bool false) (w' := w7) rfl rfl rfl (by kernel_rfl) ?_
 simp only [Act.put, sa, sz, ss]
 refine zC (zB ?_)
 refine wp_seq (wp_cond_false rfl ?_)
 refine wp_exit ?_
 repeat refine zX ?_
 refine zT ?_
 refine zB (wp_seq ?_)
 refine zD (l := [0, 1]) rfl ?_
 refine zA (d := 26) (v := v7) (w' := w7) rfl rfl rfl (rfl) ?_
 simp only [Act.put, sa, sz, ss]
 refine zA (d := 8) (v := v7) (w' := w7) rfl rfl rfl (rfl) ?_
 simp only [Act.put, sa, sz, ss]
 refine zC (zB (wp_ret ?_))
 repeat (first | refine zL ?_ | refine zK ?_)
 refine bodyPost_ret (v := v7) (by simp [results, Tryz.results55, go_sem, *]) rfl ?_
 exact ⟨_, rfl, H7.out.1.one 0 rfl, H7.out.2.k⟩
set_option maxHeartbeats 2000000 in
theorem ReadFields_12 (gb x : Nat) (w : World) (hm : Mm w [(gb, zH .u8 (lb [0, 0, 0, 2, 0, 0, 0, 1, 7, 0, 0, 0, 0]) 13)]) :
  Calls Tryz.prog 20 #[.slice (some ⟨gb, 0, none⟩) 12 (13 + x)] w (Rt w (.tuple #[.slice none 0 0, .int .i64 4])) := by
 have H0 : Hid (_ ∧ _) := ⟨hm, Below.refl w.heap.size w⟩
 clear hm
 go_enter Tryz.func20, Tryz.ntmps20
 refine wp_seq ?_
 refine zN (l := [0, 1]) rfl (fun u0 hu0 => ?_)
 have H1 : Hid (Mm u0 [(gb, zH .u8 (lb [0, 0, 0, 2, 0, 0, 0, 1, 7, 0, 0, 0, 0]) 13)] ∧ Below w.heap.size w u0) := by rw [hu0]; exact H0
 clear hu0 H0
 refine zA (d := 2) (v := .slice none 0 0) (w' := u0) rfl rfl rfl (rfl) ?_
 simp only [Act.put, sa, sz, ss]
 refine zA (d := 3) (v := .int .i64 0) (w' := u0) rfl rfl rfl (rfl) ?_
 simp only [Act.put, sa, sz, ss]
 refine zC (zB ?_)
 refine wp_seq (wp_seq ?_)
 refine zD (l := [0, 1, 2]) rfl ?_
 refine zA (d := 6) (v := .slice (some ⟨gb, 0, none⟩) 12 (13 + x)) (w' := u0) rfl rfl rfl (rfl) ?_
 simp only [Act.put, sa, sz, ss]
 refine zA (d := 7) (v := .int .i64 12) (w' := u0) rfl rfl rfl (by go_simp) ?_
 simp only [Act.put, sa, sz, ss]
 refine zA (d := 8) (v := .bool false) (w' := u0) rfl rfl rfl (by kernel_rfl) ?_
 simp only [Act.put, sa, sz, ss]
 refine zC (zB ?_)
 refine wp_cond_false rfl (wp_skip ?_)
 refine zB (wp_seq ?_)
 refine zD (l := [0, 1, 2, 3]) rfl ?_
 refine zA (d := 9) (v := .slice (some ⟨gb, 0, none⟩) 12 (13 + x)) (w' := u0) rfl rfl rfl (rfl) ?_
 simp only [Act.put, sa, sz, ss]
 refine zA (d := 10) (v := .agg ([Value.slice (some ⟨gb, 0, none⟩) 12 (13 + x), Value.bool false]).toArray) (w' := u0) rfl rfl rfl (by kernel_rfl) ?_
 simp only [Act.put, sa, sz, ss]
 refine zA (d := 4) (v := PT u0.heap.size 0) (w' := (u0.alloc (.cells ([Value.slice none 0 0, Value.bool false] : List Value).toArray 99))) rfl rfl rfl (ex_mk99 rfl) ?_
 simp only [Act.put, sa, sz, ss]
 have o_Js2 : Hid (w.heap.size ≤ u0.heap.size) := H1.out.2.size
 have H2 : Hid (Mm (u0.alloc (.cells ([Value.slice none 0 0, Value.bool false] : List Value).toArray 99)) ((u0.heap.size, [Value.slice none 0 0, Value.bool false]) :: [(gb, zH .u8 (lb [0, 0, 0, 2, 0, 0, 0, 1, 7, 0, 0, 0, 0]) 13)]) ∧ Below w.heap.size w (u0.alloc (.cells ([Value.slice none 0 0, Value.bool false] : List Value).toArray 99))) := ⟨H1.out.1.alloc _ 99 rfl, H1.out.2.trans (((Below.refl _ _).alloc (Nat.le_refl _) _).mono H1.out.2.size)⟩
 clear H1
 generalize hgw : u0.alloc (.cells ([Value.slice none 0 0, Value.bool false] : List Value).toArray 99) = w2 at H2 ⊢
 clear hgw
 generalize u0.heap.size = Js2 at o_Js2 H2 ⊢
 refine sG rfl (fun h => ex_storeT (vs := [Value.slice (some ⟨gb, 0, none⟩) 12 (13 + x), Value.bool false]) h 0 rfl rfl rfl rfl As99 rfl (Nat.le_of_ble_eq_true rfl)) 0 [(_, [Value.slice (some ⟨gb, 0, none⟩) 12 (13 + x), Value.bool false]), _] H2 o_Js2 fun w3 H3 => ?_
 clear H2
 refine zC (zB (wp_seq ?_))
 refine zD (l := [0, 1, 2]) rfl ?_
 refine zA (d := 11) (v := .func (.func 56) #[] #[PT Js2 0]) (w' := w3) rfl rfl rfl (by kernel_rfl) ?_
 simp only [Act.put, sa, sz, ss]
 refine zF (d := 12) (R := fun vv w' => Mm w' [(Js2, [Value.slice (some ⟨gb, 9, none⟩) 3 (13 + x - 4 - 4 - 1), Value.bool true])] ∧ Kp Js2 w3 w') rfl rfl rfl (zG (args := #[PT Js2 0, .int .i64 4, .int .i64 4096, .func (.func 56) #[] #[PT Js2 0]]) rfl call55 rfl (mpn rfl)) (Calls.mono (many_b Js2 gb x w3 (H3.out.1.two 0 1 rfl rfl (by decide))) (fun e w2 hh => by obtain ⟨v, he, hb⟩ := hh; exact ⟨_, he, hb⟩)) ?_
 rintro vm w4 ⟨hn, hp⟩
 have H4 : Hid (Mm w4 [(Js2, [Value.slice (some ⟨gb, 9, none⟩) 3 (13 + x - 4 - 4 - 1), Value.bool true]), (gb, zH .u8 (lb [0, 0, 0, 2, 0, 0, 0, 1, 7, 0, 0, 0, 0]) 13)] ∧ Below w.heap.size w w4) := ⟨H3.out.1.change 0 rfl hp hn, Below.kp H3.out.2 hp o_Js2.out H3.out.2.size⟩
 clear hn hp
 clear H3
 simp only [Act.put, sa, sz, ss]
 refine zA (d := 5) (v := vm) (w' := w4) rfl rfl rfl (rfl) ?_
 simp only [Act.put, sa, sz, ss]
 refine zC (zB ?_)
 refine wp_seq (wp_seq ?_)
 refine zD (l := [0, 1]) rfl ?_
 refine zF (d := 13) (R := fun vv w' => vv = .bool false ∧ Below w4.heap.size w4 w') rfl rfl rfl (zG (args := #[PT Js2 0]) rfl call45 rfl (mpn rfl)) (Calls.mono (whole_bad _ _ _ _ w4 (H4.out.1.one 0 rfl)) (fun e w2 hh => ⟨_, hh.1, rfl, hh.2⟩)) ?_
 rintro _ w5 ⟨rfl, hb⟩
 have H5 : Hid (Mm w5 [(Js2, [Value.slice (some ⟨gb, 9, none⟩) 3 (13 + x - 4 - 4 - 1), Value.bool true]), (gb, zH .u8 (lb [0, 0, 0, 2, 0, 0, 0, 1, 7, 0, 0, 0, 0]) 13)] ∧ Below w.heap.size w w5) := ⟨H4.out.1.below hb, H4.out.2.trans (hb.mono H4.out.2.size)⟩
 clear hb
 clear H4
 simp only [Act.put, sa, sz, ss]
 refine zA (d := 14) (v := .bool true) (w' := w5) rfl rfl rfl (by go_simp) ?_
 simp only [Act.put, sa, sz, ss]
 refine zC (zB ?_)
 refine wp_cond_true rfl (wp_seq ?_)
 refine zD (l := [0, 1]) rfl ?_
 refine zA (d := 2) (v := .slice none 0 0) (w' := w5) rfl rfl rfl (rfl) ?_
 simp only [Act.put, sa, sz, ss]
 refine zA (d := 3) (v := .int .i64 4) (w' := w5) rfl rfl rfl (rfl) ?_
 simp only [Act.put, sa, sz, ss]
 refine zC (zB (wp_ret ?_))
 repeat (first | refine zL ?_ | refine zK ?_)
 refine bodyPost_ret (v := .tuple #[.slice none 0 0, .int .i64 4]) (by simp [results, Tryz.results20, go_sem, *]) rfl ?_
 exact ⟨rfl, H5.out.2⟩
end Wi
end Rg
end Go.Proofs.YtahghpkjkfaieaaGreatDoor
end
section
namespace Go.Proofs.YtahghpkjkfaieaaGreatDoor
open Go.RowKit
namespace Rg
namespace Wi
theorem call48 : CO 48 := by intro args w; go_simp
theorem call59 : CO 59 := by intro args w; go_simp
theorem call61 : CO 61 := by intro args w; go_simp
theorem call64 : CO 64 := by intro args w; go_simp
theorem call69 : CO 69 := by intro args w; go_simp
set_option maxRecDepth 100000
theorem ex_mk64 {ρ : Operand → Value} {o : Oper} {w : World} (ho : o.op = .alloc 64) : (execOp ρ o).run Tryz.prog w = .ok (.value (.pointer (some ⟨w.heap.size, 0, none⟩))) (w.alloc (.cells ([Value.int .i64 0, Value.int .i64 0, Value.string ⟨#[]⟩, Value.string ⟨#[]⟩, Value.string ⟨#[]⟩, Value.slice none 0 0, Value.slice none 0 0, Value.int .i64 0, Value.slice none 0 0, Value.slice none 0 0, Value.slice none 0 0] : List Value).toArray 64)) := by
 simp only [execOp, ho]
 go_simp
theorem ex_b2s1 {ρ : Operand → Value} {o : Oper} {x : Operand} {w : World} {l : List (Nat × List Value)} {gb ob c : Nat} {cs : List Value} (h : Mm w l) (k : Nat) (hk : l[k]? = some (gb, cs)) (hc : cs[ob]? = some (Z8 97)) (h1 : 1 ≤ c) (ho : o.op = .convert 51 9 x) (hx : ρ x = .slice (some ⟨gb, ob, none⟩) 1 c) : (execOp ρ o).run Tryz.prog w = .ok (.value (.string ⟨#[97]⟩)) w := by
 have hb : BSl w [97] c (.slice (some ⟨gb, ob, none⟩) ([97] : List Int).length c) := .full gb ob (h.lt (List.mem_of_getElem? hk)) h1 (fun i hi => by
  obtain rfl : i = 0 := (by simpa using hi)
  exact h.get k hk ob hc)
 have hr := hb.text
 rw [show strOfNums [97] = ⟨#[97]⟩ by kernel_rfl] at hr
 simp only [execOp, ho, hx]
 simp only [List.length_cons, List.length_nil, Nat.zero_add] at hr
 simp [hr, Result.andThen]
theorem ex_b2s0 {ρ : Operand → Value} {o : Oper} {x : Operand} {w : World} {p : Option Addr} {c : Nat} (ho : o.op = .convert 51 9 x) (hx : ρ x = .slice p 0 c) : (execOp ρ o).run Tryz.prog w = .ok (.value (.string ⟨#[]⟩)) w := by
 have hb : BSl w [] c (.slice p 0 c) := .void p rfl
 have hr := hb.text
 rw [show strOfNums [] = ⟨#[]⟩ by kernel_rfl] at hr
 simp only [execOp, ho, hx]
 simp [hr, Result.andThen]
theorem num_13 (gb x gr o m k mo : Nat) (f : Nat → Nat) (hom : o + m = 13) (hk : k < m) (h8 : k ≤ 8) (hmo : mo < 9223372036854775808) (hf : ∀ j, f j < 256) (hn : ∀ z, z < k → nv f z * 256 < 18446744073709551616) (hcs : ∀ i, i < k → (zH .u8 (lb [3, 1, 1, 97, 0, 0, 0, 0, 0, 0, 0, 0, 0]) 13)[o + i]? = some (Z8 (f i))) (hV : nv f k ≤ mo) (w : World) (hm : Mm w [(gr, [Value.slice (some ⟨gb, o, none⟩) m (13 + x - o), Value.bool false]), (gb, zH .u8 (lb [3, 1, 1, 97, 0, 0, 0, 0, 0, 0, 0, 0, 0]) 13)]) :
  Calls Tryz.prog 44 #[PT gr 0, .int .i64 ((k : Nat) : Int), .int .i64 ((mo : Nat) : Int)] w fun e w' => e = .returned (.int .i64 ((nv f k : Nat) : Int)) ∧ Mm w' [(gr, [Value.slice (some ⟨gb, o + k, none⟩) (m - k) (13 + x - (o + k)), Value.bool false])] ∧ Kp gr w w' := by
 have h := number_at gr gb o m (13 + x - o) k mo f _ (by omega) h8 (by omega) hmo hf hn hcs hV (by omega) w hm
 rw [Nat.sub_sub] at h
 exact h
theorem txt_13 (gb x gr o m k mo L : Nat) (f : Nat → Nat) (hom : o + m = 13) (hk : k + L < m) (h8 : k ≤ 8) (hmo : mo < 9223372036854775808) (hf : ∀ j, f j < 256) (hn : ∀ z, z < k → nv f z * 256 < 18446744073709551616) (hcs : ∀ i, i < k → (zH .u8 (lb [3, 1, 1, 97, 0, 0, 0, 0, 0, 0, 0, 0, 0]) 13)[o + i]? = some (Z8 (f i))) (hL : nv f k = L) (hV : L ≤ mo) (_ : True) (w : World) (hm : Mm w [(gr, [Value.slice (some ⟨gb, o, none⟩) m (13 + x - o), Value.bool false]), (gb, zH .u8 (lb [3, 1, 1, 97, 0, 0, 0, 0, 0, 0, 0, 0, 0]) 13)]) :
  Calls Tryz.prog 58 #[PT gr 0, .int .i64 ((k : Nat) : Int), .int .i64 ((mo : Nat) : Int)] w fun e w' => e = .returned (.slice (some ⟨gb, o + k, none⟩) L (13 + x - (o + k))) ∧ Mm w' [(gr, [Value.slice (some ⟨gb, o + k + L, none⟩) (m - k - L) (13 + x - (o + k + L)), Value.bool false])] ∧ Kp gr w w' := by
 have h := text_at gr gb o m (13 + x - o) k mo f _ h8 (by omega) hmo hf hn hcs (by rw [hL]; exact hV) (by rw [hL]; omega) (by rw [hL]; omega) w hm
 rw [hL, Nat.sub_sub, Nat.sub_sub, Nat.sub_sub] at h
 rw [Nat.sub_sub]
 exact h
theorem manyI_0_13 (gb x gr o m mo : Nat) (fv : Value) (hcs : (zH .u8 (lb [3, 1, 1, 97, 0, 0, 0, 0, 0, 0, 0, 0, 0]) 13)[o]? = some (Z8 0)) (hom : o + m = 13) (hk : 1 < m) (hmo : mo < 9223372036854775808) (w : World) (hm : Mm w [(gr, [Value.slice (some ⟨gb, o, none⟩) m (13 + x - o), Value.bool false]), (gb, zH .u8 (lb [3, 1, 1, 97, 0, 0, 0, 0, 0, 0, 0, 0, 0]) 13)]) :
  Calls Tryz.prog 59 #[PT gr 0, .int .i64 1, .int .i64 ((mo : Nat) : Int), fv] w fun e w' => e = .returned (.slice none 0 0) ∧ Mm w' [(gr, [Value.slice (some ⟨gb, o + 1, none⟩) (m - 1) (13 + x - (o + 1)), Value.bool false])] ∧ Kp gr w w' := by
 have h := manyI_0 gr gb o m (13 + x - o) mo fv _ hcs (by omega) (by omega) (by omega) hmo w hm
 rw [Nat.sub_sub] at h
 exact h
theorem manyN_0_13 (gb x gr o m mo : Nat) (fv : Value) (hcs : (zH .u8 (lb [3, 1, 1, 97, 0, 0, 0, 0, 0, 0, 0, 0, 0]) 13)[o]? = some (Z8 0)) (hom : o + m = 13) (hk : 1 < m) (hmo : mo < 9223372036854775808) (w : World) (hm : Mm w [(gr, [Value.slice (some ⟨gb, o, none⟩) m (13 + x - o), Value.bool false]), (gb, zH .u8 (lb [3, 1, 1, 97, 0, 0, 0, 0, 0, 0, 0, 0, 0]) 13)]) :
  Calls Tryz.prog 61 #[PT gr 0, .int .i64 1, .int .i64 ((mo : Nat) : Int), fv] w fun e w' => e = .returned (.slice none 0 0) ∧ Mm w' [(gr, [Value.slice (some ⟨gb, o + 1, none⟩) (m - 1) (13 + x - (o + 1)), Value.bool false])] ∧ Kp gr w w' := by
 have h := manyN_0 gr gb o m (13 + x - o) mo fv _ hcs (by omega) (by omega) (by omega) hmo w hm
 rw [Nat.sub_sub] at h
 exact h
theorem manyK_0_13 (gb x gr o m mo : Nat) (fv : Value) (hcs : (zH .u8 (lb [3, 1, 1, 97, 0, 0, 0, 0, 0, 0, 0, 0, 0]) 13)[o]? = some (Z8 0)) (hom : o + m = 13) (hk : 1 < m) (hmo : mo < 9223372036854775808) (w : World) (hm : Mm w [(gr, [Value.slice (some ⟨gb, o, none⟩) m (13 + x - o), Value.bool false]), (gb, zH .u8 (lb [3, 1, 1, 97, 0, 0, 0, 0, 0, 0, 0, 0, 0]) 13)]) :
  Calls Tryz.prog 64 #[PT gr 0, .int .i64 1, .int .i64 ((mo : Nat) : Int), fv] w fun e w' => e = .returned (.slice none 0 0) ∧ Mm w' [(gr, [Value.slice (some ⟨gb, o + 1, none⟩) (m - 1) (13 + x - (o + 1)), Value.bool false])] ∧ Kp gr w w' := by
 have h := manyK_0 gr gb o m (13 + x - o) mo fv _ hcs (by omega) (by omega) (by omega) hmo w hm
 rw [Nat.sub_sub] at h
 exact h
set_option maxHeartbeats 8000000 in
theorem ReadEntry_13 (gb x : Nat) (w : World) (hm : Mm w [(gb, zH .u8 (lb [3, 1, 1, 97, 0, 0, 0, 0, 0, 0, 0, 0, 0]) 13)]) :
  Calls Tryz.prog 21 #[.slice (some ⟨gb, 0, none⟩) 13 (13 + x)] w (Rt w (.tuple #[.agg (e1c).toArray, .int .i64 0])) := by
 have H0 : Hid (_ ∧ _) := ⟨hm, Below.refl w.heap.size w⟩
 clear hm
 go_enter Tryz.func21, Tryz.ntmps21
 refine wp_seq ?_
 refine zN (l := [0, 1]) rfl (fun u0 hu0 => ?_)
 have H1 : Hid (Mm u0 [(gb, zH .u8 (lb [3, 1, 1, 97, 0, 0, 0, 0, 0, 0, 0, 0, 0]) 13)] ∧ Below w.heap.size w u0) := by rw [hu0]; exact H0
 clear hu0 H0
 refine zA (d := 2) (v := PT u0.heap.size 0) (w' := (u0.alloc (.cells ([Value.int .i64 0, Value.int .i64 0, Value.string ⟨#[]⟩, Value.string ⟨#[]⟩, Value.string ⟨#[]⟩, Value.slice none 0 0, Value.slice none 0 0, Value.int .i64 0, Value.slice none 0 0, Value.slice none 0 0, Value.slice none 0 0] : List Value).toArray 64))) rfl rfl rfl (ex_mk64 rfl) ?_
 simp only [Act.put, sa, sz, ss]
 have o_Js2 : Hid (w.heap.size ≤ u0.heap.size) := H1.out.2.size
 have H2 : Hid (Mm (u0.alloc (.cells ([Value.int .i64 0, Value.int .i64 0, Value.string ⟨#[]⟩, Value.string ⟨#[]⟩, Value.string ⟨#[]⟩, Value.slice none 0 0, Value.slice none 0 0, Value.int .i64 0, Value.slice none 0 0, Value.slice none 0 0, Value.slice none 0 0] : List Value).toArray 64)) ((u0.heap.size, [Value.int .i64 0, Value.int .i64 0, Value.string ⟨#[]⟩, Value.string ⟨#[]⟩, Value.string ⟨#[]⟩, Value.slice none 0 0, Value.slice none 0 0, Value.int .i64 0, Value.slice none 0 0, Value.slice none 0 0, Value.slice none 0 0]) :: [(gb, zH .u8 (lb [3, 1, 1, 97, 0, 0, 0, 0, 0, 0, 0, 0, 0]) 13)]) ∧ Below w.heap.size w (u0.alloc (.cells ([Value.int .i64 0, Value.int .i64 0, Value.string ⟨#[]⟩, Value.string ⟨#[]⟩, Value.string ⟨#[]⟩, Value.slice none 0 0, Value.slice none 0 0, Value.int .i64 0, Value.slice none 0 0, Value.slice none 0 0, Value.slice none 0 0] : List Value).toArray 64))) := ⟨H1.out.1.alloc _ 64 rfl, H1.out.2.trans (((Below.refl _ _).alloc (Nat.le_refl _) _).mono H1.out.2.size)⟩
 clear H1
 generalize hgw : u0.alloc (.cells ([Value.int .i64 0, Value.int .i64 0, Value.string ⟨#[]⟩, Value.string ⟨#[]⟩, Value.string ⟨#[]⟩, Value.slice none 0 0, Value.slice none 0 0, Value.int .i64 0, Value.slice none 0 0, Value.slice none 0 0, Value.slice none 0 0] : List Value).toArray 64) = w2 at H2 ⊢
 clear hgw
 generalize u0.heap.size = Js2 at o_Js2 H2 ⊢
 refine zA (d := 3) (v := .int .i64 0) (w' := w2) rfl rfl rfl (rfl) ?_
 simp only [Act.put, sa, sz, ss]
 refine zC (zB (wp_seq ?_))
 refine zD (l := [0]) rfl ?_
 refine zA (d := 4) (v := PT w2.heap.size 0) (w' := (w2.alloc (.cells ([Value.int .i64 0, Value.int .i64 0, Value.string ⟨#[]⟩, Value.string ⟨#[]⟩, Value.string ⟨#[]⟩, Value.slice none 0 0, Value.slice none 0 0, Value.int .i64 0, Value.slice none 0 0, Value.slice none 0 0, Value.slice none 0 0] : List Value).toArray 64))) rfl rfl rfl (ex_mk64 rfl) ?_
 simp only [Act.put, sa, sz, ss]
 have o_Js3 : Hid (w.heap.size ≤ w2.heap.size) := H2.out.2.size
 have H3 : Hid (Mm (w2.alloc (.cells ([Value.int .i64 0, Value.int .i64 0, Value.string ⟨#[]⟩, Value.string ⟨#[]⟩, Value.string ⟨#[]⟩, Value.slice none 0 0, Value.slice none 0 0, Value.int .i64 0, Value.slice none 0 0, Value.slice none 0 0, Value.slice none 0 0] : List Value).toArray 64)) ((w2.heap.size, [Value.int .i64 0, Value.int .i64 0, Value.string ⟨#[]⟩, Value.string ⟨#[]⟩, Value.string ⟨#[]⟩, Value.slice none 0 0, Value.slice none 0 0, Value.int .i64 0, Value.slice none 0 0, Value.slice none 0 0, Value.slice none 0 0]) :: [(Js2, [Value.int .i64 0, Value.int .i64 0, Value.string ⟨#[]⟩, Value.string ⟨#[]⟩, Value.string ⟨#[]⟩, Value.slice none 0 0, Value.slice none 0 0, Value.int .i64 0, Value.slice none 0 0, Value.slice none 0 0, Value.slice none 0 0]), (gb, zH .u8 (lb [3, 1, 1, 97, 0, 0, 0, 0, 0, 0, 0, 0, 0]) 13)]) ∧ Below w.heap.size w (w2.alloc (.cells ([Value.int .i64 0, Value.int .i64 0, Value.string ⟨#[]⟩, Value.string ⟨#[]⟩, Value.string ⟨#[]⟩, Value.slice none 0 0, Value.slice none 0 0, Value.int .i64 0, Value.slice none 0 0, Value.slice none 0 0, Value.slice none 0 0] : List Value).toArray 64))) := ⟨H2.out.1.alloc _ 64 rfl, H2.out.2.trans (((Below.refl _ _).alloc (Nat.le_refl _) _).mono H2.out.2.size)⟩
 clear H2
 generalize hgw : w2.alloc (.cells ([Value.int .i64 0, Value.int .i64 0, Value.string ⟨#[]⟩, Value.string ⟨#[]⟩, Value.string ⟨#[]⟩, Value.slice none 0 0, Value.slice none 0 0, Value.int .i64 0, Value.slice none 0 0, Value.slice none 0 0, Value.slice none 0 0] : List Value).toArray 64) = w3 at H3 ⊢
 clear hgw
 generalize w2.heap.size = Js3 at o_Js3 H3 ⊢
 refine zC (zB (wp_seq ?_))
 refine zD (l := [0, 1, 2, 3]) rfl ?_
 refine zA (d := 7) (v := .slice (some ⟨gb, 0, none⟩) 13 (13 + x)) (w' := w3) rfl rfl rfl (rfl) ?_
 simp only [Act.put, sa, sz, ss]
 refine zA (d := 8) (v := .agg ([Value.slice (some ⟨gb, 0, none⟩) 13 (13 + x), Value.bool false]).toArray) (w' := w3) rfl rfl rfl (by kernel_rfl) ?_
 simp only [Act.put, sa, sz, ss]
 refine zA (d := 5) (v := PT w3.heap.size 0) (w' := (w3.alloc (.cells ([Value.slice none 0 0, Value.bool false] : List Value).toArray 99))) rfl rfl rfl (ex_mk99 rfl) ?_
 simp only [Act.put, sa, sz, ss]
 have o_Js4 : Hid (w.heap.size ≤ w3.heap.size) := H3.out.2.size
 have H4 : Hid (Mm (w3.alloc (.cells ([Value.slice none 0 0, Value.bool false] : List Value).toArray 99)) ((w3.heap.size, [Value.slice none 0 0, Value.bool false]) :: [(Js3, [Value.int .i64 0, Value.int .i64 0, Value.string ⟨#[]⟩, Value.string ⟨#[]⟩, Value.string ⟨#[]⟩, Value.slice none 0 0, Value.slice none 0 0, Value.int .i64 0, Value.slice none 0 0, Value.slice none 0 0, Value.slice none 0 0]), (Js2, [Value.int .i64 0, Value.int .i64 0, Value.string ⟨#[]⟩, Value.string ⟨#[]⟩, Value.string ⟨#[]⟩, Value.slice none 0 0, Value.slice none 0 0, Value.int .i64 0, Value.slice none 0 0, Value.slice none 0 0, Value.slice none 0 0]), (gb, zH .u8 (lb [3, 1, 1, 97, 0, 0, 0, 0, 0, 0, 0, 0, 0]) 13)]) ∧ Below w.heap.size w (w3.alloc (.cells ([Value.slice none 0 0, Value.bool false] : List Value).toArray 99))) := ⟨H3.out.1.alloc _ 99 rfl, H3.out.2.trans (((Below.refl _ _).alloc (Nat.le_refl _) _).mono H3.out.2.size)⟩
 clear H3
 generalize hgw : w3.alloc (.cells ([Value.slice none 0 0, Value.bool false] : List Value).toArray 99) = w4 at H4 ⊢
 clear hgw
 generalize w3.heap.size = Js4 at o_Js4 H4 ⊢
 refine sG rfl (fun h => ex_storeT (vs := [Value.slice (some ⟨gb, 0, none⟩) 13 (13 + x), Value.bool false]) h 0 rfl rfl rfl rfl As99 rfl (Nat.le_of_ble_eq_true rfl)) 0 [(_, [Value.slice (some ⟨gb, 0, none⟩) 13 (13 + x), Value.bool false]), _, _, _] H4 o_Js4 fun w5 H5 => ?_
 clear H4
 refine zC (zB (wp_seq ?_))
 refine zD (l := [0, 1, 2]) rfl ?_
 refine zF (d := 9) (R := fun vv w' => vv = .int .i64 3 ∧ Mm w' [(Js4, [Value.slice (some ⟨gb, 1, none⟩) 12 (13 + x - 1), Value.bool false])] ∧ Kp Js4 w5 w') rfl rfl rfl (zG (args := #[PT Js4 0, .int .i64 1, .int .i64 255]) rfl call44 rfl (mpn rfl)) (Calls.mono ((fun w hm => num_13 gb x Js4 0 13 1 255 (lb [3]) (by decide) (by decide) (by decide) (by decide) (lb_lt _ (by decide)) (nv_bd (lb_lt _ (by decide)) (by decide)) (fun i hi => by obtain rfl : i = 0 := (by omega); rfl) (by decide) w hm) w5 (H5.out.1.two 0 3 rfl rfl (by decide))) (fun e w2 hh => ⟨_, hh.1, rfl, hh.2⟩)) ?_
 rintro _ w6 ⟨rfl, hn, hp⟩
 have H6 : Hid (Mm w6 [(Js4, [Value.slice (some ⟨gb, 1, none⟩) 12 (13 + x - 1), Value.bool false]), (Js3, [Value.int .i64 0, Value.int .i64 0, Value.string ⟨#[]⟩, Value.string ⟨#[]⟩, Value.string ⟨#[]⟩, Value.slice none 0 0, Value.slice none 0 0, Value.int .i64 0, Value.slice none 0 0, Value.slice none 0 0, Value.slice none 0 0]), (Js2, [Value.int .i64 0, Value.int .i64 0, Value.string ⟨#[]⟩, Value.string ⟨#[]⟩, Value.string ⟨#[]⟩, Value.slice none 0 0, Value.slice none 0 0, Value.int .i64 0, Value.slice none 0 0, Value.slice none 0 0, Value.slice none 0 0]), (gb, zH .u8 (lb [3, 1, 1, 97, 0, 0, 0, 0, 0, 0, 0, 0, 0]) 13)] ∧ Below w.heap.size w w6) := ⟨H5.out.1.change 0 rfl hp hn, Below.kp H5.out.2 hp o_Js4.out H5.out.2.size⟩
 clear hn hp
 clear H5
 simp only [Act.put, sa, sz, ss]
 refine zA (d := 10) (v := PT Js3 0) (w' := w6) rfl rfl rfl (by go_simp) ?_
 simp only [Act.put, sa, sz, ss]
 refine sG rfl (fun h => ex_st1 (v := .int .i64 3) h 1 rfl rfl As3 rfl rfl (rfl) (Nat.le_of_ble_eq_true rfl)) 1 [_, (_, [Value.int .i64 3, Value.int .i64 0, Value.string ⟨#[]⟩, Value.string ⟨#[]⟩, Value.string ⟨#[]⟩, Value.slice none 0 0, Value.slice none 0 0, Value.int .i64 0, Value.slice none 0 0, Value.slice none 0 0, Value.slice none 0 0]), _, _] H6 o_Js3 fun w7 H7 => ?_
 clear H6
 refine zC (zB (wp_seq ?_))
 refine zD (l := [0, 1, 2]) rfl ?_
 refine zF (d := 11) (R := fun vv w' => vv = .int .i64 1 ∧ Mm w' [(Js4, [Value.slice (some ⟨gb, 2, none⟩) 11 (13 + x - 2), Value.bool false])] ∧ Kp Js4 w7 w') rfl rfl rfl (zG (args := #[PT Js4 0, .int .i64 1, .int .i64 255]) rfl call44 rfl (mpn rfl)) (Calls.mono ((fun w hm => num_13 gb x Js4 1 12 1 255 (lb [1]) (by decide) (by decide) (by decide) (by decide) (lb_lt _ (by decide)) (nv_bd (lb_lt _ (by decide)) (by decide)) (fun i hi => by obtain rfl : i = 0 := (by omega); rfl) (by decide) w hm) w7 (H7.out.1.two 0 3 rfl rfl (by decide))) (fun e w2 hh => ⟨_, hh.1, rfl, hh.2⟩)) ?_
 rintro _ w8 ⟨rfl, hn, hp⟩
 have H8 : Hid (Mm w8 [(Js4, [Value.slice (some ⟨gb, 2, none⟩) 11 (13 + x - 2), Value.bool false]), (Js3, [Value.int .i64 3, Value.int .i64 0, Value.string ⟨#[]⟩, Value.string ⟨#[]⟩, Value.string ⟨#[]⟩, Value.slice none 0 0, Value.slice none 0 0, Value.int .i64 0, Value.slice none 0 0, Value.slice none 0 0, Value.slice none 0 0]), (Js2, [Value.int .i64 0, Value.int .i64 0, Value.string ⟨#[]⟩, Value.string ⟨#[]⟩, Value.string ⟨#[]⟩, Value.slice none 0 0, Value.slice none 0 0, Value.int .i64 0, Value.slice none 0 0, Value.slice none 0 0, Value.slice none 0 0]), (gb, zH .u8 (lb [3, 1, 1, 97, 0, 0, 0, 0, 0, 0, 0, 0, 0]) 13)] ∧ Below w.heap.size w w8) := ⟨H7.out.1.change 0 rfl hp hn, Below.kp H7.out.2 hp o_Js4.out H7.out.2.size⟩
 clear hn hp
 clear H7
 simp only [Act.put, sa, sz, ss]
 refine zA (d := 12) (v := PT Js3 1) (w' := w8) rfl rfl rfl (by go_simp) ?_
 simp only [Act.put, sa, sz, ss]
 refine sG rfl (fun h => ex_st1 (v := .int .i64 1) h 1 rfl rfl As3 rfl rfl (rfl) (Nat.le_of_ble_eq_true rfl)) 1 [_, (_, [Value.int .i64 3, Value.int .i64 1, Value.string ⟨#[]⟩, Value.string ⟨#[]⟩, Value.string ⟨#[]⟩, Value.slice none 0 0, Value.slice none 0 0, Value.int .i64 0, Value.slice none 0 0, Value.slice none 0 0, Value.slice none 0 0]), _, _] H8 o_Js3 fun w9 H9 => ?_
 clear H8
 refine zC (zB (wp_seq ?_))
 refine zD (l := [0, 1, 2, 3]) rfl ?_
 refine zF (d := 13) (R := fun vv w' => vv = .slice (some ⟨gb, 3, none⟩) 1 (13 + x - 3) ∧ Mm w' [(Js4, [Value.slice (some ⟨gb, 4, none⟩) 9 (13 + x - 4), Value.bool false])] ∧ Kp Js4 w9 w') rfl rfl rfl (zG (args := #[PT Js4 0, .int .i64 1, .int .i64 64]) rfl call58 rfl (mpn rfl)) (Calls.mono (txt_13 gb x Js4 2 11 1 64 1 (lb [1]) (by decide) (by decide) (by decide) (by decide) (lb_lt _ (by decide)) (nv_bd (lb_lt _ (by decide)) (by decide)) (fun i hi => by obtain rfl : i = 0 := (by omega); rfl) rfl (by decide) (by decide) w9 (H9.out.1.two 0 3 rfl rfl (by decide))) (fun e w2 hh => ⟨_, hh.1, rfl, hh.2⟩)) ?_
 rintro _ w10 ⟨rfl, hn, hp⟩
 have H10 : Hid (Mm w10 [(Js4, [Value.slice (some ⟨gb, 4, none⟩) 9 (13 + x - 4), Value.bool false]), (Js3, [Value.int .i64 3, Value.int .i64 1, Value.string ⟨#[]⟩, Value.string ⟨#[]⟩, Value.string ⟨#[]⟩, Value.slice none 0 0, Value.slice none 0 0, Value.int .i64 0, Value.slice none 0 0, Value.slice none 0 0, Value.slice none 0 0]), (Js2, [Value.int .i64 0, Value.int .i64 0, Value.string ⟨#[]⟩, Value.string ⟨#[]⟩, Value.string ⟨#[]⟩, Value.slice none 0 0, Value.slice none 0 0, Value.int .i64 0, Value.slice none 0 0, Value.slice none 0 0, Value.slice none 0 0]), (gb, zH .u8 (lb [3, 1, 1, 97, 0, 0, 0, 0, 0, 0, 0, 0, 0]) 13)] ∧ Below w.heap.size w w10) := ⟨H9.out.1.change 0 rfl hp hn, Below.kp H9.out.2 hp o_Js4.out H9.out.2.size⟩
 clear hn hp
 clear H9
 simp only [Act.put, sa, sz, ss]
 refine zA (d := 14) (v := .string ⟨#[97]⟩) (w' := w10) rfl rfl rfl (ex_b2s1 H10.out.1 3 rfl rfl (by omega) rfl rfl) ?_
 simp only [Act.put, sa, sz, ss]
 refine zA (d := 15) (v := PT Js3 2) (w' := w10) rfl rfl rfl (by go_simp) ?_
 simp only [Act.put, sa, sz, ss]
 refine sG rfl (fun h => ex_st1 (v := .string ⟨#[97]⟩) h 1 rfl rfl As9 rfl rfl (rfl) (Nat.le_of_ble_eq_true rfl)) 1 [_, (_, e1c), _, _] H10 o_Js3 fun w11 H11 => ?_
 clear H10
 refine zC (zB (wp_seq ?_))
 refine zD (l := [0, 1, 2, 3]) rfl ?_
 refine zF (d := 16) (R := fun vv w' => vv = .slice (some ⟨gb, 5, none⟩) 0 (13 + x - 5) ∧ Mm w' [(Js4, [Value.slice (some ⟨gb, 5, none⟩) 8 (13 + x - 5), Value.bool false])] ∧ Kp Js4 w11 w') rfl rfl rfl (zG (args := #[PT Js4 0, .int .i64 1, .int .i64 64]) rfl call58 rfl (mpn rfl)) (Calls.mono (txt_13 gb x Js4 4 9 1 64 0 (lb [0]) (by decide) (by decide) (by decide) (by decide) (lb_lt _ (by decide)) (nv_bd (lb_lt _ (by decide)) (by decide)) (fun i hi => by obtain rfl : i = 0 := (by omega); rfl) rfl (by decide) (by decide) w11 (H11.out.1.two 0 3 rfl rfl (by decide))) (fun e w2 hh => ⟨_, hh.1, rfl, hh.2⟩)) ?_
 rintro _ w12 ⟨rfl, hn, hp⟩
 have H12 : Hid (Mm w12 [(Js4, [Value.slice (some ⟨gb, 5, none⟩) 8 (13 + x - 5), Value.bool false]), (Js3, e1c), (Js2, [Value.int .i64 0, Value.int .i64 0, Value.string ⟨#[]⟩, Value.string ⟨#[]⟩, Value.string ⟨#[]⟩, Value.slice none 0 0, Value.slice none 0 0, Value.int .i64 0, Value.slice none 0 0, Value.slice none 0 0, Value.slice none 0 0]), (gb, zH .u8 (lb [3, 1, 1, 97, 0, 0, 0, 0, 0, 0, 0, 0, 0]) 13)] ∧ Below w.heap.size w w12) := ⟨H11.out.1.change 0 rfl hp hn, Below.kp H11.out.2 hp o_Js4.out H11.out.2.size⟩
 clear hn hp
 clear H11
 simp only [Act.put, sa, sz, ss]
 refine zA (d := 17) (v := .string ⟨#[]⟩) (w' := w12) rfl rfl rfl (ex_b2s0 rfl rfl) ?_
 simp only [Act.put, sa, sz, ss]
 refine zA (d := 18) (v := PT Js3 3) (w' := w12) rfl rfl rfl (by go_simp) ?_
 simp only [Act.put, sa, sz, ss]
 refine sG rfl (fun h => ex_st1 (v := .string ⟨#[]⟩) h 1 rfl rfl As9 rfl rfl (rfl) (Nat.le_of_ble_eq_true rfl)) 1 [_, (_, e1c), _, _] H12 o_Js3 fun w13 H13 => ?_
 clear H12
 refine zC (zB (wp_seq ?_))
 refine zD (l := [0, 1, 2, 3]) rfl ?_
 refine zF (d := 19) (R := fun vv w' => vv = .slice (some ⟨gb, 6, none⟩) 0 (13 + x - 6) ∧ Mm w' [(Js4, [Value.slice (some ⟨gb, 6, none⟩) 7 (13 + x - 6), Value.bool false])] ∧ Kp Js4 w13 w') rfl rfl rfl (zG (args := #[PT Js4 0, .int .i64 1, .int .i64 64]) rfl call58 rfl (mpn rfl)) (Calls.mono (txt_13 gb x Js4 5 8 1 64 0 (lb [0]) (by decide) (by decide) (by decide) (by decide) (lb_lt _ (by decide)) (nv_bd (lb_lt _ (by decide)) (by decide)) (fun i hi => by obtain rfl : i = 0 := (by omega); rfl) rfl (by decide) (by decide) w13 (H13.out.1.two 0 3 rfl rfl (by decide))) (fun e w2 hh => ⟨_, hh.1, rfl, hh.2⟩)) ?_
 rintro _ w14 ⟨rfl, hn, hp⟩
 have H14 : Hid (Mm w14 [(Js4, [Value.slice (some ⟨gb, 6, none⟩) 7 (13 + x - 6), Value.bool false]), (Js3, e1c), (Js2, [Value.int .i64 0, Value.int .i64 0, Value.string ⟨#[]⟩, Value.string ⟨#[]⟩, Value.string ⟨#[]⟩, Value.slice none 0 0, Value.slice none 0 0, Value.int .i64 0, Value.slice none 0 0, Value.slice none 0 0, Value.slice none 0 0]), (gb, zH .u8 (lb [3, 1, 1, 97, 0, 0, 0, 0, 0, 0, 0, 0, 0]) 13)] ∧ Below w.heap.size w w14) := ⟨H13.out.1.change 0 rfl hp hn, Below.kp H13.out.2 hp o_Js4.out H13.out.2.size⟩
 clear hn hp
 clear H13
 simp only [Act.put, sa, sz, ss]
 refine zA (d := 20) (v := .string ⟨#[]⟩) (w' := w14) rfl rfl rfl (ex_b2s0 rfl rfl) ?_
 simp only [Act.put, sa, sz, ss]
 refine zA (d := 21) (v := PT Js3 4) (w' := w14) rfl rfl rfl (by go_simp) ?_
 simp only [Act.put, sa, sz, ss]
 refine sG rfl (fun h => ex_st1 (v := .string ⟨#[]⟩) h 1 rfl rfl As9 rfl rfl (rfl) (Nat.le_of_ble_eq_true rfl)) 1 [_, (_, e1c), _, _] H14 o_Js3 fun w15 H15 => ?_
 clear H14
 refine zC (zB (wp_seq ?_))
 refine zD (l := [0, 1, 2, 3]) rfl ?_
 refine zF (d := 22) (R := fun vv w' => vv = .slice (some ⟨gb, 8, none⟩) 0 (13 + x - 8) ∧ Mm w' [(Js4, [Value.slice (some ⟨gb, 8, none⟩) 5 (13 + x - 8), Value.bool false])] ∧ Kp Js4 w15 w') rfl rfl rfl (zG (args := #[PT Js4 0, .int .i64 2, .int .i64 4096]) rfl call58 rfl (mpn rfl)) (Calls.mono (txt_13 gb x Js4 6 7 2 4096 0 (lb [0, 0]) (by decide) (by decide) (by decide) (by decide) (lb_lt _ (by decide)) (nv_bd (lb_lt _ (by decide)) (by decide)) (fun i hi => by obtain rfl | rfl : i = 0 ∨ i = 1 := (by omega) <;> rfl) rfl (by decide) (by decide) w15 (H15.out.1.two 0 3 rfl rfl (by decide))) (fun e w2 hh => ⟨_, hh.1, rfl, hh.2⟩)) ?_
 rintro _ w16 ⟨rfl, hn, hp⟩
 have H16 : Hid (Mm w16 [(Js4, [Value.slice (some ⟨gb, 8, none⟩) 5 (13 + x - 8), Value.bool false]), (Js3, e1c), (Js2, [Value.int .i64 0, Value.int .i64 0, Value.string ⟨#[]⟩, Value.string ⟨#[]⟩, Value.string ⟨#[]⟩, Value.slice none 0 0, Value.slice none 0 0, Value.int .i64 0, Value.slice none 0 0, Value.slice none 0 0, Value.slice none 0 0]), (gb, zH .u8 (lb [3, 1, 1, 97, 0, 0, 0, 0, 0, 0, 0, 0, 0]) 13)] ∧ Below w.heap.size w w16) := ⟨H15.out.1.change 0 rfl hp hn, Below.kp H15.out.2 hp o_Js4.out H15.out.2.size⟩
 clear hn hp
 clear H15
 simp only [Act.put, sa, sz, ss]
 refine zF (d := 23) (R := fun vv w' => vv = .slice none 0 0 ∧ Below w16.heap.size w16 w') rfl rfl rfl (zG (args := #[.slice (some ⟨gb, 8, none⟩) 0 (13 + x - 8)]) rfl call57 rfl (mpn rfl)) (Calls.mono (fresh_nil _ _ w16) (fun e w2 hh => ⟨_, hh.1, rfl, hh.2⟩)) ?_
 rintro _ w17 ⟨rfl, hb⟩
 have H17 : Hid (Mm w17 [(Js4, [Value.slice (some ⟨gb, 8, none⟩) 5 (13 + x - 8), Value.bool false]), (Js3, e1c), (Js2, [Value.int .i64 0, Value.int .i64 0, Value.string ⟨#[]⟩, Value.string ⟨#[]⟩, Value.string ⟨#[]⟩, Value.slice none 0 0, Value.slice none 0 0, Value.int .i64 0, Value.slice none 0 0, Value.slice none 0 0, Value.slice none 0 0]), (gb, zH .u8 (lb [3, 1, 1, 97, 0, 0, 0, 0, 0, 0, 0, 0, 0]) 13)] ∧ Below w.heap.size w w17) := ⟨H16.out.1.below hb, H16.out.2.trans (hb.mono H16.out.2.size)⟩
 clear hb
 clear H16
 simp only [Act.put, sa, sz, ss]
 refine zA (d := 24) (v := PT Js3 5) (w' := w17) rfl rfl rfl (by go_simp) ?_
 simp only [Act.put, sa, sz, ss]
 refine sG rfl (fun h => ex_st1 (v := .slice none 0 0) h 1 rfl rfl As51 rfl rfl (rfl) (Nat.le_of_ble_eq_true rfl)) 1 [_, (_, e1c), _, _] H17 o_Js3 fun w18 H18 => ?_
 clear H17
 refine zC (zB (wp_seq ?_))
 refine zD (l := [0, 1, 2, 3]) rfl ?_
 refine zA (d := 25) (v := .func (.func 60) #[] #[PT Js4 0]) (w' := w18) rfl rfl rfl (by kernel_rfl) ?_
 simp only [Act.put, sa, sz, ss]
 refine zF (d := 26) (R := fun vv w' => vv = .slice none 0 0 ∧ Mm w' [(Js4, [Value.slice (some ⟨gb, 9, none⟩) 4 (13 + x - 9), Value.bool false])] ∧ Kp Js4 w18 w') rfl rfl rfl (zG (args := #[PT Js4 0, .int .i64 1, .int .i64 16, .func (.func 60) #[] #[PT Js4 0]]) rfl call59 rfl (mpn rfl)) (Calls.mono (manyI_0_13 gb x Js4 8 5 16 (.func (.func 60) #[] #[PT Js4 0]) rfl (by decide) (by decide) (by decide) w18 (H18.out.1.two 0 3 rfl rfl (by decide))) (fun e w2 hh => ⟨_, hh.1, rfl, hh.2⟩)) ?_
 rintro _ w19 ⟨rfl, hn, hp⟩
 have H19 : Hid (Mm w19 [(Js4, [Value.slice (some ⟨gb, 9, none⟩) 4 (13 + x - 9), Value.bool false]), (Js3, e1c), (Js2, [Value.int .i64 0, Value.int .i64 0, Value.string ⟨#[]⟩, Value.string ⟨#[]⟩, Value.string ⟨#[]⟩, Value.slice none 0 0, Value.slice none 0 0, Value.int .i64 0, Value.slice none 0 0, Value.slice none 0 0, Value.slice none 0 0]), (gb, zH .u8 (lb [3, 1, 1, 97, 0, 0, 0, 0, 0, 0, 0, 0, 0]) 13)] ∧ Below w.heap.size w w19) := ⟨H18.out.1.change 0 rfl hp hn, Below.kp H18.out.2 hp o_Js4.out H18.out.2.size⟩
 clear hn hp
 clear H18
 simp only [Act.put, sa, sz, ss]
 refine zA (d := 27) (v := PT Js3 6) (w' := w19) rfl rfl rfl (by go_simp) ?_
 simp only [Act.put, sa, sz, ss]
 refine sG rfl (fun h => ex_st1 (v := .slice none 0 0) h 1 rfl rfl Tryz.sizeOf59 rfl rfl (rfl) (Nat.le_of_ble_eq_true rfl)) 1 [_, (_, e1c), _, _] H19 o_Js3 fun w20 H20 => ?_
 clear H19
 refine zC (zB (wp_seq ?_))
 refine zD (l := [0, 1, 2]) rfl ?_
 refine zF (d := 28) (R := fun vv w' => vv = .int .i64 0 ∧ Mm w' [(Js4, [Value.slice (some ⟨gb, 10, none⟩) 3 (13 + x - 10), Value.bool false])] ∧ Kp Js4 w20 w') rfl rfl rfl (zG (args := #[PT Js4 0, .int .i64 1, .int .i64 2]) rfl call44 rfl (mpn rfl)) (Calls.mono ((fun w hm => num_13 gb x Js4 9 4 1 2 (lb [0]) (by decide) (by decide) (by decide) (by decide) (lb_lt _ (by decide)) (nv_bd (lb_lt _ (by decide)) (by decide)) (fun i hi => by obtain rfl : i = 0 := (by omega); rfl) (by decide) w hm) w20 (H20.out.1.two 0 3 rfl rfl (by decide))) (fun e w2 hh => ⟨_, hh.1, rfl, hh.2⟩)) ?_
 rintro _ w21 ⟨rfl, hn, hp⟩
 have H21 : Hid (Mm w21 [(Js4, [Value.slice (some ⟨gb, 10, none⟩) 3 (13 + x - 10), Value.bool false]), (Js3, e1c), (Js2, [Value.int .i64 0, Value.int .i64 0, Value.string ⟨#[]⟩, Value.string ⟨#[]⟩, Value.string ⟨#[]⟩, Value.slice none 0 0, Value.slice none 0 0, Value.int .i64 0, Value.slice none 0 0, Value.slice none 0 0, Value.slice none 0 0]), (gb, zH .u8 (lb [3, 1, 1, 97, 0, 0, 0, 0, 0, 0, 0, 0, 0]) 13)] ∧ Below w.heap.size w w21) := ⟨H20.out.1.change 0 rfl hp hn, Below.kp H20.out.2 hp o_Js4.out H20.out.2.size⟩
 clear hn hp
 clear H20
 simp only [Act.put, sa, sz, ss]
 refine zA (d := 29) (v := PT Js3 7) (w' := w21) rfl rfl rfl (by go_simp) ?_
 simp only [Act.put, sa, sz, ss]
 refine sG rfl (fun h => ex_st1 (v := .int .i64 0) h 1 rfl rfl Tryz.sizeOf28 rfl rfl (rfl) (Nat.le_of_ble_eq_true rfl)) 1 [_, (_, e1c), _, _] H21 o_Js3 fun w22 H22 => ?_
 clear H21
 refine zC (zB (wp_seq ?_))
 refine zD (l := [0, 1, 2, 3, 4]) rfl ?_
 refine zA (d := 30) (v := PT Js3 7) (w' := w22) rfl rfl rfl (by go_simp) ?_
 simp only [Act.put, sa, sz, ss]
 refine zA (d := 31) (v := .int .i64 0) (w' := w22) rfl rfl rfl (zJ H22.out.1 1 rfl rfl rfl Ai28 rfl) ?_
 simp only [Act.put, sa, sz, ss]
 refine zF (d := 32) (R := fun vv w' => vv = .agg ([Value.int .i64 32, Value.int .i64 48, Value.int .i64 96]).toArray ∧ Below w22.heap.size w22 w') rfl rfl rfl (zG (args := #[.int .i64 0]) rfl call48 rfl (mpn rfl)) (Calls.mono (sizesOf_0 w22) (fun e w2 hh => ⟨_, hh.1, rfl, hh.2⟩)) ?_
 rintro _ w23 ⟨rfl, hb⟩
 have H23 : Hid (Mm w23 [(Js4, [Value.slice (some ⟨gb, 10, none⟩) 3 (13 + x - 10), Value.bool false]), (Js3, e1c), (Js2, [Value.int .i64 0, Value.int .i64 0, Value.string ⟨#[]⟩, Value.string ⟨#[]⟩, Value.string ⟨#[]⟩, Value.slice none 0 0, Value.slice none 0 0, Value.int .i64 0, Value.slice none 0 0, Value.slice none 0 0, Value.slice none 0 0]), (gb, zH .u8 (lb [3, 1, 1, 97, 0, 0, 0, 0, 0, 0, 0, 0, 0]) 13)] ∧ Below w.heap.size w w23) := ⟨H22.out.1.below hb, H22.out.2.trans (hb.mono H22.out.2.size)⟩
 clear hb
 clear H22
 simp only [Act.put, sa, sz, ss]
 refine zA (d := 6) (v := PT w23.heap.size 0) (w' := (w23.alloc (.cells ([Value.int .i64 0, Value.int .i64 0, Value.int .i64 0] : List Value).toArray 104))) rfl rfl rfl (ex_mk104 rfl) ?_
 simp only [Act.put, sa, sz, ss]
 have o_Js24 : Hid (w.heap.size ≤ w23.heap.size) := H23.out.2.size
 have H24 : Hid (Mm (w23.alloc (.cells ([Value.int .i64 0, Value.int .i64 0, Value.int .i64 0] : List Value).toArray 104)) ((w23.heap.size, [Value.int .i64 0, Value.int .i64 0, Value.int .i64 0]) :: [(Js4, [Value.slice (some ⟨gb, 10, none⟩) 3 (13 + x - 10), Value.bool false]), (Js3, e1c), (Js2, [Value.int .i64 0, Value.int .i64 0, Value.string ⟨#[]⟩, Value.string ⟨#[]⟩, Value.string ⟨#[]⟩, Value.slice none 0 0, Value.slice none 0 0, Value.int .i64 0, Value.slice none 0 0, Value.slice none 0 0, Value.slice none 0 0]), (gb, zH .u8 (lb [3, 1, 1, 97, 0, 0, 0, 0, 0, 0, 0, 0, 0]) 13)]) ∧ Below w.heap.size w (w23.alloc (.cells ([Value.int .i64 0, Value.int .i64 0, Value.int .i64 0] : List Value).toArray 104))) := ⟨H23.out.1.alloc _ 104 rfl, H23.out.2.trans (((Below.refl _ _).alloc (Nat.le_refl _) _).mono H23.out.2.size)⟩
 clear H23
 generalize hgw : w23.alloc (.cells ([Value.int .i64 0, Value.int .i64 0, Value.int .i64 0] : List Value).toArray 104) = w24 at H24 ⊢
 clear hgw
 generalize w23.heap.size = Js24 at o_Js24 H24 ⊢
 refine sG rfl (fun h => ex_storeT (vs := [Value.int .i64 32, Value.int .i64 48, Value.int .i64 96]) h 0 rfl rfl rfl rfl As104 rfl (Nat.le_of_ble_eq_true rfl)) 0 [(_, [Value.int .i64 32, Value.int .i64 48, Value.int .i64 96]), _, _, _, _] H24 o_Js24 fun w25 H25 => ?_
 clear H24
 refine zC (zB (wp_seq ?_))
 refine zD (l := [0, 1, 2, 3]) rfl ?_
 refine zA (d := 33) (v := .func (.func 62) #[] #[PT Js4 0, PT Js3 0, PT Js24 0]) (w' := w25) rfl rfl rfl (by kernel_rfl) ?_
 simp only [Act.put, sa, sz, ss]
 refine zF (d := 34) (R := fun vv w' => vv = .slice none 0 0 ∧ Mm w' [(Js4, [Value.slice (some ⟨gb, 11, none⟩) 2 (13 + x - 11), Value.bool false])] ∧ Kp Js4 w25 w') rfl rfl rfl (zG (args := #[PT Js4 0, .int .i64 1, .int .i64 64, .func (.func 62) #[] #[PT Js4 0, PT Js3 0, PT Js24 0]]) rfl call61 rfl (mpn rfl)) (Calls.mono (manyN_0_13 gb x Js4 10 3 64 (.func (.func 62) #[] #[PT Js4 0, PT Js3 0, PT Js24 0]) rfl (by decide) (by decide) (by decide) w25 (H25.out.1.two 1 4 rfl rfl (by decide))) (fun e w2 hh => ⟨_, hh.1, rfl, hh.2⟩)) ?_
 rintro _ w26 ⟨rfl, hn, hp⟩
 have H26 : Hid (Mm w26 [(Js24, [Value.int .i64 32, Value.int .i64 48, Value.int .i64 96]), (Js4, [Value.slice (some ⟨gb, 11, none⟩) 2 (13 + x - 11), Value.bool false]), (Js3, e1c), (Js2, [Value.int .i64 0, Value.int .i64 0, Value.string ⟨#[]⟩, Value.string ⟨#[]⟩, Value.string ⟨#[]⟩, Value.slice none 0 0, Value.slice none 0 0, Value.int .i64 0, Value.slice none 0 0, Value.slice none 0 0, Value.slice none 0 0]), (gb, zH .u8 (lb [3, 1, 1, 97, 0, 0, 0, 0, 0, 0, 0, 0, 0]) 13)] ∧ Below w.heap.size w w26) := ⟨H25.out.1.change 1 rfl hp hn, Below.kp H25.out.2 hp o_Js4.out H25.out.2.size⟩
 clear hn hp
 clear H25
 simp only [Act.put, sa, sz, ss]
 refine zA (d := 35) (v := PT Js3 8) (w' := w26) rfl rfl rfl (by go_simp) ?_
 simp only [Act.put, sa, sz, ss]
 refine sG rfl (fun h => ex_st1 (v := .slice none 0 0) h 2 rfl rfl Tryz.sizeOf60 rfl rfl (rfl) (Nat.le_of_ble_eq_true rfl)) 2 [_, _, (_, e1c), _, _] H26 o_Js3 fun w27 H27 => ?_
 clear H26
 refine zC (zB (wp_seq ?_))
 refine zD (l := [0, 1, 2, 3]) rfl ?_
 refine zA (d := 36) (v := .func (.func 65) #[] #[PT Js3 0, PT Js4 0, PT Js24 0]) (w' := w27) rfl rfl rfl (by kernel_rfl) ?_
 simp only [Act.put, sa, sz, ss]
 refine zF (d := 37) (R := fun vv w' => vv = .slice none 0 0 ∧ Mm w' [(Js4, [Value.slice (some ⟨gb, 12, none⟩) 1 (13 + x - 12), Value.bool false])] ∧ Kp Js4 w27 w') rfl rfl rfl (zG (args := #[PT Js4 0, .int .i64 1, .int .i64 64, .func (.func 65) #[] #[PT Js3 0, PT Js4 0, PT Js24 0]]) rfl call64 rfl (mpn rfl)) (Calls.mono (manyK_0_13 gb x Js4 11 2 64 (.func (.func 65) #[] #[PT Js3 0, PT Js4 0, PT Js24 0]) rfl (by decide) (by decide) (by decide) w27 (H27.out.1.two 1 4 rfl rfl (by decide))) (fun e w2 hh => ⟨_, hh.1, rfl, hh.2⟩)) ?_
 rintro _ w28 ⟨rfl, hn, hp⟩
 have H28 : Hid (Mm w28 [(Js24, [Value.int .i64 32, Value.int .i64 48, Value.int .i64 96]), (Js4, [Value.slice (some ⟨gb, 12, none⟩) 1 (13 + x - 12), Value.bool false]), (Js3, e1c), (Js2, [Value.int .i64 0, Value.int .i64 0, Value.string ⟨#[]⟩, Value.string ⟨#[]⟩, Value.string ⟨#[]⟩, Value.slice none 0 0, Value.slice none 0 0, Value.int .i64 0, Value.slice none 0 0, Value.slice none 0 0, Value.slice none 0 0]), (gb, zH .u8 (lb [3, 1, 1, 97, 0, 0, 0, 0, 0, 0, 0, 0, 0]) 13)] ∧ Below w.heap.size w w28) := ⟨H27.out.1.change 1 rfl hp hn, Below.kp H27.out.2 hp o_Js4.out H27.out.2.size⟩
 clear hn hp
 clear H27
 simp only [Act.put, sa, sz, ss]
 refine zA (d := 38) (v := PT Js3 9) (w' := w28) rfl rfl rfl (by go_simp) ?_
 simp only [Act.put, sa, sz, ss]
 refine sG rfl (fun h => ex_st1 (v := .slice none 0 0) h 2 rfl rfl Tryz.sizeOf61 rfl rfl (rfl) (Nat.le_of_ble_eq_true rfl)) 2 [_, _, (_, e1c), _, _] H28 o_Js3 fun w29 H29 => ?_
 clear H28
 refine zC (zB (wp_seq ?_))
 refine zD (l := [0, 1, 2, 3]) rfl ?_
 refine zA (d := 39) (v := .func (.func 70) #[] #[PT Js3 0, PT Js4 0, PT Js24 0]) (w' := w29) rfl rfl rfl (by kernel_rfl) ?_
 simp only [Act.put, sa, sz, ss]
 refine zF (d := 40) (R := fun vv w' => vv = .slice none 0 0 ∧ Mm w' [(Js4, [sdrop (.slice (some ⟨gb, 12, none⟩) 1 (13 + x - 12)) 1, Value.bool false])] ∧ Kp Js4 w29 w') rfl rfl rfl (zG (args := #[PT Js4 0, .int .i64 1, .int .i64 64, .func (.func 70) #[] #[PT Js3 0, PT Js4 0, PT Js24 0]]) rfl call69 rfl (mpn rfl)) (Calls.mono (manyS_E Js4 gb 12 (13 + x - 12) 64 (.func (.func 70) #[] #[PT Js3 0, PT Js4 0, PT Js24 0]) (zH .u8 (lb [3, 1, 1, 97, 0, 0, 0, 0, 0, 0, 0, 0, 0]) 13) rfl (by omega) (by decide) w29 (H29.out.1.two 1 4 rfl rfl (by decide))) (fun e w2 hh => ⟨_, hh.1, rfl, hh.2⟩)) ?_
 rintro _ w30 ⟨rfl, hn, hp⟩
 have H30 : Hid (Mm w30 [(Js24, [Value.int .i64 32, Value.int .i64 48, Value.int .i64 96]), (Js4, [sdrop (.slice (some ⟨gb, 12, none⟩) 1 (13 + x - 12)) 1, Value.bool false]), (Js3, e1c), (Js2, [Value.int .i64 0, Value.int .i64 0, Value.string ⟨#[]⟩, Value.string ⟨#[]⟩, Value.string ⟨#[]⟩, Value.slice none 0 0, Value.slice none 0 0, Value.int .i64 0, Value.slice none 0 0, Value.slice none 0 0, Value.slice none 0 0]), (gb, zH .u8 (lb [3, 1, 1, 97, 0, 0, 0, 0, 0, 0, 0, 0, 0]) 13)] ∧ Below w.heap.size w w30) := ⟨H29.out.1.change 1 rfl hp hn, Below.kp H29.out.2 hp o_Js4.out H29.out.2.size⟩
 clear hn hp
 clear H29
 simp only [Act.put, sa, sz, ss]
 refine zA (d := 41) (v := PT Js3 10) (w' := w30) rfl rfl rfl (by go_simp) ?_
 simp only [Act.put, sa, sz, ss]
 refine sG rfl (fun h => ex_st1 (v := .slice none 0 0) h 2 rfl rfl Tryz.sizeOf62 rfl rfl (rfl) (Nat.le_of_ble_eq_true rfl)) 2 [_, _, (_, e1c), _, _] H30 o_Js3 fun w31 H31 => ?_
 clear H30
 refine zC (zB ?_)
 refine wp_seq (wp_seq ?_)
 refine zD (l := [0, 1]) rfl ?_
 refine zF (d := 42) (R := fun vv w' => vv = .bool true ∧ Below w31.heap.size w31 w') rfl rfl rfl (zG (args := #[PT Js4 0]) rfl call45 rfl (mpn rfl)) (Calls.mono (whole_yes Js4 _ _ w31 (H31.out.1.one 1 rfl)) (fun e w2 hh => ⟨_, hh.1, rfl, hh.2⟩)) ?_
 rintro _ w32 ⟨rfl, hb⟩
 have H32 : Hid (Mm w32 [(Js24, [Value.int .i64 32, Value.int .i64 48, Value.int .i64 96]), (Js4, [sdrop (.slice (some ⟨gb, 12, none⟩) 1 (13 + x - 12)) 1, Value.bool false]), (Js3, e1c), (Js2, [Value.int .i64 0, Value.int .i64 0, Value.string ⟨#[]⟩, Value.string ⟨#[]⟩, Value.string ⟨#[]⟩, Value.slice none 0 0, Value.slice none 0 0, Value.int .i64 0, Value.slice none 0 0, Value.slice none 0 0, Value.slice none 0 0]), (gb, zH .u8 (lb [3, 1, 1, 97, 0, 0, 0, 0, 0, 0, 0, 0, 0]) 13)] ∧ Below w.heap.size w w32) := ⟨H31.out.1.below hb, H31.out.2.trans (hb.mono H31.out.2.size)⟩
 clear hb
 clear H31
 simp only [Act.put, sa, sz, ss]
 refine zA (d := 43) (v := .bool false) (w' := w32) rfl rfl rfl (by go_simp) ?_
 simp only [Act.put, sa, sz, ss]
 refine zC (zB ?_)
 refine wp_cond_false rfl (wp_skip ?_)
 refine zB (wp_seq ?_)
 refine zD (l := [0, 1, 2]) rfl ?_
 refine zA (d := 45) (v := .agg (e1c).toArray) (w' := w32) rfl rfl rfl (ex_loadT H32.out.1 2 rfl rfl rfl Ai64 As64 rfl rfl) ?_
 simp only [Act.put, sa, sz, ss]
 refine sG rfl (fun h => ex_storeT (vs := e1c) h 3 rfl rfl rfl rfl As64 rfl (Nat.le_of_ble_eq_true rfl)) 3 [_, _, _, (_, e1c), _] H32 o_Js2 fun w33 H33 => ?_
 clear H32
 refine zA (d := 3) (v := .int .i64 0) (w' := w33) rfl rfl rfl (rfl) ?_
 simp only [Act.put, sa, sz, ss]
 refine zC (zB (wp_ret ?_))
 repeat (first | refine zL ?_ | refine zK ?_)
 have hf0 := var_T H33.out.1 3 rfl Ai64 As64 rfl
 refine bodyPost_ret (v := .tuple #[.agg (e1c).toArray, .int .i64 0]) (by simp [results, Tryz.results21, asAddr, hf0]) rfl ?_
 exact ⟨rfl, H33.out.2⟩
theorem num_14 (gb x gr o m k mo : Nat) (f : Nat → Nat) (hom : o + m = 14) (hk : k < m) (h8 : k ≤ 8) (hmo : mo < 9223372036854775808) (hf : ∀ j, f j < 256) (hn : ∀ z, z < k → nv f z * 256 < 18446744073709551616) (hcs : ∀ i, i < k → (zH .u8 (lb [3, 1, 1, 97, 0, 0, 0, 0, 0, 0, 0, 0, 0, 0]) 14)[o + i]? = some (Z8 (f i))) (hV : nv f k ≤ mo) (w : World) (hm : Mm w [(gr, [Value.slice (some ⟨gb, o, none⟩) m (14 + x - o), Value.bool false]), (gb, zH .u8 (lb [3, 1, 1, 97, 0, 0, 0, 0, 0, 0, 0, 0, 0, 0]) 14)]) :
  Calls Tryz.prog 44 #[PT gr 0, .int .i64 ((k : Nat) : Int), .int .i64 ((mo : Nat) : Int)] w fun e w' => e = .returned (.int .i64 ((nv f k : Nat) : Int)) ∧ Mm w' [(gr, [Value.slice (some ⟨gb, o + k, none⟩) (m - k) (14 + x - (o + k)), Value.bool false])] ∧ Kp gr w w' := by
 have h := number_at gr gb o m (14 + x - o) k mo f _ (by omega) h8 (by omega) hmo hf hn hcs hV (by omega) w hm
 rw [Nat.sub_sub] at h
 exact h
theorem txt_14 (gb x gr o m k mo L : Nat) (f : Nat → Nat) (hom : o + m = 14) (hk : k + L < m) (h8 : k ≤ 8) (hmo : mo < 9223372036854775808) (hf : ∀ j, f j < 256) (hn : ∀ z, z < k → nv f z * 256 < 18446744073709551616) (hcs : ∀ i, i < k → (zH .u8 (lb [3, 1, 1, 97, 0, 0, 0, 0, 0, 0, 0, 0, 0, 0]) 14)[o + i]? = some (Z8 (f i))) (hL : nv f k = L) (hV : L ≤ mo) (_ : True) (w : World) (hm : Mm w [(gr, [Value.slice (some ⟨gb, o, none⟩) m (14 + x - o), Value.bool false]), (gb, zH .u8 (lb [3, 1, 1, 97, 0, 0, 0, 0, 0, 0, 0, 0, 0, 0]) 14)]) :
  Calls Tryz.prog 58 #[PT gr 0, .int .i64 ((k : Nat) : Int), .int .i64 ((mo : Nat) : Int)] w fun e w' => e = .returned (.slice (some ⟨gb, o + k, none⟩) L (14 + x - (o + k))) ∧ Mm w' [(gr, [Value.slice (some ⟨gb, o + k + L, none⟩) (m - k - L) (14 + x - (o + k + L)), Value.bool false])] ∧ Kp gr w w' := by
 have h := text_at gr gb o m (14 + x - o) k mo f _ h8 (by omega) hmo hf hn hcs (by rw [hL]; exact hV) (by rw [hL]; omega) (by rw [hL]; omega) w hm
 rw [hL, Nat.sub_sub, Nat.sub_sub, Nat.sub_sub] at h
 rw [Nat.sub_sub]
 exact h
theorem manyI_0_14 (gb x gr o m mo : Nat) (fv : Value) (hcs : (zH .u8 (lb [3, 1, 1, 97, 0, 0, 0, 0, 0, 0, 0, 0, 0, 0]) 14)[o]? = some (Z8 0)) (hom : o + m = 14) (hk : 1 < m) (hmo : mo < 9223372036854775808) (w : World) (hm : Mm w [(gr, [Value.slice (some ⟨gb, o, none⟩) m (14 + x - o), Value.bool false]), (gb, zH .u8 (lb [3, 1, 1, 97, 0, 0, 0, 0, 0, 0, 0, 0, 0, 0]) 14)]) :
  Calls Tryz.prog 59 #[PT gr 0, .int .i64 1, .int .i64 ((mo : Nat) : Int), fv] w fun e w' => e = .returned (.slice none 0 0) ∧ Mm w' [(gr, [Value.slice (some ⟨gb, o + 1, none⟩) (m - 1) (14 + x - (o + 1)), Value.bool false])] ∧ Kp gr w w' := by
 have h := manyI_0 gr gb o m (14 + x - o) mo fv _ hcs (by omega) (by omega) (by omega) hmo w hm
 rw [Nat.sub_sub] at h
 exact h
theorem manyN_0_14 (gb x gr o m mo : Nat) (fv : Value) (hcs : (zH .u8 (lb [3, 1, 1, 97, 0, 0, 0, 0, 0, 0, 0, 0, 0, 0]) 14)[o]? = some (Z8 0)) (hom : o + m = 14) (hk : 1 < m) (hmo : mo < 9223372036854775808) (w : World) (hm : Mm w [(gr, [Value.slice (some ⟨gb, o, none⟩) m (14 + x - o), Value.bool false]), (gb, zH .u8 (lb [3, 1, 1, 97, 0, 0, 0, 0, 0, 0, 0, 0, 0, 0]) 14)]) :
  Calls Tryz.prog 61 #[PT gr 0, .int .i64 1, .int .i64 ((mo : Nat) : Int), fv] w fun e w' => e = .returned (.slice none 0 0) ∧ Mm w' [(gr, [Value.slice (some ⟨gb, o + 1, none⟩) (m - 1) (14 + x - (o + 1)), Value.bool false])] ∧ Kp gr w w' := by
 have h := manyN_0 gr gb o m (14 + x - o) mo fv _ hcs (by omega) (by omega) (by omega) hmo w hm
 rw [Nat.sub_sub] at h
 exact h
theorem manyK_0_14 (gb x gr o m mo : Nat) (fv : Value) (hcs : (zH .u8 (lb [3, 1, 1, 97, 0, 0, 0, 0, 0, 0, 0, 0, 0, 0]) 14)[o]? = some (Z8 0)) (hom : o + m = 14) (hk : 1 < m) (hmo : mo < 9223372036854775808) (w : World) (hm : Mm w [(gr, [Value.slice (some ⟨gb, o, none⟩) m (14 + x - o), Value.bool false]), (gb, zH .u8 (lb [3, 1, 1, 97, 0, 0, 0, 0, 0, 0, 0, 0, 0, 0]) 14)]) :
  Calls Tryz.prog 64 #[PT gr 0, .int .i64 1, .int .i64 ((mo : Nat) : Int), fv] w fun e w' => e = .returned (.slice none 0 0) ∧ Mm w' [(gr, [Value.slice (some ⟨gb, o + 1, none⟩) (m - 1) (14 + x - (o + 1)), Value.bool false])] ∧ Kp gr w w' := by
 have h := manyK_0 gr gb o m (14 + x - o) mo fv _ hcs (by omega) (by omega) (by omega) hmo w hm
 rw [Nat.sub_sub] at h
 exact h
theorem manyS_0_14 (gb x gr o m mo : Nat) (fv : Value) (hcs : (zH .u8 (lb [3, 1, 1, 97, 0, 0, 0, 0, 0, 0, 0, 0, 0, 0]) 14)[o]? = some (Z8 0)) (hom : o + m = 14) (hk : 1 < m) (hmo : mo < 9223372036854775808) (w : World) (hm : Mm w [(gr, [Value.slice (some ⟨gb, o, none⟩) m (14 + x - o), Value.bool false]), (gb, zH .u8 (lb [3, 1, 1, 97, 0, 0, 0, 0, 0, 0, 0, 0, 0, 0]) 14)]) :
  Calls Tryz.prog 69 #[PT gr 0, .int .i64 1, .int .i64 ((mo : Nat) : Int), fv] w fun e w' => e = .returned (.slice none 0 0) ∧ Mm w' [(gr, [Value.slice (some ⟨gb, o + 1, none⟩) (m - 1) (14 + x - (o + 1)), Value.bool false])] ∧ Kp gr w w' := by
 have h := manyS_0 gr gb o m (14 + x - o) mo fv _ hcs (by omega) (by omega) (by omega) hmo w hm
 rw [Nat.sub_sub] at h
 exact h
set_option maxHeartbeats 8000000 in
theorem ReadEntry_14 (gb x : Nat) (w : World) (hm : Mm w [(gb, zH .u8 (lb [3, 1, 1, 97, 0, 0, 0, 0, 0, 0, 0, 0, 0, 0]) 14)]) :
  Calls Tryz.prog 21 #[.slice (some ⟨gb, 0, none⟩) 14 (14 + x)] w (Rt w (.tuple #[.agg ([Value.int .i64 0, Value.int .i64 0, Value.string ⟨#[]⟩, Value.string ⟨#[]⟩, Value.string ⟨#[]⟩, Value.slice none 0 0, Value.slice none 0 0, Value.int .i64 0, Value.slice none 0 0, Value.slice none 0 0, Value.slice none 0 0]).toArray, .int .i64 4])) := by
 have H0 : Hid (_ ∧ _) := ⟨hm, Below.refl w.heap.size w⟩
 clear hm
 go_enter Tryz.func21, Tryz.ntmps21
 refine wp_seq ?_
 refine zN (l := [0, 1]) rfl (fun u0 hu0 => ?_)
 have H1 : Hid (Mm u0 [(gb, zH .u8 (lb [3, 1, 1, 97, 0, 0, 0, 0, 0, 0, 0, 0, 0, 0]) 14)] ∧ Below w.heap.size w u0) := by rw [hu0]; exact H0
 clear hu0 H0
 refine zA (d := 2) (v := PT u0.heap.size 0) (w' := (u0.alloc (.cells ([Value.int .i64 0, Value.int .i64 0, Value.string ⟨#[]⟩, Value.string ⟨#[]⟩, Value.string ⟨#[]⟩, Value.slice none 0 0, Value.slice none 0 0, Value.int .i64 0, Value.slice none 0 0, Value.slice none 0 0, Value.slice none 0 0] : List Value).toArray 64))) rfl rfl rfl (ex_mk64 rfl) ?_
 simp only [Act.put, sa, sz, ss]
 have o_Js2 : Hid (w.heap.size ≤ u0.heap.size) := H1.out.2.size
 have H2 : Hid (Mm (u0.alloc (.cells ([Value.int .i64 0, Value.int .i64 0, Value.string ⟨#[]⟩, Value.string ⟨#[]⟩, Value.string ⟨#[]⟩, Value.slice none 0 0, Value.slice none 0 0, Value.int .i64 0, Value.slice none 0 0, Value.slice none 0 0, Value.slice none 0 0] : List Value).toArray 64)) ((u0.heap.size, [Value.int .i64 0, Value.int .i64 0, Value.string ⟨#[]⟩, Value.string ⟨#[]⟩, Value.string ⟨#[]⟩, Value.slice none 0 0, Value.slice none 0 0, Value.int .i64 0, Value.slice none 0 0, Value.slice none 0 0, Value.slice none 0 0]) :: [(gb, zH .u8 (lb [3, 1, 1, 97, 0, 0, 0, 0, 0, 0, 0, 0, 0, 0]) 14)]) ∧ Below w.heap.size w (u0.alloc (.cells ([Value.int .i64 0, Value.int .i64 0, Value.string ⟨#[]⟩, Value.string ⟨#[]⟩, Value.string ⟨#[]⟩, Value.slice none 0 0, Value.slice none 0 0, Value.int .i64 0, Value.slice none 0 0, Value.slice none 0 0, Value.slice none 0 0] : List Value).toArray 64))) := ⟨H1.out.1.alloc _ 64 rfl, H1.out.2.trans (((Below.refl _ _).alloc (Nat.le_refl _) _).mono H1.out.2.size)⟩
 clear H1
 generalize hgw : u0.alloc (.cells ([Value.int .i64 0, Value.int .i64 0, Value.string ⟨#[]⟩, Value.string ⟨#[]⟩, Value.string ⟨#[]⟩, Value.slice none 0 0, Value.slice none 0 0, Value.int .i64 0, Value.slice none 0 0, Value.slice none 0 0, Value.slice none 0 0] : List Value).toArray 64) = w2 at H2 ⊢
 clear hgw
 generalize u0.heap.size = Js2 at o_Js2 H2 ⊢
 refine zA (d := 3) (v := .int .i64 0) (w' := w2) rfl rfl rfl (rfl) ?_
 simp only [Act.put, sa, sz, ss]
 refine zC (zB (wp_seq ?_))
 refine zD (l := [0]) rfl ?_
 refine zA (d := 4) (v := PT w2.heap.size 0) (w' := (w2.alloc (.cells ([Value.int .i64 0, Value.int .i64 0, Value.string ⟨#[]⟩, Value.string ⟨#[]⟩, Value.string ⟨#[]⟩, Value.slice none 0 0, Value.slice none 0 0, Value.int .i64 0, Value.slice none 0 0, Value.slice none 0 0, Value.slice none 0 0] : List Value).toArray 64))) rfl rfl rfl (ex_mk64 rfl) ?_
 simp only [Act.put, sa, sz, ss]
 have o_Js3 : Hid (w.heap.size ≤ w2.heap.size) := H2.out.2.size
 have H3 : Hid (Mm (w2.alloc (.cells ([Value.int .i64 0, Value.int .i64 0, Value.string ⟨#[]⟩, Value.string ⟨#[]⟩, Value.string ⟨#[]⟩, Value.slice none 0 0, Value.slice none 0 0, Value.int .i64 0, Value.slice none 0 0, Value.slice none 0 0, Value.slice none 0 0] : List Value).toArray 64)) ((w2.heap.size, [Value.int .i64 0, Value.int .i64 0, Value.string ⟨#[]⟩, Value.string ⟨#[]⟩, Value.string ⟨#[]⟩, Value.slice none 0 0, Value.slice none 0 0, Value.int .i64 0, Value.slice none 0 0, Value.slice none 0 0, Value.slice none 0 0]) :: [(Js2, [Value.int .i64 0, Value.int .i64 0, Value.string ⟨#[]⟩, Value.string ⟨#[]⟩, Value.string ⟨#[]⟩, Value.slice none 0 0, Value.slice none 0 0, Value.int .i64 0, Value.slice none 0 0, Value.slice none 0 0, Value.slice none 0 0]), (gb, zH .u8 (lb [3, 1, 1, 97, 0, 0, 0, 0, 0, 0, 0, 0, 0, 0]) 14)]) ∧ Below w.heap.size w (w2.alloc (.cells ([Value.int .i64 0, Value.int .i64 0, Value.string ⟨#[]⟩, Value.string ⟨#[]⟩, Value.string ⟨#[]⟩, Value.slice none 0 0, Value.slice none 0 0, Value.int .i64 0, Value.slice none 0 0, Value.slice none 0 0, Value.slice none 0 0] : List Value).toArray 64))) := ⟨H2.out.1.alloc _ 64 rfl, H2.out.2.trans (((Below.refl _ _).alloc (Nat.le_refl _) _).mono H2.out.2.size)⟩
 clear H2
 generalize hgw : w2.alloc (.cells ([Value.int .i64 0, Value.int .i64 0, Value.string ⟨#[]⟩, Value.string ⟨#[]⟩, Value.string ⟨#[]⟩, Value.slice none 0 0, Value.slice none 0 0, Value.int .i64 0, Value.slice none 0 0, Value.slice none 0 0, Value.slice none 0 0] : List Value).toArray 64) = w3 at H3 ⊢
 clear hgw
 generalize w2.heap.size = Js3 at o_Js3 H3 ⊢
 refine zC (zB (wp_seq ?_))
 refine zD (l := [0, 1, 2, 3]) rfl ?_
 refine zA (d := 7) (v := .slice (some ⟨gb, 0, none⟩) 14 (14 + x)) (w' := w3) rfl rfl rfl (rfl) ?_
 simp only [Act.put, sa, sz, ss]
 refine zA (d := 8) (v := .agg ([Value.slice (some ⟨gb, 0, none⟩) 14 (14 + x), Value.bool false]).toArray) (w' := w3) rfl rfl rfl (by kernel_rfl) ?_
 simp only [Act.put, sa, sz, ss]
 refine zA (d := 5) (v := PT w3.heap.size 0) (w' := (w3.alloc (.cells ([Value.slice none 0 0, Value.bool false] : List Value).toArray 99))) rfl rfl rfl (ex_mk99 rfl) ?_
 simp only [Act.put, sa, sz, ss]
 have o_Js4 : Hid (w.heap.size ≤ w3.heap.size) := H3.out.2.size
 have H4 : Hid (Mm (w3.alloc (.cells ([Value.slice none 0 0, Value.bool false] : List Value).toArray 99)) ((w3.heap.size, [Value.slice none 0 0, Value.bool false]) :: [(Js3, [Value.int .i64 0, Value.int .i64 0, Value.string ⟨#[]⟩, Value.string ⟨#[]⟩, Value.string ⟨#[]⟩, Value.slice none 0 0, Value.slice none 0 0, Value.int .i64 0, Value.slice none 0 0, Value.slice none 0 0, Value.slice none 0 0]), (Js2, [Value.int .i64 0, Value.int .i64 0, Value.string ⟨#[]⟩, Value.string ⟨#[]⟩, Value.string ⟨#[]⟩, Value.slice none 0 0, Value.slice none 0 0, Value.int .i64 0, Value.slice none 0 0, Value.slice none 0 0, Value.slice none 0 0]), (gb, zH .u8 (lb [3, 1, 1, 97, 0, 0, 0, 0, 0, 0, 0, 0, 0, 0]) 14)]) ∧ Below w.heap.size w (w3.alloc (.cells ([Value.slice none 0 0, Value.bool false] : List Value).toArray 99))) := ⟨H3.out.1.alloc _ 99 rfl, H3.out.2.trans (((Below.refl _ _).alloc (Nat.le_refl _) _).mono H3.out.2.size)⟩
 clear H3
 generalize hgw : w3.alloc (.cells ([Value.slice none 0 0, Value.bool false] : List Value).toArray 99) = w4 at H4 ⊢
 clear hgw
 generalize w3.heap.size = Js4 at o_Js4 H4 ⊢
 refine sG rfl (fun h => ex_storeT (vs := [Value.slice (some ⟨gb, 0, none⟩) 14 (14 + x), Value.bool false]) h 0 rfl rfl rfl rfl As99 rfl (Nat.le_of_ble_eq_true rfl)) 0 [(_, [Value.slice (some ⟨gb, 0, none⟩) 14 (14 + x), Value.bool false]), _, _, _] H4 o_Js4 fun w5 H5 => ?_
 clear H4
 refine zC (zB (wp_seq ?_))
 refine zD (l := [0, 1, 2]) rfl ?_
 refine zF (d := 9) (R := fun vv w' => vv = .int .i64 3 ∧ Mm w' [(Js4, [Value.slice (some ⟨gb, 1, none⟩) 13 (14 + x - 1), Value.bool false])] ∧ Kp Js4 w5 w') rfl rfl rfl (zG (args := #[PT Js4 0, .int .i64 1, .int .i64 255]) rfl call44 rfl (mpn rfl)) (Calls.mono ((fun w hm => num_14 gb x Js4 0 14 1 255 (lb [3]) (by decide) (by decide) (by decide) (by decide) (lb_lt _ (by decide)) (nv_bd (lb_lt _ (by decide)) (by decide)) (fun i hi => by obtain rfl : i = 0 := (by omega); rfl) (by decide) w hm) w5 (H5.out.1.two 0 3 rfl rfl (by decide))) (fun e w2 hh => ⟨_, hh.1, rfl, hh.2⟩)) ?_
 rintro _ w6 ⟨rfl, hn, hp⟩
 have H6 : Hid (Mm w6 [(Js4, [Value.slice (some ⟨gb, 1, none⟩) 13 (14 + x - 1), Value.bool false]), (Js3, [Value.int .i64 0, Value.int .i64 0, Value.string ⟨#[]⟩, Value.string ⟨#[]⟩, Value.string ⟨#[]⟩, Value.slice none 0 0, Value.slice none 0 0, Value.int .i64 0, Value.slice none 0 0, Value.slice none 0 0, Value.slice none 0 0]), (Js2, [Value.int .i64 0, Value.int .i64 0, Value.string ⟨#[]⟩, Value.string ⟨#[]⟩, Value.string ⟨#[]⟩, Value.slice none 0 0, Value.slice none 0 0, Value.int .i64 0, Value.slice none 0 0, Value.slice none 0 0, Value.slice none 0 0]), (gb, zH .u8 (lb [3, 1, 1, 97, 0, 0, 0, 0, 0, 0, 0, 0, 0, 0]) 14)] ∧ Below w.heap.size w w6) := ⟨H5.out.1.change 0 rfl hp hn, Below.kp H5.out.2 hp o_Js4.out H5.out.2.size⟩
 clear hn hp
 clear H5
 simp only [Act.put, sa, sz, ss]
 refine zA (d := 10) (v := PT Js3 0) (w' := w6) rfl rfl rfl (by go_simp) ?_
 simp only [Act.put, sa, sz, ss]
 refine sG rfl (fun h => ex_st1 (v := .int .i64 3) h 1 rfl rfl As3 rfl rfl (rfl) (Nat.le_of_ble_eq_true rfl)) 1 [_, (_, [Value.int .i64 3, Value.int .i64 0, Value.string ⟨#[]⟩, Value.string ⟨#[]⟩, Value.string ⟨#[]⟩, Value.slice none 0 0, Value.slice none 0 0, Value.int .i64 0, Value.slice none 0 0, Value.slice none 0 0, Value.slice none 0 0]), _, _] H6 o_Js3 fun w7 H7 => ?_
 clear H6
 refine zC (zB (wp_seq ?_))
 refine zD (l := [0, 1, 2]) rfl ?_
 refine zF (d := 11) (R := fun vv w' => vv = .int .i64 1 ∧ Mm w' [(Js4, [Value.slice (some ⟨gb, 2, none⟩) 12 (14 + x - 2), Value.bool false])] ∧ Kp Js4 w7 w') rfl rfl rfl (zG (args := #[PT Js4 0, .int .i64 1, .int .i64 255]) rfl call44 rfl (mpn rfl)) (Calls.mono ((fun w hm => num_14 gb x Js4 1 13 1 255 (lb [1]) (by decide) (by decide) (by decide) (by decide) (lb_lt _ (by decide)) (nv_bd (lb_lt _ (by decide)) (by decide)) (fun i hi => by obtain rfl : i = 0 := (by omega); rfl) (by decide) w hm) w7 (H7.out.1.two 0 3 rfl rfl (by decide))) (fun e w2 hh => ⟨_, hh.1, rfl, hh.2⟩)) ?_
 rintro _ w8 ⟨rfl, hn, hp⟩
 have H8 : Hid (Mm w8 [(Js4, [Value.slice (some ⟨gb, 2, none⟩) 12 (14 + x - 2), Value.bool false]), (Js3, [Value.int .i64 3, Value.int .i64 0, Value.string ⟨#[]⟩, Value.string ⟨#[]⟩, Value.string ⟨#[]⟩, Value.slice none 0 0, Value.slice none 0 0, Value.int .i64 0, Value.slice none 0 0, Value.slice none 0 0, Value.slice none 0 0]), (Js2, [Value.int .i64 0, Value.int .i64 0, Value.string ⟨#[]⟩, Value.string ⟨#[]⟩, Value.string ⟨#[]⟩, Value.slice none 0 0, Value.slice none 0 0, Value.int .i64 0, Value.slice none 0 0, Value.slice none 0 0, Value.slice none 0 0]), (gb, zH .u8 (lb [3, 1, 1, 97, 0, 0, 0, 0, 0, 0, 0, 0, 0, 0]) 14)] ∧ Below w.heap.size w w8) := ⟨H7.out.1.change 0 rfl hp hn, Below.kp H7.out.2 hp o_Js4.out H7.out.2.size⟩
 clear hn hp
 clear H7
 simp only [Act.put, sa, sz, ss]
 refine zA (d := 12) (v := PT Js3 1) (w' := w8) rfl rfl rfl (by go_simp) ?_
 simp only [Act.put, sa, sz, ss]
 refine sG rfl (fun h => ex_st1 (v := .int .i64 1) h 1 rfl rfl As3 rfl rfl (rfl) (Nat.le_of_ble_eq_true rfl)) 1 [_, (_, [Value.int .i64 3, Value.int .i64 1, Value.string ⟨#[]⟩, Value.string ⟨#[]⟩, Value.string ⟨#[]⟩, Value.slice none 0 0, Value.slice none 0 0, Value.int .i64 0, Value.slice none 0 0, Value.slice none 0 0, Value.slice none 0 0]), _, _] H8 o_Js3 fun w9 H9 => ?_
 clear H8
 refine zC (zB (wp_seq ?_))
 refine zD (l := [0, 1, 2, 3]) rfl ?_
 refine zF (d := 13) (R := fun vv w' => vv = .slice (some ⟨gb, 3, none⟩) 1 (14 + x - 3) ∧ Mm w' [(Js4, [Value.slice (some ⟨gb, 4, none⟩) 10 (14 + x - 4), Value.bool false])] ∧ Kp Js4 w9 w') rfl rfl rfl (zG (args := #[PT Js4 0, .int .i64 1, .int .i64 64]) rfl call58 rfl (mpn rfl)) (Calls.mono (txt_14 gb x Js4 2 12 1 64 1 (lb [1]) (by decide) (by decide) (by decide) (by decide) (lb_lt _ (by decide)) (nv_bd (lb_lt _ (by decide)) (by decide)) (fun i hi => by obtain rfl : i = 0 := (by omega); rfl) rfl (by decide) (by decide) w9 (H9.out.1.two 0 3 rfl rfl (by decide))) (fun e w2 hh => ⟨_, hh.1, rfl, hh.2⟩)) ?_
 rintro _ w10 ⟨rfl, hn, hp⟩
 have H10 : Hid (Mm w10 [(Js4, [Value.slice (some ⟨gb, 4, none⟩) 10 (14 + x - 4), Value.bool false]), (Js3, [Value.int .i64 3, Value.int .i64 1, Value.string ⟨#[]⟩, Value.string ⟨#[]⟩, Value.string ⟨#[]⟩, Value.slice none 0 0, Value.slice none 0 0, Value.int .i64 0, Value.slice none 0 0, Value.slice none 0 0, Value.slice none 0 0]), (Js2, [Value.int .i64 0, Value.int .i64 0, Value.string ⟨#[]⟩, Value.string ⟨#[]⟩, Value.string ⟨#[]⟩, Value.slice none 0 0, Value.slice none 0 0, Value.int .i64 0, Value.slice none 0 0, Value.slice none 0 0, Value.slice none 0 0]), (gb, zH .u8 (lb [3, 1, 1, 97, 0, 0, 0, 0, 0, 0, 0, 0, 0, 0]) 14)] ∧ Below w.heap.size w w10) := ⟨H9.out.1.change 0 rfl hp hn, Below.kp H9.out.2 hp o_Js4.out H9.out.2.size⟩
 clear hn hp
 clear H9
 simp only [Act.put, sa, sz, ss]
 refine zA (d := 14) (v := .string ⟨#[97]⟩) (w' := w10) rfl rfl rfl (ex_b2s1 H10.out.1 3 rfl rfl (by omega) rfl rfl) ?_
 simp only [Act.put, sa, sz, ss]
 refine zA (d := 15) (v := PT Js3 2) (w' := w10) rfl rfl rfl (by go_simp) ?_
 simp only [Act.put, sa, sz, ss]
 refine sG rfl (fun h => ex_st1 (v := .string ⟨#[97]⟩) h 1 rfl rfl As9 rfl rfl (rfl) (Nat.le_of_ble_eq_true rfl)) 1 [_, (_, e1c), _, _] H10 o_Js3 fun w11 H11 => ?_
 clear H10
 refine zC (zB (wp_seq ?_))
 refine zD (l := [0, 1, 2, 3]) rfl ?_
 refine zF (d := 16) (R := fun vv w' => vv = .slice (some ⟨gb, 5, none⟩) 0 (14 + x - 5) ∧ Mm w' [(Js4, [Value.slice (some ⟨gb, 5, none⟩) 9 (14 + x - 5), Value.bool false])] ∧ Kp Js4 w11 w') rfl rfl rfl (zG (args := #[PT Js4 0, .int .i64 1, .int .i64 64]) rfl call58 rfl (mpn rfl)) (Calls.mono (txt_14 gb x Js4 4 10 1 64 0 (lb [0]) (by decide) (by decide) (by decide) (by decide) (lb_lt _ (by decide)) (nv_bd (lb_lt _ (by decide)) (by decide)) (fun i hi => by obtain rfl : i = 0 := (by omega); rfl) rfl (by decide) (by decide) w11 (H11.out.1.two 0 3 rfl rfl (by decide))) (fun e w2 hh => ⟨_, hh.1, rfl, hh.2⟩)) ?_
 rintro _ w12 ⟨rfl, hn, hp⟩
 have H12 : Hid (Mm w12 [(Js4, [Value.slice (some ⟨gb, 5, none⟩) 9 (14 + x - 5), Value.bool false]), (Js3, e1c), (Js2, [Value.int .i64 0, Value.int .i64 0, Value.string ⟨#[]⟩, Value.string ⟨#[]⟩, Value.string ⟨#[]⟩, Value.slice none 0 0, Value.slice none 0 0, Value.int .i64 0, Value.slice none 0 0, Value.slice none 0 0, Value.slice none 0 0]), (gb, zH .u8 (lb [3, 1, 1, 97, 0, 0, 0, 0, 0, 0, 0, 0, 0, 0]) 14)] ∧ Below w.heap.size w w12) := ⟨H11.out.1.change 0 rfl hp hn, Below.kp H11.out.2 hp o_Js4.out H11.out.2.size⟩
 clear hn hp
 clear H11
 simp only [Act.put, sa, sz, ss]
 refine zA (d := 17) (v := .string ⟨#[]⟩) (w' := w12) rfl rfl rfl (ex_b2s0 rfl rfl) ?_
 simp only [Act.put, sa, sz, ss]
 refine zA (d := 18) (v := PT Js3 3) (w' := w12) rfl rfl rfl (by go_simp) ?_
 simp only [Act.put, sa, sz, ss]
 refine sG rfl (fun h => ex_st1 (v := .string ⟨#[]⟩) h 1 rfl rfl As9 rfl rfl (rfl) (Nat.le_of_ble_eq_true rfl)) 1 [_, (_, e1c), _, _] H12 o_Js3 fun w13 H13 => ?_
 clear H12
 refine zC (zB (wp_seq ?_))
 refine zD (l := [0, 1, 2, 3]) rfl ?_
 refine zF (d := 19) (R := fun vv w' => vv = .slice (some ⟨gb, 6, none⟩) 0 (14 + x - 6) ∧ Mm w' [(Js4, [Value.slice (some ⟨gb, 6, none⟩) 8 (14 + x - 6), Value.bool false])] ∧ Kp Js4 w13 w') rfl rfl rfl (zG (args := #[PT Js4 0, .int .i64 1, .int .i64 64]) rfl call58 rfl (mpn rfl)) (Calls.mono (txt_14 gb x Js4 5 9 1 64 0 (lb [0]) (by decide) (by decide) (by decide) (by decide) (lb_lt _ (by decide)) (nv_bd (lb_lt _ (by decide)) (by decide)) (fun i hi => by obtain rfl : i = 0 := (by omega); rfl) rfl (by decide) (by decide) w13 (H13.out.1.two 0 3 rfl rfl (by decide))) (fun e w2 hh => ⟨_, hh.1, rfl, hh.2⟩)) ?_
 rintro _ w14 ⟨rfl, hn, hp⟩
 have H14 : Hid (Mm w14 [(Js4, [Value.slice (some ⟨gb, 6, none⟩) 8 (14 + x - 6), Value.bool false]), (Js3, e1c), (Js2, [Value.int .i64 0, Value.int .i64 0, Value.string ⟨#[]⟩, Value.string ⟨#[]⟩, Value.string ⟨#[]⟩, Value.slice none 0 0, Value.slice none 0 0, Value.int .i64 0, Value.slice none 0 0, Value.slice none 0 0, Value.slice none 0 0]), (gb, zH .u8 (lb [3, 1, 1, 97, 0, 0, 0, 0, 0, 0, 0, 0, 0, 0]) 14)] ∧ Below w.heap.size w w14) := ⟨H13.out.1.change 0 rfl hp hn, Below.kp H13.out.2 hp o_Js4.out H13.out.2.size⟩
 clear hn hp
 clear H13
 simp only [Act.put, sa, sz, ss]
 refine zA (d := 20) (v := .string ⟨#[]⟩) (w' := w14) rfl rfl rfl (ex_b2s0 rfl rfl) ?_
 simp only [Act.put, sa, sz, ss]
 refine zA (d := 21) (v := PT Js3 4) (w' := w14) rfl rfl rfl (by go_simp) ?_
 simp only [Act.put, sa, sz, ss]
 refine sG rfl (fun h => ex_st1 (v := .string ⟨#[]⟩) h 1 rfl rfl As9 rfl rfl (rfl) (Nat.le_of_ble_eq_true rfl)) 1 [_, (_, e1c), _, _] H14 o_Js3 fun w15 H15 => ?_
 clear H14
 refine zC (zB (wp_seq ?_))
 refine zD (l := [0, 1, 2, 3]) rfl ?_
 refine zF (d := 22) (R := fun vv w' => vv = .slice (some ⟨gb, 8, none⟩) 0 (14 + x - 8) ∧ Mm w' [(Js4, [Value.slice (some ⟨gb, 8, none⟩) 6 (14 + x - 8), Value.bool false])] ∧ Kp Js4 w15 w') rfl rfl rfl (zG (args := #[PT Js4 0, .int .i64 2, .int .i64 4096]) rfl call58 rfl (mpn rfl)) (Calls.mono (txt_14 gb x Js4 6 8 2 4096 0 (lb [0, 0]) (by decide) (by decide) (by decide) (by decide) (lb_lt _ (by decide)) (nv_bd (lb_lt _ (by decide)) (by decide)) (fun i hi => by obtain rfl | rfl : i = 0 ∨ i = 1 := (by omega) <;> rfl) rfl (by decide) (by decide) w15 (H15.out.1.two 0 3 rfl rfl (by decide))) (fun e w2 hh => ⟨_, hh.1, rfl, hh.2⟩)) ?_
 rintro _ w16 ⟨rfl, hn, hp⟩
 have H16 : Hid (Mm w16 [(Js4, [Value.slice (some ⟨gb, 8, none⟩) 6 (14 + x - 8), Value.bool false]), (Js3, e1c), (Js2, [Value.int .i64 0, Value.int .i64 0, Value.string ⟨#[]⟩, Value.string ⟨#[]⟩, Value.string ⟨#[]⟩, Value.slice none 0 0, Value.slice none 0 0, Value.int .i64 0, Value.slice none 0 0, Value.slice none 0 0, Value.slice none 0 0]), (gb, zH .u8 (lb [3, 1, 1, 97, 0, 0, 0, 0, 0, 0, 0, 0, 0, 0]) 14)] ∧ Below w.heap.size w w16) := ⟨H15.out.1.change 0 rfl hp hn, Below.kp H15.out.2 hp o_Js4.out H15.out.2.size⟩
 clear hn hp
 clear H15
 simp only [Act.put, sa, sz, ss]
 refine zF (d := 23) (R := fun vv w' => vv = .slice none 0 0 ∧ Below w16.heap.size w16 w') rfl rfl rfl (zG (args := #[.slice (some ⟨gb, 8, none⟩) 0 (14 + x - 8)]) rfl call57 rfl (mpn rfl)) (Calls.mono (fresh_nil _ _ w16) (fun e w2 hh => ⟨_, hh.1, rfl, hh.2⟩)) ?_
 rintro _ w17 ⟨rfl, hb⟩
 have H17 : Hid (Mm w17 [(Js4, [Value.slice (some ⟨gb, 8, none⟩) 6 (14 + x - 8), Value.bool false]), (Js3, e1c), (Js2, [Value.int .i64 0, Value.int .i64 0, Value.string ⟨#[]⟩, Value.string ⟨#[]⟩, Value.string ⟨#[]⟩, Value.slice none 0 0, Value.slice none 0 0, Value.int .i64 0, Value.slice none 0 0, Value.slice none 0 0, Value.slice none 0 0]), (gb, zH .u8 (lb [3, 1, 1, 97, 0, 0, 0, 0, 0, 0, 0, 0, 0, 0]) 14)] ∧ Below w.heap.size w w17) := ⟨H16.out.1.below hb, H16.out.2.trans (hb.mono H16.out.2.size)⟩
 clear hb
 clear H16
 simp only [Act.put, sa, sz, ss]
 refine zA (d := 24) (v := PT Js3 5) (w' := w17) rfl rfl rfl (by go_simp) ?_
 simp only [Act.put, sa, sz, ss]
 refine sG rfl (fun h => ex_st1 (v := .slice none 0 0) h 1 rfl rfl As51 rfl rfl (rfl) (Nat.le_of_ble_eq_true rfl)) 1 [_, (_, e1c), _, _] H17 o_Js3 fun w18 H18 => ?_
 clear H17
 refine zC (zB (wp_seq ?_))
 refine zD (l := [0, 1, 2, 3]) rfl ?_
 refine zA (d := 25) (v := .func (.func 60) #[] #[PT Js4 0]) (w' := w18) rfl rfl rfl (by kernel_rfl) ?_
 simp only [Act.put, sa, sz, ss]
 refine zF (d := 26) (R := fun vv w' => vv = .slice none 0 0 ∧ Mm w' [(Js4, [Value.slice (some ⟨gb, 9, none⟩) 5 (14 + x - 9), Value.bool false])] ∧ Kp Js4 w18 w') rfl rfl rfl (zG (args := #[PT Js4 0, .int .i64 1, .int .i64 16, .func (.func 60) #[] #[PT Js4 0]]) rfl call59 rfl (mpn rfl)) (Calls.mono (manyI_0_14 gb x Js4 8 6 16 (.func (.func 60) #[] #[PT Js4 0]) rfl (by decide) (by decide) (by decide) w18 (H18.out.1.two 0 3 rfl rfl (by decide))) (fun e w2 hh => ⟨_, hh.1, rfl, hh.2⟩)) ?_
 rintro _ w19 ⟨rfl, hn, hp⟩
 have H19 : Hid (Mm w19 [(Js4, [Value.slice (some ⟨gb, 9, none⟩) 5 (14 + x - 9), Value.bool false]), (Js3, e1c), (Js2, [Value.int .i64 0, Value.int .i64 0, Value.string ⟨#[]⟩, Value.string ⟨#[]⟩, Value.string ⟨#[]⟩, Value.slice none 0 0, Value.slice none 0 0, Value.int .i64 0, Value.slice none 0 0, Value.slice none 0 0, Value.slice none 0 0]), (gb, zH .u8 (lb [3, 1, 1, 97, 0, 0, 0, 0, 0, 0, 0, 0, 0, 0]) 14)] ∧ Below w.heap.size w w19) := ⟨H18.out.1.change 0 rfl hp hn, Below.kp H18.out.2 hp o_Js4.out H18.out.2.size⟩
 clear hn hp
 clear H18
 simp only [Act.put, sa, sz, ss]
 refine zA (d := 27) (v := PT Js3 6) (w' := w19) rfl rfl rfl (by go_simp) ?_
 simp only [Act.put, sa, sz, ss]
 refine sG rfl (fun h => ex_st1 (v := .slice none 0 0) h 1 rfl rfl Tryz.sizeOf59 rfl rfl (rfl) (Nat.le_of_ble_eq_true rfl)) 1 [_, (_, e1c), _, _] H19 o_Js3 fun w20 H20 => ?_
 clear H19
 refine zC (zB (wp_seq ?_))
 refine zD (l := [0, 1, 2]) rfl ?_
 refine zF (d := 28) (R := fun vv w' => vv = .int .i64 0 ∧ Mm w' [(Js4, [Value.slice (some ⟨gb, 10, none⟩) 4 (14 + x - 10), Value.bool false])] ∧ Kp Js4 w20 w') rfl rfl rfl (zG (args := #[PT Js4 0, .int .i64 1, .int .i64 2]) rfl call44 rfl (mpn rfl)) (Calls.mono ((fun w hm => num_14 gb x Js4 9 5 1 2 (lb [0]) (by decide) (by decide) (by decide) (by decide) (lb_lt _ (by decide)) (nv_bd (lb_lt _ (by decide)) (by decide)) (fun i hi => by obtain rfl : i = 0 := (by omega); rfl) (by decide) w hm) w20 (H20.out.1.two 0 3 rfl rfl (by decide))) (fun e w2 hh => ⟨_, hh.1, rfl, hh.2⟩)) ?_
 rintro _ w21 ⟨rfl, hn, hp⟩
 have H21 : Hid (Mm w21 [(Js4, [Value.slice (some ⟨gb, 10, none⟩) 4 (14 + x - 10), Value.bool false]), (Js3, e1c), (Js2, [Value.int .i64 0, Value.int .i64 0, Value.string ⟨#[]⟩, Value.string ⟨#[]⟩, Value.string ⟨#[]⟩, Value.slice none 0 0, Value.slice none 0 0, Value.int .i64 0, Value.slice none 0 0, Value.slice none 0 0, Value.slice none 0 0]), (gb, zH .u8 (lb [3, 1, 1, 97, 0, 0, 0, 0, 0, 0, 0, 0, 0, 0]) 14)] ∧ Below w.heap.size w w21) := ⟨H20.out.1.change 0 rfl hp hn, Below.kp H20.out.2 hp o_Js4.out H20.out.2.size⟩
 clear hn hp
 clear H20
 simp only [Act.put, sa, sz, ss]
 refine zA (d := 29) (v := PT Js3 7) (w' := w21) rfl rfl rfl (by go_simp) ?_
 simp only [Act.put, sa, sz, ss]
 refine sG rfl (fun h => ex_st1 (v := .int .i64 0) h 1 rfl rfl Tryz.sizeOf28 rfl rfl (rfl) (Nat.le_of_ble_eq_true rfl)) 1 [_, (_, e1c), _, _] H21 o_Js3 fun w22 H22 => ?_
 clear H21
 refine zC (zB (wp_seq ?_))
 refine zD (l := [0, 1, 2, 3, 4]) rfl ?_
 refine zA (d := 30) (v := PT Js3 7) (w' := w22) rfl rfl rfl (by go_simp) ?_
 simp only [Act.put, sa, sz, ss]
 refine zA (d := 31) (v := .int .i64 0) (w' := w22) rfl rfl rfl (zJ H22.out.1 1 rfl rfl rfl Ai28 rfl) ?_
 simp only [Act.put, sa, sz, ss]
 refine zF (d := 32) (R := fun vv w' => vv = .agg ([Value.int .i64 32, Value.int .i64 48, Value.int .i64 96]).toArray ∧ Below w22.heap.size w22 w') rfl rfl rfl (zG (args := #[.int .i64 0]) rfl call48 rfl (mpn rfl)) (Calls.mono (sizesOf_0 w22) (fun e w2 hh => ⟨_, hh.1, rfl, hh.2⟩)) ?_
 rintro _ w23 ⟨rfl, hb⟩
 have H23 : Hid (Mm w23 [(Js4, [Value.slice (some ⟨gb, 10, none⟩) 4 (14 + x - 10), Value.bool false]), (Js3, e1c), (Js2, [Value.int .i64 0, Value.int .i64 0, Value.string ⟨#[]⟩, Value.string ⟨#[]⟩, Value.string ⟨#[]⟩, Value.slice none 0 0, Value.slice none 0 0, Value.int .i64 0, Value.slice none 0 0, Value.slice none 0 0, Value.slice none 0 0]), (gb, zH .u8 (lb [3, 1, 1, 97, 0, 0, 0, 0, 0, 0, 0, 0, 0, 0]) 14)] ∧ Below w.heap.size w w23) := ⟨H22.out.1.below hb, H22.out.2.trans (hb.mono H22.out.2.size)⟩
 clear hb
 clear H22
 simp only [Act.put, sa, sz, ss]
 refine zA (d := 6) (v := PT w23.heap.size 0) (w' := (w23.alloc (.cells ([Value.int .i64 0, Value.int .i64 0, Value.int .i64 0] : List Value).toArray 104))) rfl rfl rfl (ex_mk104 rfl) ?_
 simp only [Act.put, sa, sz, ss]
 have o_Js24 : Hid (w.heap.size ≤ w23.heap.size) := H23.out.2.size
 have H24 : Hid (Mm (w23.alloc (.cells ([Value.int .i64 0, Value.int .i64 0, Value.int .i64 0] : List Value).toArray 104)) ((w23.heap.size, [Value.int .i64 0, Value.int .i64 0, Value.int .i64 0]) :: [(Js4, [Value.slice (some ⟨gb, 10, none⟩) 4 (14 + x - 10), Value.bool false]), (Js3, e1c), (Js2, [Value.int .i64 0, Value.int .i64 0, Value.string ⟨#[]⟩, Value.string ⟨#[]⟩, Value.string ⟨#[]⟩, Value.slice none 0 0, Value.slice none 0 0, Value.int .i64 0, Value.slice none 0 0, Value.slice none 0 0, Value.slice none 0 0]), (gb, zH .u8 (lb [3, 1, 1, 97, 0, 0, 0, 0, 0, 0, 0, 0, 0, 0]) 14)]) ∧ Below w.heap.size w (w23.alloc (.cells ([Value.int .i64 0, Value.int .i64 0, Value.int .i64 0] : List Value).toArray 104))) := ⟨H23.out.1.alloc _ 104 rfl, H23.out.2.trans (((Below.refl _ _).alloc (Nat.le_refl _) _).mono H23.out.2.size)⟩
 clear H23
 generalize hgw : w23.alloc (.cells ([Value.int .i64 0, Value.int .i64 0, Value.int .i64 0] : List Value).toArray 104) = w24 at H24 ⊢
 clear hgw
 generalize w23.heap.size = Js24 at o_Js24 H24 ⊢
 refine sG rfl (fun h => ex_storeT (vs := [Value.int .i64 32, Value.int .i64 48, Value.int .i64 96]) h 0 rfl rfl rfl rfl As104 rfl (Nat.le_of_ble_eq_true rfl)) 0 [(_, [Value.int .i64 32, Value.int .i64 48, Value.int .i64 96]), _, _, _, _] H24 o_Js24 fun w25 H25 => ?_
 clear H24
 refine zC (zB (wp_seq ?_))
 refine zD (l := [0, 1, 2, 3]) rfl ?_
 refine zA (d := 33) (v := .func (.func 62) #[] #[PT Js4 0, PT Js3 0, PT Js24 0]) (w' := w25) rfl rfl rfl (by kernel_rfl) ?_
 simp only [Act.put, sa, sz, ss]
 refine zF (d := 34) (R := fun vv w' => vv = .slice none 0 0 ∧ Mm w' [(Js4, [Value.slice (some ⟨gb, 11, none⟩) 3 (14 + x - 11), Value.bool false])] ∧ Kp Js4 w25 w') rfl rfl rfl (zG (args := #[PT Js4 0, .int .i64 1, .int .i64 64, .func (.func 62) #[] #[PT Js4 0, PT Js3 0, PT Js24 0]]) rfl call61 rfl (mpn rfl)) (Calls.mono (manyN_0_14 gb x Js4 10 4 64 (.func (.func 62) #[] #[PT Js4 0, PT Js3 0, PT Js24 0]) rfl (by decide) (by decide) (by decide) w25 (H25.out.1.two 1 4 rfl rfl (by decide))) (fun e w2 hh => ⟨_, hh.1, rfl, hh.2⟩)) ?_
 rintro _ w26 ⟨rfl, hn, hp⟩
 have H26 : Hid (Mm w26 [(Js24, [Value.int .i64 32, Value.int .i64 48, Value.int .i64 96]), (Js4, [Value.slice (some ⟨gb, 11, none⟩) 3 (14 + x - 11), Value.bool false]), (Js3, e1c), (Js2, [Value.int .i64 0, Value.int .i64 0, Value.string ⟨#[]⟩, Value.string ⟨#[]⟩, Value.string ⟨#[]⟩, Value.slice none 0 0, Value.slice none 0 0, Value.int .i64 0, Value.slice none 0 0, Value.slice none 0 0, Value.slice none 0 0]), (gb, zH .u8 (lb [3, 1, 1, 97, 0, 0, 0, 0, 0, 0, 0, 0, 0, 0]) 14)] ∧ Below w.heap.size w w26) := ⟨H25.out.1.change 1 rfl hp hn, Below.kp H25.out.2 hp o_Js4.out H25.out.2.size⟩
 clear hn hp
 clear H25
 simp only [Act.put, sa, sz, ss]
 refine zA (d := 35) (v := PT Js3 8) (w' := w26) rfl rfl rfl (by go_simp) ?_
 simp only [Act.put, sa, sz, ss]
 refine sG rfl (fun h => ex_st1 (v := .slice none 0 0) h 2 rfl rfl Tryz.sizeOf60 rfl rfl (rfl) (Nat.le_of_ble_eq_true rfl)) 2 [_, _, (_, e1c), _, _] H26 o_Js3 fun w27 H27 => ?_
 clear H26
 refine zC (zB (wp_seq ?_))
 refine zD (l := [0, 1, 2, 3]) rfl ?_
 refine zA (d := 36) (v := .func (.func 65) #[] #[PT Js3 0, PT Js4 0, PT Js24 0]) (w' := w27) rfl rfl rfl (by kernel_rfl) ?_
 simp only [Act.put, sa, sz, ss]
 refine zF (d := 37) (R := fun vv w' => vv = .slice none 0 0 ∧ Mm w' [(Js4, [Value.slice (some ⟨gb, 12, none⟩) 2 (14 + x - 12), Value.bool false])] ∧ Kp Js4 w27 w') rfl rfl rfl (zG (args := #[PT Js4 0, .int .i64 1, .int .i64 64, .func (.func 65) #[] #[PT Js3 0, PT Js4 0, PT Js24 0]]) rfl call64 rfl (mpn rfl)) (Calls.mono (manyK_0_14 gb x Js4 11 3 64 (.func (.func 65) #[] #[PT Js3 0, PT Js4 0, PT Js24 0]) rfl (by decide) (by decide) (by decide) w27 (H27.out.1.two 1 4 rfl rfl (by decide))) (fun e w2 hh => ⟨_, hh.1, rfl, hh.2⟩)) ?_
 rintro _ w28 ⟨rfl, hn, hp⟩
 have H28 : Hid (Mm w28 [(Js24, [Value.int .i64 32, Value.int .i64 48, Value.int .i64 96]), (Js4, [Value.slice (some ⟨gb, 12, none⟩) 2 (14 + x - 12), Value.bool false]), (Js3, e1c), (Js2, [Value.int .i64 0, Value.int .i64 0, Value.string ⟨#[]⟩, Value.string ⟨#[]⟩, Value.string ⟨#[]⟩, Value.slice none 0 0, Value.slice none 0 0, Value.int .i64 0, Value.slice none 0 0, Value.slice none 0 0, Value.slice none 0 0]), (gb, zH .u8 (lb [3, 1, 1, 97, 0, 0, 0, 0, 0, 0, 0, 0, 0, 0]) 14)] ∧ Below w.heap.size w w28) := ⟨H27.out.1.change 1 rfl hp hn, Below.kp H27.out.2 hp o_Js4.out H27.out.2.size⟩
 clear hn hp
 clear H27
 simp only [Act.put, sa, sz, ss]
 refine zA (d := 38) (v := PT Js3 9) (w' := w28) rfl rfl rfl (by go_simp) ?_
 simp only [Act.put, sa, sz, ss]
 refine sG rfl (fun h => ex_st1 (v := .slice none 0 0) h 2 rfl rfl Tryz.sizeOf61 rfl rfl (rfl) (Nat.le_of_ble_eq_true rfl)) 2 [_, _, (_, e1c), _, _] H28 o_Js3 fun w29 H29 => ?_
 clear H28
 refine zC (zB (wp_seq ?_))
 refine zD (l := [0, 1, 2, 3]) rfl ?_
 refine zA (d := 39) (v := .func (.func 70) #[] #[PT Js3 0, PT Js4 0, PT Js24 0]) (w' := w29) rfl rfl rfl (by kernel_rfl) ?_
 simp only [Act.put, sa, sz, ss]
 refine zF (d := 40) (R := fun vv w' => vv = .slice none 0 0 ∧ Mm w' [(Js4, [Value.slice (some ⟨gb, 13, none⟩) 1 (14 + x - 13), Value.bool false])] ∧ Kp Js4 w29 w') rfl rfl rfl (zG (args := #[PT Js4 0, .int .i64 1, .int .i64 64, .func (.func 70) #[] #[PT Js3 0, PT Js4 0, PT Js24 0]]) rfl call69 rfl (mpn rfl)) (Calls.mono (manyS_0_14 gb x Js4 12 2 64 (.func (.func 70) #[] #[PT Js3 0, PT Js4 0, PT Js24 0]) rfl (by decide) (by decide) (by decide) w29 (H29.out.1.two 1 4 rfl rfl (by decide))) (fun e w2 hh => ⟨_, hh.1, rfl, hh.2⟩)) ?_
 rintro _ w30 ⟨rfl, hn, hp⟩
 have H30 : Hid (Mm w30 [(Js24, [Value.int .i64 32, Value.int .i64 48, Value.int .i64 96]), (Js4, [Value.slice (some ⟨gb, 13, none⟩) 1 (14 + x - 13), Value.bool false]), (Js3, e1c), (Js2, [Value.int .i64 0, Value.int .i64 0, Value.string ⟨#[]⟩, Value.string ⟨#[]⟩, Value.string ⟨#[]⟩, Value.slice none 0 0, Value.slice none 0 0, Value.int .i64 0, Value.slice none 0 0, Value.slice none 0 0, Value.slice none 0 0]), (gb, zH .u8 (lb [3, 1, 1, 97, 0, 0, 0, 0, 0, 0, 0, 0, 0, 0]) 14)] ∧ Below w.heap.size w w30) := ⟨H29.out.1.change 1 rfl hp hn, Below.kp H29.out.2 hp o_Js4.out H29.out.2.size⟩
 clear hn hp
 clear H29
 simp only [Act.put, sa, sz, ss]
 refine zA (d := 41) (v := PT Js3 10) (w' := w30) rfl rfl rfl (by go_simp) ?_
 simp only [Act.put, sa, sz, ss]
 refine sG rfl (fun h => ex_st1 (v := .slice none 0 0) h 2 rfl rfl Tryz.sizeOf62 rfl rfl (rfl) (Nat.le_of_ble_eq_true rfl)) 2 [_, _, (_, e1c), _, _] H30 o_Js3 fun w31 H31 => ?_
 clear H30
 refine zC (zB ?_)
 refine wp_seq (wp_seq ?_)
 refine zD (l := [0, 1]) rfl ?_
 refine zF (d := 42) (R := fun vv w' => vv = .bool false ∧ Below w31.heap.size w31 w') rfl rfl rfl (zG (args := #[PT Js4 0]) rfl call45 rfl (mpn rfl)) (Calls.mono (whole_no Js4 _ _ _ (by decide) w31 (H31.out.1.one 1 rfl)) (fun e w2 hh => ⟨_, hh.1, rfl, hh.2⟩)) ?_
 rintro _ w32 ⟨rfl, hb⟩
 have H32 : Hid (Mm w32 [(Js24, [Value.int .i64 32, Value.int .i64 48, Value.int .i64 96]), (Js4, [Value.slice (some ⟨gb, 13, none⟩) 1 (14 + x - 13), Value.bool false]), (Js3, e1c), (Js2, [Value.int .i64 0, Value.int .i64 0, Value.string ⟨#[]⟩, Value.string ⟨#[]⟩, Value.string ⟨#[]⟩, Value.slice none 0 0, Value.slice none 0 0, Value.int .i64 0, Value.slice none 0 0, Value.slice none 0 0, Value.slice none 0 0]), (gb, zH .u8 (lb [3, 1, 1, 97, 0, 0, 0, 0, 0, 0, 0, 0, 0, 0]) 14)] ∧ Below w.heap.size w w32) := ⟨H31.out.1.below hb, H31.out.2.trans (hb.mono H31.out.2.size)⟩
 clear hb
 clear H31
 simp only [Act.put, sa, sz, ss]
 refine zA (d := 43) (v := .bool true) (w' := w32) rfl rfl rfl (by go_simp) ?_
 simp only [Act.put, sa, sz, ss]
 refine zC (zB ?_)
 refine wp_cond_true rfl (wp_seq ?_)
 refine zD (l := [0, 1, 2]) rfl ?_
 refine zA (d := 44) (v := .agg ([Value.int .i64 0, Value.int .i64 0, Value.string ⟨#[]⟩, Value.string ⟨#[]⟩, Value.string ⟨#[]⟩, Value.slice none 0 0, Value.slice none 0 0, Value.int .i64 0, Value.slice none 0 0, Value.slice none 0 0, Value.slice none 0 0]).toArray) (w' := w32) rfl rfl rfl (by kernel_rfl) ?_
 simp only [Act.put, sa, sz, ss]
 refine sG rfl (fun h => ex_storeT (vs := [Value.int .i64 0, Value.int .i64 0, Value.string ⟨#[]⟩, Value.string ⟨#[]⟩, Value.string ⟨#[]⟩, Value.slice none 0 0, Value.slice none 0 0, Value.int .i64 0, Value.slice none 0 0, Value.slice none 0 0, Value.slice none 0 0]) h 3 rfl rfl rfl rfl As64 rfl (Nat.le_of_ble_eq_true rfl)) 3 [_, _, _, (_, [Value.int .i64 0, Value.int .i64 0, Value.string ⟨#[]⟩, Value.string ⟨#[]⟩, Value.string ⟨#[]⟩, Value.slice none 0 0, Value.slice none 0 0, Value.int .i64 0, Value.slice none 0 0, Value.slice none 0 0, Value.slice none 0 0]), _] H32 o_Js2 fun w33 H33 => ?_
 clear H32
 refine zA (d := 3) (v := .int .i64 4) (w' := w33) rfl rfl rfl (rfl) ?_
 simp only [Act.put, sa, sz, ss]
 refine zC (zB (wp_ret ?_))
 repeat (first | refine zL ?_ | refine zK ?_)
 have hf0 := var_T H33.out.1 3 rfl Ai64 As64 rfl
 refine bodyPost_ret (v := .tuple #[.agg ([Value.int .i64 0, Value.int .i64 0, Value.string ⟨#[]⟩, Value.string ⟨#[]⟩, Value.string ⟨#[]⟩, Value.slice none 0 0, Value.slice none 0 0, Value.int .i64 0, Value.slice none 0 0, Value.slice none 0 0, Value.slice none 0 0]).toArray, .int .i64 4]) (by simp [results, Tryz.results21, asAddr, hf0]) rfl ?_
 exact ⟨rfl, H33.out.2⟩
end Wi
end Rg
end Go.Proofs.YtahghpkjkfaieaaGreatDoor
end
