/- Texts of the proof, joined. -/
import Derived.Test.YtfboipfpnkngdaaDoorP2
import Derived.Lib.SliceRun
section
namespace Go.Proofs.YtfboipfpnkngdaaDoor
open Go.RowKit
namespace Rg
set_option maxRecDepth 100000
theorem rest_drop {P : Program} {Q : Exit → Act → World → Prop} {full : Array Oper} {a : Act} {w : World} {i : Nat} {r : List Nat} {o : Oper} {v : Value} {w' : World} (ho : full[i]? = some o) (hd : o.dst = none) (hw : Region.wanted o (yielded full a.tmps) = true) (hx : (execOp a.eval o).run P w = .ok (.value v) w') (h : wpOps P full Q r a w') : wpOps P full Q (i :: r) a w :=
  rest_value ho hw hx (by rw [hd]; exact h)
def cl (r : Nat → Nat) (k : Nat) : Nat → Nat := fun j => if k ≤ j then 0 else r j
theorem rep_ints (n : Nat) : List.replicate n (Value.int .u8 0) = ints .u8 (fun _ => 0) n := by
  apply List.ext_getElem?
  intro j
  by_cases h : j < n
  · rw [ints_get _ _ h, List.getElem?_replicate, if_pos h]; rfl
  · rw [ints_none _ _ (by omega), List.getElem?_eq_none (by simp; omega)]
theorem cl_part (r : Nat → Nat) (k : Nat) (m : Bool) (s : Nat → Nat) (c : Nat) : hs m s (fun j => if k ≤ j ∧ j < k + (64 - k) then (fun _ => 0) (j - k) else r j) c = hs m s (cl r k) c := by
  refine hs_ext (hs_len _ _ _ _) (hs_made _ _ _ _) (fun j hj => hs_word _ _ _ _ hj) (fun j hj => ?_) (hs_count _ _ _ _)
  rw [hs_rest _ _ _ _ hj]
  unfold cl
  by_cases h : k ≤ j
  · rw [if_pos h, if_pos (by omega)]
  · rw [if_neg h, if_neg (by omega)]
section
variable {ρ : Operand → Value} {o : Oper} {x : Operand} {g k c : Nat} {w : World}
theorem ex_slA64 {y : Operand} (ho : o.op = .slice 55 x (some y) none none) (hx : ρ x = PT g 9) (hy : ρ y = .int .i64 ((k : Nat) : Int)) (hk : k = 64) : (execOp ρ o).run Tryd.prog w = .ok (.value (.slice (some ⟨g, 9, none⟩) 0 0)) w := by
  subst hk
  simp only [execOp, ho, hx, hy, Option.map_some, Option.map_none]
  clear ho hx hy
  go_simp
theorem ex_sl56 (ho : o.op = .slice 55 x (some (.const (.int .i64 56))) none none) (hx : ρ x = PT g 9) (hy : ρ (.const (.int .i64 56)) = .int .i64 56) : (execOp ρ o).run Tryd.prog w = .ok (.value (.slice (some ⟨g, 65, none⟩) 8 8)) w := by
  simp only [execOp, ho, hx, hy, Option.map_some, Option.map_none]
  clear ho hx hy
  go_simp
theorem ex_sl69 (ho : o.op = .slice 69 x none none none) (hx : ρ x = PT g 0) : (execOp ρ o).run Tryd.prog w = .ok (.value (.slice (some ⟨g, 0, none⟩) 8 8)) w := by
  simp only [execOp, ho, hx, Option.map_none]
  clear ho hx
  go_simp
theorem ex_clear0 {p : Option Addr} (ho : o.op = .call { callee := .builtin .clear, args := #[x], argTypes := #[22] }) (hx : ρ x = .slice p 0 0) : (execOp ρ o).run Tryd.prog w = .ok (.value (.tuple #[])) w := by
  have hr : (Builtin.clear_ #[22] o.type #[.slice p 0 0]).run Tryd.prog w = .ok (.tuple #[]) w := by
    cases p <;> simp [Builtin.clear_, run_underlying Tryd.underlying22]
  unfold execOp
  simp only [ho, resolve, invoke, builtin, Sem.run_bind, Sem.run_pure, Result.andThen_ok, List.map_toArray, List.map_cons, List.map_nil, hx, hr]
theorem zero5 (w : World) : (zeroValue 5).run Tryd.prog w = .ok (.int .u8 0) w := by kernel_rfl
theorem ex_clear {m : Bool} {s r : Nat → Nat} {l : List (Nat × List Value)} (h : Mm w l) (q : Nat) (hk : l[q]? = some (g, hs m s r c)) (h64 : k < 64)
    (ho : o.op = .call { callee := .builtin .clear, args := #[x], argTypes := #[22] }) (hx : ρ x = .slice (some ⟨g, 9 + k, none⟩) (64 - k) (64 - k)) : (execOp ρ o).run Tryd.prog w = .ok (.value (.tuple #[])) (w.setCells g (9 + k) (ints .u8 (fun _ => 0) (64 - k))) := by
  have hmem := List.mem_of_getElem? hk
  have hcell : ∀ j, j < 64 - k → ∃ u, (hs m s r c)[9 + k + j]? = some u := fun j hj => ⟨_, List.getElem?_eq_getElem (by rw [hs_len]; omega)⟩
  have hr : (Builtin.clear_ #[22] o.type #[.slice (some ⟨g, 9 + k, none⟩) (64 - k) (64 - k)]).run Tryd.prog w = .ok (.tuple #[]) (w.setCells g (9 + k) (List.replicate (64 - k) (.int .u8 0))) :=
    Lib.run_clear_slice w 22 5 o.type (.int .u8 0) Tryd.underlying22 zero5 rfl rfl g (9 + k) (64 - k) (64 - k) (by omega)
      (fun j hj => by
        obtain ⟨u, hu⟩ := hcell j hj
        rw [h.cell hmem hu]; rfl)
      (fun j hj => by
        obtain ⟨u, hu⟩ := hcell j hj
        exact h.free hmem hu)
  rw [rep_ints] at hr
  clear h hk hcell hmem
  unfold execOp
  simp only [ho, resolve, invoke, builtin, Sem.run_bind, Sem.run_pure, Result.andThen_ok, List.map_toArray, List.map_cons, List.map_nil, hx, hr]
end
theorem call36 : ∀ args w, (callFunc 36 args).run Tryd.prog w = .ok (.enter 36 args) w := by intro args w; go_simp
theorem call42 : ∀ args w, (callFunc 42 args).run Tryd.prog w = .ok (.enter 42 args) w := by intro args w; go_simp
set_option maxHeartbeats 4000000 in
set_option maxRecDepth 100000 in
theorem finish_A (m : Bool) (s r : Nat → Nat) (c : Nat) (hc : c % 64 < 56) (w : World) (hm : Mm w [(1, ints .u32 kT 64)]) :
    Calls Tryd.prog 30 #[.agg (hs m s r c).toArray] w fun e w' => e = .returned (.agg (ints .u8 (bo (mx s (pr8 (cl (up r (c % 64) 128) ((c % 64) + 1)) 56 8 (e8 (c64 (8 * c)) 8))) 8) 32).toArray) ∧ Below w.heap.size w w' := by
  have H0 : Hid (_ ∧ _) := ⟨hm, Below.refl w.heap.size w⟩
  clear hm
  go_enter Tryd.func30, Tryd.ntmps30
  refine wp_seq ?_
  refine walk_seqA 2 [.made (hs m s r c) 58, .made (ints .u8 (fun _ => 0) 32) 25] (sB H0) ?ho1 ?he1
  case ho1 => exact ak (fun γ => ⟨rfl, fun w' => ex_boxT rfl rfl⟩) (ak (fun γ => ⟨rfl, fun w' => ex_mk25 rfl⟩) trivial)
  intro γ w1 l hM hl
  have H1 : Hid (Mm w1 [(γ 0, hs m s r c), (γ 1, ints .u8 (fun _ => 0) 32), (1, ints .u32 kT 64)] ∧ _) := growB H0 hM (Nat.le_refl _) hl [0, 1] rfl (by decide)
  have o1_0 := ownB H0 hM (Nat.le_refl _) hl (i := 0) rfl
  have o1_1 := ownB H0 hM (Nat.le_refl _) hl (i := 1) rfl
  clear hM hl l
  generalize γ 0 = γ1_0 at H1 o1_0 ⊢
  generalize γ 1 = γ1_1 at H1 o1_1 ⊢
  clear γ
  refine rest0 rfl (then_normal (wp_seq ?_))
  refine walk_seqA 6 [.quiet (PT γ1_0 73), .quiet (U c), .quiet (U (c64 (8 * c))), .call (.agg (ints .u8 (e8 (c64 (8 * c)) 8) 8).toArray), .made (ints .u8 (fun _ => 0) 8) 69, .laid 4 (ints .u8 (fun _ => 0) 8) (ints .u8 (e8 (c64 (8 * c)) 8) 8)] (sB H1) ?ho2 ?he2 (hL := ?hL2)
  case hL2 => exact ⟨⟨_, rfl⟩, trivial⟩
  case ho2 => exact ak (by refine fun γ => ⟨rfl, fun w' h => ?_⟩; clear h; go_simp) (ak (fun γ => ⟨rfl, fun w' h => ex_loadC h 0 rfl rfl rfl Tryd.isAgg56 (hs_count _ _ _ _)⟩) (ak (fun γ => ⟨rfl, fun w' _ => ex_mul64 rfl rfl rfl⟩) (ak (fun γ => ⟨rfl, fun w' h => ⟨36, #[U (c64 (8 * c))], exec_call rfl call36 rfl (mpn rfl), eight_any (c64 (8 * c)) w'⟩⟩) (ak (fun γ => ⟨rfl, fun w' => ex_mk69 rfl⟩) (ak (fun γ => ⟨rfl, rfl, (ints_len _ _ _).trans (ints_len _ _ _).symm, fun w' h => ex_laidI h Tryd.sizeOf69 rfl rfl rfl⟩) trivial)))))
  intro γ w2 l hM hl
  have H2 : Hid (Mm w2 [(γ 4, ints .u8 (e8 (c64 (8 * c)) 8) 8), (γ1_0, hs m s r c), (γ1_1, ints .u8 (fun _ => 0) 32), (1, ints .u32 kT 64)] ∧ _) := growB H1 hM (Nat.le_refl _) hl [4] rfl (by decide)
  have o2_4 := ownB H1 hM (Nat.le_refl _) hl (i := 4) rfl
  clear hM hl l H1
  generalize γ 4 = γ2_4 at H2 o2_4 ⊢
  clear γ
  refine rest0 rfl (then_normal (wp_seq ?_))
  refine walk_seqB 2 [.call (.int .i64 ((c % 64 : Nat) : Int)), .quiet (.int .i64 ((c % 64 : Nat) : Int))] H2 ?ho3 ?he3
  case ho3 => exact ak (fun γ => ⟨rfl, fun w' h => ⟨40, #[PT γ1_0 0], exec_call rfl call40 rfl (mpn rfl), filled_any _ _ _ _ _ w' (h.one 1 rfl)⟩⟩) (ak (fun _ => ⟨rfl, fun _ _ => rfl⟩) trivial)
  intro _ w3 H3
  clear H2
  refine rest0 rfl (then_normal (wp_seq ?_))
  refine walk_seqB 3 [.quiet (.int .i64 ((c % 64 : Nat) : Int)), .quiet (PT γ1_0 9), .quiet (PT γ1_0 (9 + c % 64))] H3 ?ho4 ?he4
  case ho4 => exact ak (fun _ => ⟨rfl, fun _ _ => rfl⟩) (ak (by refine fun γ => ⟨rfl, fun w' h => ?_⟩; clear h; go_simp) (ak (fun γ => ⟨rfl, fun w' _ => ex_ix_55 (j := c % 64) rfl rfl rfl (by omega)⟩) trivial))
  intro _ w4 H4
  clear H3
  refine rest_at (l := [3]) rfl ?_
  refine rest_store rfl rfl rfl (ex_storeI (v := ((128 : Nat) : Int)) H4.out.1 1 rfl rfl Tryd.sizeOf5 rfl rfl (by rw [hs_len]; omega)) ?_
  have H5 : Hid (Mm (w4.setCells γ1_0 (9 + c % 64) ([Z8 128])) [(γ2_4, ints .u8 (e8 (c64 (8 * c)) 8) 8), (γ1_0, hs m s (up r (c % 64) 128) c), (γ1_1, ints .u8 (fun _ => 0) 32), (1, ints .u32 kT 64)] ∧ Below w.heap.size w (w4.setCells γ1_0 (9 + c % 64) ([Z8 128]))) := ⟨by
    have h := H4.out.1.put 1 (off := (9 + c % 64)) (vs := [Z8 128]) rfl (by rw [hs_len]; simp only [List.length_cons, List.length_nil]; omega)
    rw [hs_put_byte _ _ _ _ _ _ (by omega)] at h
    exact h, below_setCells _ o1_0.out _ _ _ H4.out.2⟩
  clear H4
  generalize hgw : World.setCells _ _ _ _ = w5 at H5 ⊢
  clear hgw
  refine rest_nil (then_normal (wp_seq ?_))
  refine walk_seqB 4 [.quiet (PT γ1_0 9), .quiet (.int .i64 ((c % 64 : Nat) : Int)), .quiet (.int .i64 (((c % 64) + 1 : Nat) : Int)), .quiet (.slice (some ⟨γ1_0, (9 + ((c % 64) + 1)), none⟩) (64 - ((c % 64) + 1)) (64 - ((c % 64) + 1)))] H5 ?ho5 ?he5
  case ho5 => exact ak (by refine fun γ => ⟨rfl, fun w' h => ?_⟩; clear h; go_simp) (ak (fun _ => ⟨rfl, fun _ _ => rfl⟩) (ak (by refine fun γ => ⟨rfl, fun w' h => ?_⟩; clear h; go_simp; rw [IntKind.wrap_i64]; omega) (ak (fun γ => ⟨rfl, fun w' _ => ex_slA (k := (c % 64) + 1) rfl rfl rfl (by omega)⟩) trivial)))
  intro _ w6 H6
  clear H5
  refine rest_at (l := [4]) rfl ?_
  refine rest_drop rfl rfl rfl (ex_clear (k := (c % 64) + 1) H6.out.1 1 rfl (by omega) rfl rfl) ?_
  have H7 : Hid (Mm (w6.setCells γ1_0 (9 + ((c % 64) + 1)) (ints .u8 (fun _ => 0) (64 - ((c % 64) + 1)))) [(γ2_4, ints .u8 (e8 (c64 (8 * c)) 8) 8), (γ1_0, hs m s (cl (up r (c % 64) 128) ((c % 64) + 1)) c), (γ1_1, ints .u8 (fun _ => 0) 32), (1, ints .u32 kT 64)] ∧ Below w.heap.size w (w6.setCells γ1_0 (9 + ((c % 64) + 1)) (ints .u8 (fun _ => 0) (64 - ((c % 64) + 1))))) := ⟨by
    have h := H6.out.1.put 1 (off := (9 + ((c % 64) + 1))) (vs := (ints .u8 (fun _ => 0) (64 - ((c % 64) + 1)))) rfl (by rw [ints_len, hs_len]; omega)
    rw [hs_put_part _ _ _ _ _ _ _ (by omega), cl_part] at h
    exact h, below_setCells _ o1_0.out _ _ _ H6.out.2⟩
  clear H6
  generalize hgw : World.setCells _ _ _ _ = w7 at H7 ⊢
  clear hgw
  refine rest_nil (then_normal ?_)
  refine wp_seq (wp_seq ?_)
  refine walk_seqB 3 [.quiet (.int .i64 ((c % 64 : Nat) : Int)), .quiet (.int .i64 (((c % 64) + 1 : Nat) : Int)), .quiet (.bool false)] H7 ?ho6 ?he6
  case ho6 => exact ak (fun _ => ⟨rfl, fun _ _ => rfl⟩) (ak (by refine fun γ => ⟨rfl, fun w' h => ?_⟩; clear h; go_simp; rw [IntKind.wrap_i64]; omega) (ak (by refine fun γ => ⟨rfl, fun w' h => ?_⟩; clear h; go_simp <;> omega) trivial))
  intro _ w8 H8
  clear H7
  refine rest0 rfl (then_normal (wp_cond_false rfl ?_))
  refine wp_skip (then_normal (wp_seq ?_))
  refine walk_anyB 3 [.quiet (PT γ1_0 9), .quiet (.slice (some ⟨γ1_0, 65, none⟩) 8 8), .quiet (.slice (some ⟨γ2_4, 0, none⟩) 8 8)] H8 ?ho7 ?he7
  case ho7 => exact ak (by refine fun γ => ⟨rfl, fun w' h => ?_⟩; clear h; go_simp) (ak (fun γ => ⟨rfl, fun w' _ => ex_sl56 rfl rfl rfl⟩) (ak (fun γ => ⟨rfl, fun w' _ => ex_sl69 rfl rfl⟩) trivial))
  intro _ w9 H9
  clear H8
  refine rest_at (l := [3]) rfl ?_
  refine rest_set (d := 31) (v := .int .i64 ((8 : Nat) : Int)) (w' := w9.setCells γ1_0 (9 + 56) (ints .u8 (e8 (c64 (8 * c)) 8) 8)) rfl rfl rfl (ex_copy (kk := 56) H9.out.1 1 rfl (fun j hj => by have := H9.out.1.get 0 rfl j (ints_get .u8 (e8 (c64 (8 * c)) 8) hj); rwa [Nat.zero_add]) rfl (by decide) rfl rfl rfl) ?_
  simp only [Act.put, sa, sz, ss]
  have H10 : Hid (Mm (w9.setCells γ1_0 (9 + 56) (ints .u8 (e8 (c64 (8 * c)) 8) 8)) [(γ2_4, ints .u8 (e8 (c64 (8 * c)) 8) 8), (γ1_0, hs m s (pr8 (cl (up r (c % 64) 128) ((c % 64) + 1)) 56 8 (e8 (c64 (8 * c)) 8)) c), (γ1_1, ints .u8 (fun _ => 0) 32), (1, ints .u32 kT 64)] ∧ Below w.heap.size w (w9.setCells γ1_0 (9 + 56) (ints .u8 (e8 (c64 (8 * c)) 8) 8))) := ⟨by
    have h := H9.out.1.put 1 (off := (9 + 56)) (vs := (ints .u8 (e8 (c64 (8 * c)) 8) 8)) rfl (by rw [ints_len, hs_len]; omega)
    rw [hs_put_part _ _ _ _ _ _ _ (by decide)] at h
    exact h, below_setCells _ o1_0.out _ _ _ H9.out.2⟩
  clear H9
  generalize hgw : World.setCells _ _ _ _ = w10 at H10 ⊢
  clear hgw
  refine rest_nil (then_normal (wp_seq ?_))
  refine walk_seqB 6 [.quiet (PT γ1_0 1), .quiet (.agg (ints .u32 s 8).toArray), .quiet (PT γ1_0 9), .quiet (.agg (ints .u8 (pr8 (cl (up r (c % 64) 128) ((c % 64) + 1)) 56 8 (e8 (c64 (8 * c)) 8)) 64).toArray), .call (.agg (ints .u32 (mx s (pr8 (cl (up r (c % 64) 128) ((c % 64) + 1)) 56 8 (e8 (c64 (8 * c)) 8))) 8).toArray), .call (.agg (ints .u8 (bo (mx s (pr8 (cl (up r (c % 64) 128) ((c % 64) + 1)) 56 8 (e8 (c64 (8 * c)) 8))) 8) 32).toArray)] H10 ?ho8 ?he8
  case ho8 => exact ak (by refine fun γ => ⟨rfl, fun w' h => ?_⟩; clear h; go_simp) (ak (fun γ => ⟨rfl, fun w' h => ex_loadT h 1 rfl rfl rfl Tryd.isAgg53 Tryd.sizeOf53 (hs_words _ _ _ _) (ints_len _ _ _)⟩) (ak (by refine fun γ => ⟨rfl, fun w' h => ?_⟩; clear h; go_simp) (ak (fun γ => ⟨rfl, fun w' h => ex_loadT h 1 rfl rfl rfl Tryd.isAgg55 Tryd.sizeOf55 (hs_rests _ _ _ _) (ints_len _ _ _)⟩) (ak (fun γ => ⟨rfl, fun w' h => ⟨41, #[.agg (ints .u32 s 8).toArray, .agg (ints .u8 (pr8 (cl (up r (c % 64) 128) ((c % 64) + 1)) 56 8 (e8 (c64 (8 * c)) 8)) 64).toArray], exec_call rfl call41 rfl (mpn rfl), mix_any s (pr8 (cl (up r (c % 64) 128) ((c % 64) + 1)) 56 8 (e8 (c64 (8 * c)) 8)) w' (h.one 3 rfl)⟩⟩) (ak (fun γ => ⟨rfl, fun w' h => ⟨42, #[.agg (ints .u32 (mx s (pr8 (cl (up r (c % 64) 128) ((c % 64) + 1)) 56 8 (e8 (c64 (8 * c)) 8))) 8).toArray], exec_call rfl call42 rfl (mpn rfl), bytesOf_any (mx s (pr8 (cl (up r (c % 64) 128) ((c % 64) + 1)) 56 8 (e8 (c64 (8 * c)) 8))) w'⟩⟩) trivial)))))
  intro _ w11 H11
  clear H10
  refine rest_at (l := [6]) rfl ?_
  refine rest_store rfl rfl rfl (ex_storeT (vs := ints .u8 (bo (mx s (pr8 (cl (up r (c % 64) 128) ((c % 64) + 1)) 56 8 (e8 (c64 (8 * c)) 8))) 8) 32) H11.out.1 2 rfl rfl rfl rfl (by rw [ints_len]; exact Tryd.sizeOf25) (ints_all _ _ _) (by simp [ints_len])) ?_
  have H12 : Hid (Mm (w11.setCells γ1_1 0 (ints .u8 (bo (mx s (pr8 (cl (up r (c % 64) 128) ((c % 64) + 1)) 56 8 (e8 (c64 (8 * c)) 8))) 8) 32)) [(γ2_4, ints .u8 (e8 (c64 (8 * c)) 8) 8), (γ1_0, hs m s (pr8 (cl (up r (c % 64) 128) ((c % 64) + 1)) 56 8 (e8 (c64 (8 * c)) 8)) c), (γ1_1, ints .u8 (bo (mx s (pr8 (cl (up r (c % 64) 128) ((c % 64) + 1)) 56 8 (e8 (c64 (8 * c)) 8))) 8) 32), (1, ints .u32 kT 64)] ∧ Below w.heap.size w (w11.setCells γ1_1 0 (ints .u8 (bo (mx s (pr8 (cl (up r (c % 64) 128) ((c % 64) + 1)) 56 8 (e8 (c64 (8 * c)) 8))) 8) 32))) := ⟨by
    have h := H11.out.1.put 2 (off := 0) (vs := ints .u8 (bo (mx s (pr8 (cl (up r (c % 64) 128) ((c % 64) + 1)) 56 8 (e8 (c64 (8 * c)) 8))) 8) 32) rfl (by simp [ints_len])
    rw [ints_patch0 _ _ _ _] at h
    exact h, below_setCells _ o1_1.out _ _ _ H11.out.2⟩
  clear H11
  generalize hgw : World.setCells _ _ _ _ = w12 at H12 ⊢
  clear hgw
  refine rest_nil (then_normal (wp_ret ?_))
  repeat (first | refine then_ret ?_ | refine block_ret ?_)
  have hf0 := var_T H12.out.1 2 rfl Tryd.isAgg25 Tryd.sizeOf25 (ints_len _ _ _)
  refine bodyPost_ret (v := .agg (ints .u8 (bo (mx s (pr8 (cl (up r (c % 64) 128) ((c % 64) + 1)) 56 8 (e8 (c64 (8 * c)) 8))) 8) 32).toArray) (by simp [results, Tryd.results30, asAddr, hf0]) rfl ?_
  exact ⟨rfl, H12.out.2⟩
set_option maxHeartbeats 4000000 in
set_option maxRecDepth 100000 in
theorem finish_B (m : Bool) (s r : Nat → Nat) (c : Nat) (hc : 56 ≤ c % 64) (hd : c % 64 < 63) (w : World) (hm : Mm w [(1, ints .u32 kT 64)]) :
    Calls Tryd.prog 30 #[.agg (hs m s r c).toArray] w fun e w' => e = .returned (.agg (ints .u8 (bo (mx (mx s (cl (up r (c % 64) 128) ((c % 64) + 1))) (pr8 (fun _ => 0) 56 8 (e8 (c64 (8 * c)) 8))) 8) 32).toArray) ∧ Below w.heap.size w w' := by
  have H0 : Hid (_ ∧ _) := ⟨hm, Below.refl w.heap.size w⟩
  clear hm
  go_enter Tryd.func30, Tryd.ntmps30
  refine wp_seq ?_
  refine walk_seqA 2 [.made (hs m s r c) 58, .made (ints .u8 (fun _ => 0) 32) 25] (sB H0) ?ho1 ?he1
  case ho1 => exact ak (fun γ => ⟨rfl, fun w' => ex_boxT rfl rfl⟩) (ak (fun γ => ⟨rfl, fun w' => ex_mk25 rfl⟩) trivial)
  intro γ w1 l hM hl
  have H1 : Hid (Mm w1 [(γ 0, hs m s r c), (γ 1, ints .u8 (fun _ => 0) 32), (1, ints .u32 kT 64)] ∧ _) := growB H0 hM (Nat.le_refl _) hl [0, 1] rfl (by decide)
  have o1_0 := ownB H0 hM (Nat.le_refl _) hl (i := 0) rfl
  have o1_1 := ownB H0 hM (Nat.le_refl _) hl (i := 1) rfl
  clear hM hl l
  generalize γ 0 = γ1_0 at H1 o1_0 ⊢
  generalize γ 1 = γ1_1 at H1 o1_1 ⊢
  clear γ
  refine rest0 rfl (then_normal (wp_seq ?_))
  refine walk_seqA 6 [.quiet (PT γ1_0 73), .quiet (U c), .quiet (U (c64 (8 * c))), .call (.agg (ints .u8 (e8 (c64 (8 * c)) 8) 8).toArray), .made (ints .u8 (fun _ => 0) 8) 69, .laid 4 (ints .u8 (fun _ => 0) 8) (ints .u8 (e8 (c64 (8 * c)) 8) 8)] (sB H1) ?ho2 ?he2 (hL := ?hL2)
  case hL2 => exact ⟨⟨_, rfl⟩, trivial⟩
  case ho2 => exact ak (by refine fun γ => ⟨rfl, fun w' h => ?_⟩; clear h; go_simp) (ak (fun γ => ⟨rfl, fun w' h => ex_loadC h 0 rfl rfl rfl Tryd.isAgg56 (hs_count _ _ _ _)⟩) (ak (fun γ => ⟨rfl, fun w' _ => ex_mul64 rfl rfl rfl⟩) (ak (fun γ => ⟨rfl, fun w' h => ⟨36, #[U (c64 (8 * c))], exec_call rfl call36 rfl (mpn rfl), eight_any (c64 (8 * c)) w'⟩⟩) (ak (fun γ => ⟨rfl, fun w' => ex_mk69 rfl⟩) (ak (fun γ => ⟨rfl, rfl, (ints_len _ _ _).trans (ints_len _ _ _).symm, fun w' h => ex_laidI h Tryd.sizeOf69 rfl rfl rfl⟩) trivial)))))
  intro γ w2 l hM hl
  have H2 : Hid (Mm w2 [(γ 4, ints .u8 (e8 (c64 (8 * c)) 8) 8), (γ1_0, hs m s r c), (γ1_1, ints .u8 (fun _ => 0) 32), (1, ints .u32 kT 64)] ∧ _) := growB H1 hM (Nat.le_refl _) hl [4] rfl (by decide)
  have o2_4 := ownB H1 hM (Nat.le_refl _) hl (i := 4) rfl
  clear hM hl l H1
  generalize γ 4 = γ2_4 at H2 o2_4 ⊢
  clear γ
  refine rest0 rfl (then_normal (wp_seq ?_))
  refine walk_seqB 2 [.call (.int .i64 ((c % 64 : Nat) : Int)), .quiet (.int .i64 ((c % 64 : Nat) : Int))] H2 ?ho3 ?he3
  case ho3 => exact ak (fun γ => ⟨rfl, fun w' h => ⟨40, #[PT γ1_0 0], exec_call rfl call40 rfl (mpn rfl), filled_any _ _ _ _ _ w' (h.one 1 rfl)⟩⟩) (ak (fun _ => ⟨rfl, fun _ _ => rfl⟩) trivial)
  intro _ w3 H3
  clear H2
  refine rest0 rfl (then_normal (wp_seq ?_))
  refine walk_seqB 3 [.quiet (.int .i64 ((c % 64 : Nat) : Int)), .quiet (PT γ1_0 9), .quiet (PT γ1_0 (9 + c % 64))] H3 ?ho4 ?he4
  case ho4 => exact ak (fun _ => ⟨rfl, fun _ _ => rfl⟩) (ak (by refine fun γ => ⟨rfl, fun w' h => ?_⟩; clear h; go_simp) (ak (fun γ => ⟨rfl, fun w' _ => ex_ix_55 (j := c % 64) rfl rfl rfl (by omega)⟩) trivial))
  intro _ w4 H4
  clear H3
  refine rest_at (l := [3]) rfl ?_
  refine rest_store rfl rfl rfl (ex_storeI (v := ((128 : Nat) : Int)) H4.out.1 1 rfl rfl Tryd.sizeOf5 rfl rfl (by rw [hs_len]; omega)) ?_
  have H5 : Hid (Mm (w4.setCells γ1_0 (9 + c % 64) ([Z8 128])) [(γ2_4, ints .u8 (e8 (c64 (8 * c)) 8) 8), (γ1_0, hs m s (up r (c % 64) 128) c), (γ1_1, ints .u8 (fun _ => 0) 32), (1, ints .u32 kT 64)] ∧ Below w.heap.size w (w4.setCells γ1_0 (9 + c % 64) ([Z8 128]))) := ⟨by
    have h := H4.out.1.put 1 (off := (9 + c % 64)) (vs := [Z8 128]) rfl (by rw [hs_len]; simp only [List.length_cons, List.length_nil]; omega)
    rw [hs_put_byte _ _ _ _ _ _ (by omega)] at h
    exact h, below_setCells _ o1_0.out _ _ _ H4.out.2⟩
  clear H4
  generalize hgw : World.setCells _ _ _ _ = w5 at H5 ⊢
  clear hgw
  refine rest_nil (then_normal (wp_seq ?_))
  refine walk_seqB 4 [.quiet (PT γ1_0 9), .quiet (.int .i64 ((c % 64 : Nat) : Int)), .quiet (.int .i64 (((c % 64) + 1 : Nat) : Int)), .quiet (.slice (some ⟨γ1_0, (9 + ((c % 64) + 1)), none⟩) (64 - ((c % 64) + 1)) (64 - ((c % 64) + 1)))] H5 ?ho5 ?he5
  case ho5 => exact ak (by refine fun γ => ⟨rfl, fun w' h => ?_⟩; clear h; go_simp) (ak (fun _ => ⟨rfl, fun _ _ => rfl⟩) (ak (by refine fun γ => ⟨rfl, fun w' h => ?_⟩; clear h; go_simp; rw [IntKind.wrap_i64]; omega) (ak (fun γ => ⟨rfl, fun w' _ => ex_slA (k := (c % 64) + 1) rfl rfl rfl (by omega)⟩) trivial)))
  intro _ w6 H6
  clear H5
  refine rest_at (l := [4]) rfl ?_
  refine rest_drop rfl rfl rfl (ex_clear (k := (c % 64) + 1) H6.out.1 1 rfl (by omega) rfl rfl) ?_
  have H7 : Hid (Mm (w6.setCells γ1_0 (9 + ((c % 64) + 1)) (ints .u8 (fun _ => 0) (64 - ((c % 64) + 1)))) [(γ2_4, ints .u8 (e8 (c64 (8 * c)) 8) 8), (γ1_0, hs m s (cl (up r (c % 64) 128) ((c % 64) + 1)) c), (γ1_1, ints .u8 (fun _ => 0) 32), (1, ints .u32 kT 64)] ∧ Below w.heap.size w (w6.setCells γ1_0 (9 + ((c % 64) + 1)) (ints .u8 (fun _ => 0) (64 - ((c % 64) + 1))))) := ⟨by
    have h := H6.out.1.put 1 (off := (9 + ((c % 64) + 1))) (vs := (ints .u8 (fun _ => 0) (64 - ((c % 64) + 1)))) rfl (by rw [ints_len, hs_len]; omega)
    rw [hs_put_part _ _ _ _ _ _ _ (by omega), cl_part] at h
    exact h, below_setCells _ o1_0.out _ _ _ H6.out.2⟩
  clear H6
  generalize hgw : World.setCells _ _ _ _ = w7 at H7 ⊢
  clear hgw
  refine rest_nil (then_normal ?_)
  refine wp_seq (wp_seq ?_)
  refine walk_seqB 3 [.quiet (.int .i64 ((c % 64 : Nat) : Int)), .quiet (.int .i64 (((c % 64) + 1 : Nat) : Int)), .quiet (.bool true)] H7 ?ho6 ?he6
  case ho6 => exact ak (fun _ => ⟨rfl, fun _ _ => rfl⟩) (ak (by refine fun γ => ⟨rfl, fun w' h => ?_⟩; clear h; go_simp; rw [IntKind.wrap_i64]; omega) (ak (by refine fun γ => ⟨rfl, fun w' h => ?_⟩; clear h; go_simp <;> omega) trivial))
  intro _ w8 H8
  clear H7
  refine rest0 rfl (then_normal (wp_cond_true rfl (wp_seq ?_)))
  refine walk_seqB 6 [.quiet (PT γ1_0 1), .quiet (.agg (ints .u32 s 8).toArray), .quiet (PT γ1_0 9), .quiet (.agg (ints .u8 (cl (up r (c % 64) 128) ((c % 64) + 1)) 64).toArray), .call (.agg (ints .u32 (mx s (cl (up r (c % 64) 128) ((c % 64) + 1))) 8).toArray), .quiet (PT γ1_0 1)] H8 ?ho7 ?he7
  case ho7 => exact ak (by refine fun γ => ⟨rfl, fun w' h => ?_⟩; clear h; go_simp) (ak (fun γ => ⟨rfl, fun w' h => ex_loadT h 1 rfl rfl rfl Tryd.isAgg53 Tryd.sizeOf53 (hs_words _ _ _ _) (ints_len _ _ _)⟩) (ak (by refine fun γ => ⟨rfl, fun w' h => ?_⟩; clear h; go_simp) (ak (fun γ => ⟨rfl, fun w' h => ex_loadT h 1 rfl rfl rfl Tryd.isAgg55 Tryd.sizeOf55 (hs_rests _ _ _ _) (ints_len _ _ _)⟩) (ak (fun γ => ⟨rfl, fun w' h => ⟨41, #[.agg (ints .u32 s 8).toArray, .agg (ints .u8 (cl (up r (c % 64) 128) ((c % 64) + 1)) 64).toArray], exec_call rfl call41 rfl (mpn rfl), mix_any s (cl (up r (c % 64) 128) ((c % 64) + 1)) w' (h.one 3 rfl)⟩⟩) (ak (by refine fun γ => ⟨rfl, fun w' h => ?_⟩; clear h; go_simp) trivial)))))
  intro _ w9 H9
  clear H8
  refine rest_at (l := [6]) rfl ?_
  refine rest_store rfl rfl rfl (ex_storeT (vs := ints .u32 (mx s (cl (up r (c % 64) 128) ((c % 64) + 1))) 8) H9.out.1 1 rfl rfl rfl rfl (by rw [ints_len]; exact Tryd.sizeOf53) (ints_all _ _ _) (by simp [ints_len, hs_len])) ?_
  have H10 : Hid (Mm (w9.setCells γ1_0 1 (ints .u32 (mx s (cl (up r (c % 64) 128) ((c % 64) + 1))) 8)) [(γ2_4, ints .u8 (e8 (c64 (8 * c)) 8) 8), (γ1_0, hs m (mx s (cl (up r (c % 64) 128) ((c % 64) + 1))) (cl (up r (c % 64) 128) ((c % 64) + 1)) c), (γ1_1, ints .u8 (fun _ => 0) 32), (1, ints .u32 kT 64)] ∧ Below w.heap.size w (w9.setCells γ1_0 1 (ints .u32 (mx s (cl (up r (c % 64) 128) ((c % 64) + 1))) 8))) := ⟨by
    have h := H9.out.1.put 1 (off := 1) (vs := ints .u32 (mx s (cl (up r (c % 64) 128) ((c % 64) + 1))) 8) rfl (by simp [ints_len, hs_len])
    rw [hs_put_words _ _ _ _ _] at h
    exact h, below_setCells _ o1_0.out _ _ _ H9.out.2⟩
  clear H9
  generalize hgw : World.setCells _ _ _ _ = w10 at H10 ⊢
  clear hgw
  refine rest_nil (then_normal ?_)
  refine walk_seqB 2 [.quiet (.agg (ints .u8 (fun _ => 0) 64).toArray), .quiet (PT γ1_0 9)] H10 ?ho8 ?he8
  case ho8 => exact ak (fun γ => ⟨rfl, fun w' _ => ex_bz55 rfl⟩) (ak (by refine fun γ => ⟨rfl, fun w' h => ?_⟩; clear h; go_simp) trivial)
  intro _ w11 H11
  clear H10
  refine rest_at (l := [2]) rfl ?_
  refine rest_store rfl rfl rfl (ex_storeT (vs := ints .u8 (fun _ => 0) 64) H11.out.1 1 rfl rfl rfl rfl (by rw [ints_len]; exact Tryd.sizeOf55) (ints_all _ _ _) (by simp [ints_len, hs_len])) ?_
  have H12 : Hid (Mm (w11.setCells γ1_0 9 (ints .u8 (fun _ => 0) 64)) [(γ2_4, ints .u8 (e8 (c64 (8 * c)) 8) 8), (γ1_0, hs m (mx s (cl (up r (c % 64) 128) ((c % 64) + 1))) (fun _ => 0) c), (γ1_1, ints .u8 (fun _ => 0) 32), (1, ints .u32 kT 64)] ∧ Below w.heap.size w (w11.setCells γ1_0 9 (ints .u8 (fun _ => 0) 64))) := ⟨by
    have h := H11.out.1.put 1 (off := 9) (vs := ints .u8 (fun _ => 0) 64) rfl (by simp [ints_len, hs_len])
    rw [hs_put_rest _ _ _ _ _] at h
    exact h, below_setCells _ o1_0.out _ _ _ H11.out.2⟩
  clear H11
  generalize hgw : World.setCells _ _ _ _ = w12 at H12 ⊢
  clear hgw
  refine rest_nil (then_normal (wp_seq ?_))
  refine walk_anyB 3 [.quiet (PT γ1_0 9), .quiet (.slice (some ⟨γ1_0, 65, none⟩) 8 8), .quiet (.slice (some ⟨γ2_4, 0, none⟩) 8 8)] H12 ?ho9 ?he9
  case ho9 => exact ak (by refine fun γ => ⟨rfl, fun w' h => ?_⟩; clear h; go_simp) (ak (fun γ => ⟨rfl, fun w' _ => ex_sl56 rfl rfl rfl⟩) (ak (fun γ => ⟨rfl, fun w' _ => ex_sl69 rfl rfl⟩) trivial))
  intro _ w13 H13
  clear H12
  refine rest_at (l := [3]) rfl ?_
  refine rest_set (d := 31) (v := .int .i64 ((8 : Nat) : Int)) (w' := w13.setCells γ1_0 (9 + 56) (ints .u8 (e8 (c64 (8 * c)) 8) 8)) rfl rfl rfl (ex_copy (kk := 56) H13.out.1 1 rfl (fun j hj => by have := H13.out.1.get 0 rfl j (ints_get .u8 (e8 (c64 (8 * c)) 8) hj); rwa [Nat.zero_add]) rfl (by decide) rfl rfl rfl) ?_
  simp only [Act.put, sa, sz, ss]
  have H14 : Hid (Mm (w13.setCells γ1_0 (9 + 56) (ints .u8 (e8 (c64 (8 * c)) 8) 8)) [(γ2_4, ints .u8 (e8 (c64 (8 * c)) 8) 8), (γ1_0, hs m (mx s (cl (up r (c % 64) 128) ((c % 64) + 1))) (pr8 (fun _ => 0) 56 8 (e8 (c64 (8 * c)) 8)) c), (γ1_1, ints .u8 (fun _ => 0) 32), (1, ints .u32 kT 64)] ∧ Below w.heap.size w (w13.setCells γ1_0 (9 + 56) (ints .u8 (e8 (c64 (8 * c)) 8) 8))) := ⟨by
    have h := H13.out.1.put 1 (off := (9 + 56)) (vs := (ints .u8 (e8 (c64 (8 * c)) 8) 8)) rfl (by rw [ints_len, hs_len]; omega)
    rw [hs_put_part _ _ _ _ _ _ _ (by decide)] at h
    exact h, below_setCells _ o1_0.out _ _ _ H13.out.2⟩
  clear H13
  generalize hgw : World.setCells _ _ _ _ = w14 at H14 ⊢
  clear hgw
  refine rest_nil (then_normal (wp_seq ?_))
  refine walk_seqB 6 [.quiet (PT γ1_0 1), .quiet (.agg (ints .u32 (mx s (cl (up r (c % 64) 128) ((c % 64) + 1))) 8).toArray), .quiet (PT γ1_0 9), .quiet (.agg (ints .u8 (pr8 (fun _ => 0) 56 8 (e8 (c64 (8 * c)) 8)) 64).toArray), .call (.agg (ints .u32 (mx (mx s (cl (up r (c % 64) 128) ((c % 64) + 1))) (pr8 (fun _ => 0) 56 8 (e8 (c64 (8 * c)) 8))) 8).toArray), .call (.agg (ints .u8 (bo (mx (mx s (cl (up r (c % 64) 128) ((c % 64) + 1))) (pr8 (fun _ => 0) 56 8 (e8 (c64 (8 * c)) 8))) 8) 32).toArray)] H14 ?ho10 ?he10
  case ho10 => exact ak (by refine fun γ => ⟨rfl, fun w' h => ?_⟩; clear h; go_simp) (ak (fun γ => ⟨rfl, fun w' h => ex_loadT h 1 rfl rfl rfl Tryd.isAgg53 Tryd.sizeOf53 (hs_words _ _ _ _) (ints_len _ _ _)⟩) (ak (by refine fun γ => ⟨rfl, fun w' h => ?_⟩; clear h; go_simp) (ak (fun γ => ⟨rfl, fun w' h => ex_loadT h 1 rfl rfl rfl Tryd.isAgg55 Tryd.sizeOf55 (hs_rests _ _ _ _) (ints_len _ _ _)⟩) (ak (fun γ => ⟨rfl, fun w' h => ⟨41, #[.agg (ints .u32 (mx s (cl (up r (c % 64) 128) ((c % 64) + 1))) 8).toArray, .agg (ints .u8 (pr8 (fun _ => 0) 56 8 (e8 (c64 (8 * c)) 8)) 64).toArray], exec_call rfl call41 rfl (mpn rfl), mix_any (mx s (cl (up r (c % 64) 128) ((c % 64) + 1))) (pr8 (fun _ => 0) 56 8 (e8 (c64 (8 * c)) 8)) w' (h.one 3 rfl)⟩⟩) (ak (fun γ => ⟨rfl, fun w' h => ⟨42, #[.agg (ints .u32 (mx (mx s (cl (up r (c % 64) 128) ((c % 64) + 1))) (pr8 (fun _ => 0) 56 8 (e8 (c64 (8 * c)) 8))) 8).toArray], exec_call rfl call42 rfl (mpn rfl), bytesOf_any (mx (mx s (cl (up r (c % 64) 128) ((c % 64) + 1))) (pr8 (fun _ => 0) 56 8 (e8 (c64 (8 * c)) 8))) w'⟩⟩) trivial)))))
  intro _ w15 H15
  clear H14
  refine rest_at (l := [6]) rfl ?_
  refine rest_store rfl rfl rfl (ex_storeT (vs := ints .u8 (bo (mx (mx s (cl (up r (c % 64) 128) ((c % 64) + 1))) (pr8 (fun _ => 0) 56 8 (e8 (c64 (8 * c)) 8))) 8) 32) H15.out.1 2 rfl rfl rfl rfl (by rw [ints_len]; exact Tryd.sizeOf25) (ints_all _ _ _) (by simp [ints_len])) ?_
  have H16 : Hid (Mm (w15.setCells γ1_1 0 (ints .u8 (bo (mx (mx s (cl (up r (c % 64) 128) ((c % 64) + 1))) (pr8 (fun _ => 0) 56 8 (e8 (c64 (8 * c)) 8))) 8) 32)) [(γ2_4, ints .u8 (e8 (c64 (8 * c)) 8) 8), (γ1_0, hs m (mx s (cl (up r (c % 64) 128) ((c % 64) + 1))) (pr8 (fun _ => 0) 56 8 (e8 (c64 (8 * c)) 8)) c), (γ1_1, ints .u8 (bo (mx (mx s (cl (up r (c % 64) 128) ((c % 64) + 1))) (pr8 (fun _ => 0) 56 8 (e8 (c64 (8 * c)) 8))) 8) 32), (1, ints .u32 kT 64)] ∧ Below w.heap.size w (w15.setCells γ1_1 0 (ints .u8 (bo (mx (mx s (cl (up r (c % 64) 128) ((c % 64) + 1))) (pr8 (fun _ => 0) 56 8 (e8 (c64 (8 * c)) 8))) 8) 32))) := ⟨by
    have h := H15.out.1.put 2 (off := 0) (vs := ints .u8 (bo (mx (mx s (cl (up r (c % 64) 128) ((c % 64) + 1))) (pr8 (fun _ => 0) 56 8 (e8 (c64 (8 * c)) 8))) 8) 32) rfl (by simp [ints_len])
    rw [ints_patch0 _ _ _ _] at h
    exact h, below_setCells _ o1_1.out _ _ _ H15.out.2⟩
  clear H15
  generalize hgw : World.setCells _ _ _ _ = w16 at H16 ⊢
  clear hgw
  refine rest_nil (then_normal (wp_ret ?_))
  repeat (first | refine then_ret ?_ | refine block_ret ?_)
  have hf0 := var_T H16.out.1 2 rfl Tryd.isAgg25 Tryd.sizeOf25 (ints_len _ _ _)
  refine bodyPost_ret (v := .agg (ints .u8 (bo (mx (mx s (cl (up r (c % 64) 128) ((c % 64) + 1))) (pr8 (fun _ => 0) 56 8 (e8 (c64 (8 * c)) 8))) 8) 32).toArray) (by simp [results, Tryd.results30, asAddr, hf0]) rfl ?_
  exact ⟨rfl, H16.out.2⟩
set_option maxHeartbeats 4000000 in
set_option maxRecDepth 100000 in
theorem finish_C (m : Bool) (s r : Nat → Nat) (c : Nat) (hc : c % 64 = 63) (w : World) (hm : Mm w [(1, ints .u32 kT 64)]) :
    Calls Tryd.prog 30 #[.agg (hs m s r c).toArray] w fun e w' => e = .returned (.agg (ints .u8 (bo (mx (mx s (up r (c % 64) 128)) (pr8 (fun _ => 0) 56 8 (e8 (c64 (8 * c)) 8))) 8) 32).toArray) ∧ Below w.heap.size w w' := by
  have H0 : Hid (_ ∧ _) := ⟨hm, Below.refl w.heap.size w⟩
  clear hm
  go_enter Tryd.func30, Tryd.ntmps30
  refine wp_seq ?_
  refine walk_seqA 2 [.made (hs m s r c) 58, .made (ints .u8 (fun _ => 0) 32) 25] (sB H0) ?ho1 ?he1
  case ho1 => exact ak (fun γ => ⟨rfl, fun w' => ex_boxT rfl rfl⟩) (ak (fun γ => ⟨rfl, fun w' => ex_mk25 rfl⟩) trivial)
  intro γ w1 l hM hl
  have H1 : Hid (Mm w1 [(γ 0, hs m s r c), (γ 1, ints .u8 (fun _ => 0) 32), (1, ints .u32 kT 64)] ∧ _) := growB H0 hM (Nat.le_refl _) hl [0, 1] rfl (by decide)
  have o1_0 := ownB H0 hM (Nat.le_refl _) hl (i := 0) rfl
  have o1_1 := ownB H0 hM (Nat.le_refl _) hl (i := 1) rfl
  clear hM hl l
  generalize γ 0 = γ1_0 at H1 o1_0 ⊢
  generalize γ 1 = γ1_1 at H1 o1_1 ⊢
  clear γ
  refine rest0 rfl (then_normal (wp_seq ?_))
  refine walk_seqA 6 [.quiet (PT γ1_0 73), .quiet (U c), .quiet (U (c64 (8 * c))), .call (.agg (ints .u8 (e8 (c64 (8 * c)) 8) 8).toArray), .made (ints .u8 (fun _ => 0) 8) 69, .laid 4 (ints .u8 (fun _ => 0) 8) (ints .u8 (e8 (c64 (8 * c)) 8) 8)] (sB H1) ?ho2 ?he2 (hL := ?hL2)
  case hL2 => exact ⟨⟨_, rfl⟩, trivial⟩
  case ho2 => exact ak (by refine fun γ => ⟨rfl, fun w' h => ?_⟩; clear h; go_simp) (ak (fun γ => ⟨rfl, fun w' h => ex_loadC h 0 rfl rfl rfl Tryd.isAgg56 (hs_count _ _ _ _)⟩) (ak (fun γ => ⟨rfl, fun w' _ => ex_mul64 rfl rfl rfl⟩) (ak (fun γ => ⟨rfl, fun w' h => ⟨36, #[U (c64 (8 * c))], exec_call rfl call36 rfl (mpn rfl), eight_any (c64 (8 * c)) w'⟩⟩) (ak (fun γ => ⟨rfl, fun w' => ex_mk69 rfl⟩) (ak (fun γ => ⟨rfl, rfl, (ints_len _ _ _).trans (ints_len _ _ _).symm, fun w' h => ex_laidI h Tryd.sizeOf69 rfl rfl rfl⟩) trivial)))))
  intro γ w2 l hM hl
  have H2 : Hid (Mm w2 [(γ 4, ints .u8 (e8 (c64 (8 * c)) 8) 8), (γ1_0, hs m s r c), (γ1_1, ints .u8 (fun _ => 0) 32), (1, ints .u32 kT 64)] ∧ _) := growB H1 hM (Nat.le_refl _) hl [4] rfl (by decide)
  have o2_4 := ownB H1 hM (Nat.le_refl _) hl (i := 4) rfl
  clear hM hl l H1
  generalize γ 4 = γ2_4 at H2 o2_4 ⊢
  clear γ
  refine rest0 rfl (then_normal (wp_seq ?_))
  refine walk_seqB 2 [.call (.int .i64 ((c % 64 : Nat) : Int)), .quiet (.int .i64 ((c % 64 : Nat) : Int))] H2 ?ho3 ?he3
  case ho3 => exact ak (fun γ => ⟨rfl, fun w' h => ⟨40, #[PT γ1_0 0], exec_call rfl call40 rfl (mpn rfl), filled_any _ _ _ _ _ w' (h.one 1 rfl)⟩⟩) (ak (fun _ => ⟨rfl, fun _ _ => rfl⟩) trivial)
  intro _ w3 H3
  clear H2
  refine rest0 rfl (then_normal (wp_seq ?_))
  refine walk_seqB 3 [.quiet (.int .i64 ((c % 64 : Nat) : Int)), .quiet (PT γ1_0 9), .quiet (PT γ1_0 (9 + c % 64))] H3 ?ho4 ?he4
  case ho4 => exact ak (fun _ => ⟨rfl, fun _ _ => rfl⟩) (ak (by refine fun γ => ⟨rfl, fun w' h => ?_⟩; clear h; go_simp) (ak (fun γ => ⟨rfl, fun w' _ => ex_ix_55 (j := c % 64) rfl rfl rfl (by omega)⟩) trivial))
  intro _ w4 H4
  clear H3
  refine rest_at (l := [3]) rfl ?_
  refine rest_store rfl rfl rfl (ex_storeI (v := ((128 : Nat) : Int)) H4.out.1 1 rfl rfl Tryd.sizeOf5 rfl rfl (by rw [hs_len]; omega)) ?_
  have H5 : Hid (Mm (w4.setCells γ1_0 (9 + c % 64) ([Z8 128])) [(γ2_4, ints .u8 (e8 (c64 (8 * c)) 8) 8), (γ1_0, hs m s (up r (c % 64) 128) c), (γ1_1, ints .u8 (fun _ => 0) 32), (1, ints .u32 kT 64)] ∧ Below w.heap.size w (w4.setCells γ1_0 (9 + c % 64) ([Z8 128]))) := ⟨by
    have h := H4.out.1.put 1 (off := (9 + c % 64)) (vs := [Z8 128]) rfl (by rw [hs_len]; simp only [List.length_cons, List.length_nil]; omega)
    rw [hs_put_byte _ _ _ _ _ _ (by omega)] at h
    exact h, below_setCells _ o1_0.out _ _ _ H4.out.2⟩
  clear H4
  generalize hgw : World.setCells _ _ _ _ = w5 at H5 ⊢
  clear hgw
  refine rest_nil (then_normal (wp_seq ?_))
  refine walk_seqB 4 [.quiet (PT γ1_0 9), .quiet (.int .i64 ((c % 64 : Nat) : Int)), .quiet (.int .i64 (((c % 64) + 1 : Nat) : Int)), .quiet (.slice (some ⟨γ1_0, 9, none⟩) 0 0)] H5 ?ho5 ?he5
  case ho5 => exact ak (by refine fun γ => ⟨rfl, fun w' h => ?_⟩; clear h; go_simp) (ak (fun _ => ⟨rfl, fun _ _ => rfl⟩) (ak (by refine fun γ => ⟨rfl, fun w' h => ?_⟩; clear h; go_simp; rw [IntKind.wrap_i64]; omega) (ak (fun γ => ⟨rfl, fun w' _ => ex_slA64 (k := (c % 64) + 1) rfl rfl rfl (by omega)⟩) trivial)))
  intro _ w6 H6
  clear H5
  refine rest_at (l := [4]) rfl ?_
  refine rest_drop rfl rfl rfl (ex_clear0 rfl rfl) ?_
  refine rest_nil (then_normal ?_)
  refine wp_seq (wp_seq ?_)
  refine walk_seqB 3 [.quiet (.int .i64 ((c % 64 : Nat) : Int)), .quiet (.int .i64 (((c % 64) + 1 : Nat) : Int)), .quiet (.bool true)] H6 ?ho6 ?he6
  case ho6 => exact ak (fun _ => ⟨rfl, fun _ _ => rfl⟩) (ak (by refine fun γ => ⟨rfl, fun w' h => ?_⟩; clear h; go_simp; rw [IntKind.wrap_i64]; omega) (ak (by refine fun γ => ⟨rfl, fun w' h => ?_⟩; clear h; go_simp <;> omega) trivial))
  intro _ w7 H7
  clear H6
  refine rest0 rfl (then_normal (wp_cond_true rfl (wp_seq ?_)))
  refine walk_seqB 6 [.quiet (PT γ1_0 1), .quiet (.agg (ints .u32 s 8).toArray), .quiet (PT γ1_0 9), .quiet (.agg (ints .u8 (up r (c % 64) 128) 64).toArray), .call (.agg (ints .u32 (mx s (up r (c % 64) 128)) 8).toArray), .quiet (PT γ1_0 1)] H7 ?ho7 ?he7
  case ho7 => exact ak (by refine fun γ => ⟨rfl, fun w' h => ?_⟩; clear h; go_simp) (ak (fun γ => ⟨rfl, fun w' h => ex_loadT h 1 rfl rfl rfl Tryd.isAgg53 Tryd.sizeOf53 (hs_words _ _ _ _) (ints_len _ _ _)⟩) (ak (by refine fun γ => ⟨rfl, fun w' h => ?_⟩; clear h; go_simp) (ak (fun γ => ⟨rfl, fun w' h => ex_loadT h 1 rfl rfl rfl Tryd.isAgg55 Tryd.sizeOf55 (hs_rests _ _ _ _) (ints_len _ _ _)⟩) (ak (fun γ => ⟨rfl, fun w' h => ⟨41, #[.agg (ints .u32 s 8).toArray, .agg (ints .u8 (up r (c % 64) 128) 64).toArray], exec_call rfl call41 rfl (mpn rfl), mix_any s (up r (c % 64) 128) w' (h.one 3 rfl)⟩⟩) (ak (by refine fun γ => ⟨rfl, fun w' h => ?_⟩; clear h; go_simp) trivial)))))
  intro _ w8 H8
  clear H7
  refine rest_at (l := [6]) rfl ?_
  refine rest_store rfl rfl rfl (ex_storeT (vs := ints .u32 (mx s (up r (c % 64) 128)) 8) H8.out.1 1 rfl rfl rfl rfl (by rw [ints_len]; exact Tryd.sizeOf53) (ints_all _ _ _) (by simp [ints_len, hs_len])) ?_
  have H9 : Hid (Mm (w8.setCells γ1_0 1 (ints .u32 (mx s (up r (c % 64) 128)) 8)) [(γ2_4, ints .u8 (e8 (c64 (8 * c)) 8) 8), (γ1_0, hs m (mx s (up r (c % 64) 128)) (up r (c % 64) 128) c), (γ1_1, ints .u8 (fun _ => 0) 32), (1, ints .u32 kT 64)] ∧ Below w.heap.size w (w8.setCells γ1_0 1 (ints .u32 (mx s (up r (c % 64) 128)) 8))) := ⟨by
    have h := H8.out.1.put 1 (off := 1) (vs := ints .u32 (mx s (up r (c % 64) 128)) 8) rfl (by simp [ints_len, hs_len])
    rw [hs_put_words _ _ _ _ _] at h
    exact h, below_setCells _ o1_0.out _ _ _ H8.out.2⟩
  clear H8
  generalize hgw : World.setCells _ _ _ _ = w9 at H9 ⊢
  clear hgw
  refine rest_nil (then_normal ?_)
  refine walk_seqB 2 [.quiet (.agg (ints .u8 (fun _ => 0) 64).toArray), .quiet (PT γ1_0 9)] H9 ?ho8 ?he8
  case ho8 => exact ak (fun γ => ⟨rfl, fun w' _ => ex_bz55 rfl⟩) (ak (by refine fun γ => ⟨rfl, fun w' h => ?_⟩; clear h; go_simp) trivial)
  intro _ w10 H10
  clear H9
  refine rest_at (l := [2]) rfl ?_
  refine rest_store rfl rfl rfl (ex_storeT (vs := ints .u8 (fun _ => 0) 64) H10.out.1 1 rfl rfl rfl rfl (by rw [ints_len]; exact Tryd.sizeOf55) (ints_all _ _ _) (by simp [ints_len, hs_len])) ?_
  have H11 : Hid (Mm (w10.setCells γ1_0 9 (ints .u8 (fun _ => 0) 64)) [(γ2_4, ints .u8 (e8 (c64 (8 * c)) 8) 8), (γ1_0, hs m (mx s (up r (c % 64) 128)) (fun _ => 0) c), (γ1_1, ints .u8 (fun _ => 0) 32), (1, ints .u32 kT 64)] ∧ Below w.heap.size w (w10.setCells γ1_0 9 (ints .u8 (fun _ => 0) 64))) := ⟨by
    have h := H10.out.1.put 1 (off := 9) (vs := ints .u8 (fun _ => 0) 64) rfl (by simp [ints_len, hs_len])
    rw [hs_put_rest _ _ _ _ _] at h
    exact h, below_setCells _ o1_0.out _ _ _ H10.out.2⟩
  clear H10
  generalize hgw : World.setCells _ _ _ _ = w11 at H11 ⊢
  clear hgw
  refine rest_nil (then_normal (wp_seq ?_))
  refine walk_anyB 3 [.quiet (PT γ1_0 9), .quiet (.slice (some ⟨γ1_0, 65, none⟩) 8 8), .quiet (.slice (some ⟨γ2_4, 0, none⟩) 8 8)] H11 ?ho9 ?he9
  case ho9 => exact ak (by refine fun γ => ⟨rfl, fun w' h => ?_⟩; clear h; go_simp) (ak (fun γ => ⟨rfl, fun w' _ => ex_sl56 rfl rfl rfl⟩) (ak (fun γ => ⟨rfl, fun w' _ => ex_sl69 rfl rfl⟩) trivial))
  intro _ w12 H12
  clear H11
  refine rest_at (l := [3]) rfl ?_
  refine rest_set (d := 31) (v := .int .i64 ((8 : Nat) : Int)) (w' := w12.setCells γ1_0 (9 + 56) (ints .u8 (e8 (c64 (8 * c)) 8) 8)) rfl rfl rfl (ex_copy (kk := 56) H12.out.1 1 rfl (fun j hj => by have := H12.out.1.get 0 rfl j (ints_get .u8 (e8 (c64 (8 * c)) 8) hj); rwa [Nat.zero_add]) rfl (by decide) rfl rfl rfl) ?_
  simp only [Act.put, sa, sz, ss]
  have H13 : Hid (Mm (w12.setCells γ1_0 (9 + 56) (ints .u8 (e8 (c64 (8 * c)) 8) 8)) [(γ2_4, ints .u8 (e8 (c64 (8 * c)) 8) 8), (γ1_0, hs m (mx s (up r (c % 64) 128)) (pr8 (fun _ => 0) 56 8 (e8 (c64 (8 * c)) 8)) c), (γ1_1, ints .u8 (fun _ => 0) 32), (1, ints .u32 kT 64)] ∧ Below w.heap.size w (w12.setCells γ1_0 (9 + 56) (ints .u8 (e8 (c64 (8 * c)) 8) 8))) := ⟨by
    have h := H12.out.1.put 1 (off := (9 + 56)) (vs := (ints .u8 (e8 (c64 (8 * c)) 8) 8)) rfl (by rw [ints_len, hs_len]; omega)
    rw [hs_put_part _ _ _ _ _ _ _ (by decide)] at h
    exact h, below_setCells _ o1_0.out _ _ _ H12.out.2⟩
  clear H12
  generalize hgw : World.setCells _ _ _ _ = w13 at H13 ⊢
  clear hgw
  refine rest_nil (then_normal (wp_seq ?_))
  refine walk_seqB 6 [.quiet (PT γ1_0 1), .quiet (.agg (ints .u32 (mx s (up r (c % 64) 128)) 8).toArray), .quiet (PT γ1_0 9), .quiet (.agg (ints .u8 (pr8 (fun _ => 0) 56 8 (e8 (c64 (8 * c)) 8)) 64).toArray), .call (.agg (ints .u32 (mx (mx s (up r (c % 64) 128)) (pr8 (fun _ => 0) 56 8 (e8 (c64 (8 * c)) 8))) 8).toArray), .call (.agg (ints .u8 (bo (mx (mx s (up r (c % 64) 128)) (pr8 (fun _ => 0) 56 8 (e8 (c64 (8 * c)) 8))) 8) 32).toArray)] H13 ?ho10 ?he10
  case ho10 => exact ak (by refine fun γ => ⟨rfl, fun w' h => ?_⟩; clear h; go_simp) (ak (fun γ => ⟨rfl, fun w' h => ex_loadT h 1 rfl rfl rfl Tryd.isAgg53 Tryd.sizeOf53 (hs_words _ _ _ _) (ints_len _ _ _)⟩) (ak (by refine fun γ => ⟨rfl, fun w' h => ?_⟩; clear h; go_simp) (ak (fun γ => ⟨rfl, fun w' h => ex_loadT h 1 rfl rfl rfl Tryd.isAgg55 Tryd.sizeOf55 (hs_rests _ _ _ _) (ints_len _ _ _)⟩) (ak (fun γ => ⟨rfl, fun w' h => ⟨41, #[.agg (ints .u32 (mx s (up r (c % 64) 128)) 8).toArray, .agg (ints .u8 (pr8 (fun _ => 0) 56 8 (e8 (c64 (8 * c)) 8)) 64).toArray], exec_call rfl call41 rfl (mpn rfl), mix_any (mx s (up r (c % 64) 128)) (pr8 (fun _ => 0) 56 8 (e8 (c64 (8 * c)) 8)) w' (h.one 3 rfl)⟩⟩) (ak (fun γ => ⟨rfl, fun w' h => ⟨42, #[.agg (ints .u32 (mx (mx s (up r (c % 64) 128)) (pr8 (fun _ => 0) 56 8 (e8 (c64 (8 * c)) 8))) 8).toArray], exec_call rfl call42 rfl (mpn rfl), bytesOf_any (mx (mx s (up r (c % 64) 128)) (pr8 (fun _ => 0) 56 8 (e8 (c64 (8 * c)) 8))) w'⟩⟩) trivial)))))
  intro _ w14 H14
  clear H13
  refine rest_at (l := [6]) rfl ?_
  refine rest_store rfl rfl rfl (ex_storeT (vs := ints .u8 (bo (mx (mx s (up r (c % 64) 128)) (pr8 (fun _ => 0) 56 8 (e8 (c64 (8 * c)) 8))) 8) 32) H14.out.1 2 rfl rfl rfl rfl (by rw [ints_len]; exact Tryd.sizeOf25) (ints_all _ _ _) (by simp [ints_len])) ?_
  have H15 : Hid (Mm (w14.setCells γ1_1 0 (ints .u8 (bo (mx (mx s (up r (c % 64) 128)) (pr8 (fun _ => 0) 56 8 (e8 (c64 (8 * c)) 8))) 8) 32)) [(γ2_4, ints .u8 (e8 (c64 (8 * c)) 8) 8), (γ1_0, hs m (mx s (up r (c % 64) 128)) (pr8 (fun _ => 0) 56 8 (e8 (c64 (8 * c)) 8)) c), (γ1_1, ints .u8 (bo (mx (mx s (up r (c % 64) 128)) (pr8 (fun _ => 0) 56 8 (e8 (c64 (8 * c)) 8))) 8) 32), (1, ints .u32 kT 64)] ∧ Below w.heap.size w (w14.setCells γ1_1 0 (ints .u8 (bo (mx (mx s (up r (c % 64) 128)) (pr8 (fun _ => 0) 56 8 (e8 (c64 (8 * c)) 8))) 8) 32))) := ⟨by
    have h := H14.out.1.put 2 (off := 0) (vs := ints .u8 (bo (mx (mx s (up r (c % 64) 128)) (pr8 (fun _ => 0) 56 8 (e8 (c64 (8 * c)) 8))) 8) 32) rfl (by simp [ints_len])
    rw [ints_patch0 _ _ _ _] at h
    exact h, below_setCells _ o1_1.out _ _ _ H14.out.2⟩
  clear H14
  generalize hgw : World.setCells _ _ _ _ = w15 at H15 ⊢
  clear hgw
  refine rest_nil (then_normal (wp_ret ?_))
  repeat (first | refine then_ret ?_ | refine block_ret ?_)
  have hf0 := var_T H15.out.1 2 rfl Tryd.isAgg25 Tryd.sizeOf25 (ints_len _ _ _)
  refine bodyPost_ret (v := .agg (ints .u8 (bo (mx (mx s (up r (c % 64) 128)) (pr8 (fun _ => 0) 56 8 (e8 (c64 (8 * c)) 8))) 8) 32).toArray) (by simp [results, Tryd.results30, asAddr, hf0]) rfl ?_
  exact ⟨rfl, H15.out.2⟩
/-- The digest that a hash comes to. -/
def fz (s r : Nat → Nat) (c : Nat) : Nat → Nat := if c % 64 < 56 then bo (mx s (pr8 (cl (up r (c % 64) 128) ((c % 64) + 1)) 56 8 (e8 (c64 (8 * c)) 8))) 8 else if c % 64 < 63 then bo (mx (mx s (cl (up r (c % 64) 128) ((c % 64) + 1))) (pr8 (fun _ => 0) 56 8 (e8 (c64 (8 * c)) 8))) 8 else bo (mx (mx s (up r (c % 64) 128)) (pr8 (fun _ => 0) 56 8 (e8 (c64 (8 * c)) 8))) 8
theorem finish_any (m : Bool) (s r : Nat → Nat) (c : Nat) (w : World) (hm : Mm w [(1, ints .u32 kT 64)]) : Calls Tryd.prog 30 #[.agg (hs m s r c).toArray] w fun e w' => e = .returned (.agg (ints .u8 (fz s r c) 32).toArray) ∧ Below w.heap.size w w' := by
  unfold fz
  by_cases h : c % 64 < 56
  · rw [if_pos h]; exact finish_A m s r c h w hm
  · rw [if_neg h]
    by_cases h2 : c % 64 < 63
    · rw [if_pos h2]; exact finish_B m s r c (by omega) h2 w hm
    · rw [if_neg h2]; exact finish_C m s r c (by omega) w hm
set_option maxRecDepth 100000 in
theorem begun_any  (w : World) (hm : Mm w [(0, ints .u32 fT 8)]) :
    Calls Tryd.prog 28 #[] w fun e w' => e = .returned (.agg (hs true fT (fun _ => 0) 0).toArray) ∧ Below w.heap.size w w' := by
  have H0 : Hid (_ ∧ _) := ⟨hm, Below.refl w.heap.size w⟩
  clear hm
  go_enter Tryd.func28, Tryd.ntmps28
  refine wp_seq ?_
  refine walk_seqA 1 [.made (hs false (fun _ => 0) (fun _ => 0) 0) 58] (sB H0) ?ho1 ?he1
  case ho1 => exact ak (fun γ => ⟨rfl, fun w' => ex_mk58 rfl⟩) trivial
  intro γ w1 l hM hl
  have H1 : Hid (Mm w1 [(γ 0, hs false (fun _ => 0) (fun _ => 0) 0), (0, ints .u32 fT 8)] ∧ _) := growB H0 hM (Nat.le_refl _) hl [0] rfl (by decide)
  have o1_0 := ownB H0 hM (Nat.le_refl _) hl (i := 0) rfl
  clear hM hl l
  generalize γ 0 = γ1_0 at H1 o1_0 ⊢
  clear γ
  refine rest0 rfl (then_normal (wp_seq ?_))
  refine walk_seqB 2 [.quiet (.agg (ints .u32 fT 8).toArray), .quiet (.agg (hs true fT (fun _ => 0) 0).toArray)] H1 ?ho2 ?he2
  case ho2 => exact ak (fun γ => ⟨rfl, fun w' h => ex_loadT h 1 rfl rfl rfl Tryd.isAgg53 Tryd.sizeOf53 (ints_whole _ _ _) (ints_len _ _ _)⟩) (ak (fun γ => ⟨rfl, fun w' _ => ex_b58 rfl rfl rfl⟩) trivial)
  intro _ w2 H2
  clear H1
  refine rest_at (l := [2]) rfl ?_
  refine rest_store rfl rfl rfl (ex_storeT (vs := hs true fT (fun _ => 0) 0) H2.out.1 0 rfl rfl rfl rfl (by rw [hs_len]; exact Tryd.sizeOf58) (hs_all _ _ _ _) (by simp [hs_len])) ?_
  have H3 : Hid (Mm (w2.setCells γ1_0 0 (hs true fT (fun _ => 0) 0)) [(γ1_0, hs true fT (fun _ => 0) 0), (0, ints .u32 fT 8)] ∧ Below w.heap.size w (w2.setCells γ1_0 0 (hs true fT (fun _ => 0) 0))) := ⟨by
    have h := H2.out.1.put 0 (off := 0) (vs := hs true fT (fun _ => 0) 0) rfl (by simp [hs_len])
    rw [hs_put_all _ _ _ _ _ _ _ _] at h
    exact h, below_setCells _ o1_0.out _ _ _ H2.out.2⟩
  clear H2
  generalize hgw : World.setCells _ _ _ _ = w3 at H3 ⊢
  clear hgw
  refine rest_nil (then_normal (wp_ret ?_))
  repeat (first | refine then_ret ?_ | refine block_ret ?_)
  have hf0 := var_T H3.out.1 0 rfl Tryd.isAgg58 Tryd.sizeOf58 (hs_len _ _ _ _)
  refine bodyPost_ret (v := .agg (hs true fT (fun _ => 0) 0).toArray) (by simp [results, Tryd.results28, asAddr, hf0]) rfl ?_
  exact ⟨rfl, H3.out.2⟩
end Rg
end Go.Proofs.YtfboipfpnkngdaaDoor
end
section
namespace Go.Proofs.YtfboipfpnkngdaaDoor
open Go.RowKit
namespace Rg
/-- Bytes that can be read. -/
structure Rs (gb o n : Nat) (f : Nat → Nat) (w : World) : Prop where
  lt : 0 < n → gb < w.heap.size
  at_ : ∀ i, i < n → w.cell? ⟨gb, o + i, none⟩ = some (Z8 (f i))
theorem Rs.below {gb o n : Nat} {f : Nat → Nat} {w w' : World} (h : Rs gb o n f w) (hb : Below w.heap.size w w') : Rs gb o n f w' :=
  ⟨fun hn => Nat.lt_of_lt_of_le (h.lt hn) hb.size, fun i hi => by rw [hb.cell (p := ⟨gb, o + i, none⟩) (h.lt (by omega))]; exact h.at_ i hi⟩
theorem Rs.src {g gb o n : Nat} {f : Nat → Nat} {w w' : World} (h : Rs gb o n f w) (hb : Below w.heap.size w w') (hg : w.heap.size ≤ g) : Src g gb o n f w' :=
  ⟨(h.below hb).lt, fun hn e => by have := h.lt hn; omega, (h.below hb).at_⟩
/-- The digest of n bytes, as the program finds it. -/
def dg0 (f : Nat → Nat) (n : Nat) : Nat → Nat := fz (hby f ⟨fT, fun _ => 0, 0⟩ n).s (hby f ⟨fT, fun _ => 0, 0⟩ n).r (hby f ⟨fT, fun _ => 0, 0⟩ n).c
theorem call28 : ∀ args w, (callFunc 28 args).run Tryd.prog w = .ok (.enter 28 args) w := by intro args w; go_simp
theorem call29 : ∀ args w, (callFunc 29 args).run Tryd.prog w = .ok (.enter 29 args) w := by intro args w; go_simp
theorem call30 : ∀ args w, (callFunc 30 args).run Tryd.prog w = .ok (.enter 30 args) w := by intro args w; go_simp
end Rg
end Go.Proofs.YtfboipfpnkngdaaDoor
end
section
namespace Go.Proofs.YtfboipfpnkngdaaDoor
open Go.RowKit
namespace Rg
set_option maxRecDepth 100000
/-- A text of n letters. -/
def st (f : Nat → Nat) (n : Nat) : ByteArray := strOfNums ((List.range n).map fun j => (f j : Int))
def dgt (k : Nat) : Nat := [48, 49, 50, 51, 52, 53, 54, 55, 56, 57, 97, 98, 99, 100, 101, 102].getD k 0
/-- The text of a digest, digit by digit. -/
def tx (d : Nat → Nat) : Nat → Nat → Nat
  | 0 => fun _ => 0
  | n + 1 => up (up (tx d n) (2 * n) (dgt (d n / 16))) (2 * n + 1) (dgt (d n % 16))
section
variable {ρ : Operand → Value} {o : Oper} {x y : Operand} {g j a b : Nat} {f : Nat → Nat} {w : World}
theorem ex_at25 {n : Nat} (ho : o.op = .index 25 x y) (hx : ρ x = V (ints .u8 f 32)) (hy : ρ y = .int .i64 ((j : Nat) : Int)) (hj : j < n) (hn : n = 32) : (execOp ρ o).run Tryd.prog w = .ok (.value (Z8 (f j))) w := by
  subst hn
  have e := ints_get .u8 f hj
  have h1 : (j : Int) < 32 := by omega
  simp only [execOp, ho, hx, hy]
  clear ho hx hy
  simp [Instr.index, run_underlying Tryd.underlying25, asIntOf, go_sem, hj, part, Tryd.isAgg5, e]
theorem ex_shr8 (ho : o.op = .binOp .shr 5 x y 72) (hx : ρ x = Z8 a) (hy : ρ y = U 4) : (execOp ρ o).run Tryd.prog w = .ok (.value (Z8 (a / 16))) w := by
  simp only [execOp, ho, hx, hy]
  clear ho hx hy
  have hs := shift_shr_any .u8 .u64 (a : Int) 4 (by omega)
  rw [show (2 : Int) ^ min (4 : Int).toNat IntKind.u8.bits = 16 by decide] at hs
  go_simp
theorem bits8 (a b : Nat) : bits .and .u8 (a : Int) (b : Int) = (((a &&& b) % 256 : Nat) : Int) := by
  have h1 : ∀ k : Nat, (BitVec.ofInt 8 (k : Int)).toNat = k % 256 := fun k => by rw [BitVec.ofInt_natCast, BitVec.toNat_ofNat]
  show IntKind.u8.wrap ((BitVec.ofInt 8 (a : Int) &&& BitVec.ofInt 8 (b : Int)).toNat : Int) = _
  rw [BitVec.toNat_and, h1, h1, ← Nat.and_mod_two_pow (n := 8)]
  simp [IntKind.wrap, IntKind.bits, IntKind.signed]
theorem ex_and15 (ho : o.op = .binOp .and 5 x y 5) (hx : ρ x = Z8 a) (hy : ρ y = .int .u8 15) : (execOp ρ o).run Tryd.prog w = .ok (.value (Z8 (a % 16))) w := by
  have e := bits8 a 15
  have e2 : (a &&& 15) % 256 = a % 16 := by
    have := Nat.and_two_pow_sub_one_eq_mod a 4
    rw [show 2 ^ 4 - 1 = 15 from rfl] at this
    rw [this]
    omega
  rw [e2] at e
  simp only [execOp, ho, hx, hy]
  clear ho hx hy
  go_simp
  first | done | exact e
theorem ex_dgt {x : Operand} (ho : o.op = .index 9 (.const (.string ⟨#[48, 49, 50, 51, 52, 53, 54, 55, 56, 57, 97, 98, 99, 100, 101, 102]⟩)) x) (hc : ρ (.const (.string ⟨#[48, 49, 50, 51, 52, 53, 54, 55, 56, 57, 97, 98, 99, 100, 101, 102]⟩)) = .string ⟨#[48, 49, 50, 51, 52, 53, 54, 55, 56, 57, 97, 98, 99, 100, 101, 102]⟩) (hx : ρ x = Z8 a) (h : a < 16) : (execOp ρ o).run Tryd.prog w = .ok (.value (Z8 (dgt a))) w := by
  simp only [execOp, ho, hc, hx]
  clear ho hc hx
  rcases (by omega : a = 0 ∨ a = 1 ∨ a = 2 ∨ a = 3 ∨ a = 4 ∨ a = 5 ∨ a = 6 ∨ a = 7 ∨ a = 8 ∨ a = 9 ∨ a = 10 ∨ a = 11 ∨ a = 12 ∨ a = 13 ∨ a = 14 ∨ a = 15) with rfl | rfl | rfl | rfl | rfl | rfl | rfl | rfl | rfl | rfl | rfl | rfl | rfl | rfl | rfl | rfl <;> kernel_rfl
theorem ex_mk54 (ho : o.op = .alloc 54) : (execOp ρ o).run Tryd.prog w = .ok (.value (.pointer (some ⟨w.heap.size, 0, none⟩))) (w.alloc (.cells (ints .u8 (fun _ => 0) 64).toArray 54)) := by
  simp only [execOp, ho]
  go_simp
  rfl
theorem ex_ix_54 {off : Nat} (ho : o.op = .indexAddr 54 x y) (hx : ρ x = PT g off) (hy : ρ y = .int .i64 ((j : Nat) : Int)) (hj : j < 64) : (execOp ρ o).run Tryd.prog w = .ok (.value (PT g (off + j))) w := by
  have h1 : (j : Int) < 64 := by omega
  simp only [execOp, ho, hx, hy]
  clear ho hx hy
  go_simp
theorem ex_ix0_54 (ho : o.op = .indexAddr 54 x y) (hx : ρ x = PT g 0) (hy : ρ y = .int .i64 ((j : Nat) : Int)) (hj : j < 64) : (execOp ρ o).run Tryd.prog w = .ok (.value (PT g j)) w := by
  have h := ex_ix_54 (w := w) ho hx hy hj
  rw [Nat.zero_add] at h
  exact h
theorem ex_sl54 (ho : o.op = .slice 54 x none none none) (hx : ρ x = PT g 0) : (execOp ρ o).run Tryd.prog w = .ok (.value (.slice (some ⟨g, 0, none⟩) 64 64)) w := by
  simp only [execOp, ho, hx, Option.map_none]
  clear ho hx
  go_simp
theorem ex_str {l : List (Nat × List Value)} {n : Nat} (h : Mm w l) (k : Nat) (hk : l[k]? = some (g, ints .u8 f n)) (ho : o.op = .convert 22 9 x) (hx : ρ x = .slice (some ⟨g, 0, none⟩) n n) : (execOp ρ o).run Tryd.prog w = .ok (.value (.string (st f n))) w := by
  have hc := run_convert_bytes_arg (P := Tryd.prog) w 22 5 (by kernel_rfl) (by kernel_rfl) g 0 n n ((List.range n).map fun j => (f j : Int)) (by simp) (fun i hi => by
    rw [Nat.zero_add, h.get k hk i (ints_get .u8 f hi)]
    simp [List.getD, hi]) 9 (by kernel_rfl)
  clear h hk
  simp only [execOp, ho, hx]
  simp [hc, Result.andThen, st]
end
set_option maxHeartbeats 1000000 in
set_option maxRecDepth 100000 in
theorem Text_any (d : Nat → Nat) (hd0 : ∀ j, d j < 256) (w : World) :
    Calls Tryd.prog 19 #[.agg (ints .u8 d 32).toArray] w fun e w' => e = .returned (.string (st (tx d 32) 64)) ∧ Below w.heap.size w w' := by
  have H0 : Hid (_ ∧ _) := ⟨Mm.nil w, Below.refl w.heap.size w⟩
  have hd : Hid (∀ j, d j < 256) := hd0
  clear hd0
  go_enter Tryd.func19, Tryd.ntmps19
  refine wp_seq ?_
  refine walk_seqA 2 [.made (ints .u8 d 32) 25, .quiet (.string ⟨#[]⟩)] (sB H0) ?ho1 ?he1
  case ho1 => exact ak (fun γ => ⟨rfl, fun w' => ex_boxT rfl rfl⟩) (ak (fun _ => ⟨rfl, fun _ _ => rfl⟩) trivial)
  intro γ w1 l hM hl
  have H1 : Hid (Mm w1 [(γ 0, ints .u8 d 32)] ∧ _) := growB H0 hM (Nat.le_refl _) hl [0] rfl (by decide)
  have o1_0 := ownB H0 hM (Nat.le_refl _) hl (i := 0) rfl
  clear hM hl l
  generalize γ 0 = γ1_0 at H1 o1_0 ⊢
  clear γ
  refine rest0 rfl (then_normal (wp_seq ?_))
  refine walk_seqA 1 [.made (ints .u8 (fun _ => 0) 64) 54] (sB H1) ?ho2 ?he2
  case ho2 => exact ak (fun γ => ⟨rfl, fun w' => ex_mk54 rfl⟩) trivial
  intro γ w2 l hM hl
  have H2 : Hid (Mm w2 [(γ 0, ints .u8 (fun _ => 0) 64), (γ1_0, ints .u8 d 32)] ∧ _) := growB H1 hM (Nat.le_refl _) hl [0] rfl (by decide)
  have o2_0 := ownB H1 hM (Nat.le_refl _) hl (i := 0) rfl
  clear hM hl l H1
  generalize γ 0 = γ2_0 at H2 o2_0 ⊢
  clear γ
  refine rest0 rfl (then_normal (wp_seq (wp_seq ?_)))
  refine walk_seqB 2 [.quiet (.agg (ints .u8 d 32).toArray), .quiet (.int .i64 0)] H2 ?ho3 ?he3
  case ho3 => exact ak (fun γ => ⟨rfl, fun w' h => ex_loadT h 1 rfl rfl rfl Tryd.isAgg25 Tryd.sizeOf25 (ints_whole _ _ _) (ints_len _ _ _)⟩) (ak (fun _ => ⟨rfl, fun _ _ => rfl⟩) trivial)
  intro _ w3 H3
  clear H2
  refine rest0 rfl (then_normal (wp_block ?_))
  refine loop_ghost (α := Nat) (fun k a' w' => ∃ s0 : Nat → Value, a' = ⟨#[.agg (ints .u8 d 32).toArray, PT γ1_0 0, .string ⟨#[]⟩, PT γ2_0 0, s0 4, s0 5, .agg (ints .u8 d 32).toArray, .int .i64 ((k : Nat) : Int), s0 8, s0 9, s0 10, s0 11, s0 12, s0 13, s0 14, s0 15, s0 16, s0 17, s0 18, s0 19, s0 20, s0 21, s0 22, s0 23, s0 24, undef, undef], []⟩ ∧ (Mm w' [(γ2_0, ints .u8 (tx d k) 64), (γ1_0, ints .u8 d 32)] ∧ Below w.heap.size w w') ∧ k ≤ 32) (fun k => 32 - k) 0 ?st0 ?rd0
  case st0 => exact ⟨(slotfn [undef, undef, undef, undef, undef, undef, undef, undef, undef, undef, undef, undef, undef, undef, undef, undef, undef, undef, undef, undef, undef, undef, undef, undef, undef]), rfl, ⟨H3.out.1, H3.out.2⟩, by omega⟩
  intro k a' w4 hI
  obtain ⟨s0, rfl, hMB, hk0⟩ := hI
  have H4 : Hid (_ ∧ _) := hMB
  clear hMB H3
  by_cases hltk : k < 32
  · have hrd : True := trivial
    clear hrd
    have hdk := hd.out k
    refine wp_seq ?_
    refine walk_seqB 1 [.quiet (.bool true)] H4 ?ho4 ?he4
    case ho4 => exact ak (by refine fun γ => ⟨rfl, fun w' h => ?_⟩; clear h; go_simp <;> omega) trivial
    intro _ w5 H5
    clear H4
    refine rest0 rfl (then_normal (wp_seq ?_))
    refine wp_cond_true rfl (wp_skip ?_)
    refine then_normal (wp_seq ?_)
    refine wp_block (wp_seq ?_)
    refine walk_seqB 4 [.quiet (.int .i64 ((k : Nat) : Int)), .quiet (Z8 (d k)), .quiet (.int .i64 ((k : Nat) : Int)), .quiet (Z8 (d k))] H5 ?ho5 ?he5
    case ho5 => exact ak (fun _ => ⟨rfl, fun _ _ => rfl⟩) (ak (fun γ => ⟨rfl, fun w' _ => ex_at25 (j := k) (n := 32) rfl rfl rfl (by omega) rfl⟩) (ak (fun _ => ⟨rfl, fun _ _ => rfl⟩) (ak (fun _ => ⟨rfl, fun _ _ => rfl⟩) trivial)))
    intro _ w6 H6
    clear H5
    refine rest0 rfl (then_normal ?_)
    refine walk_put (by kernel_rfl) 12 [2, 3, 4, 8, 9, 10] [.quiet (.int .i64 ((k : Nat) : Int)), .quiet (.int .i64 ((2 * k : Nat) : Int)), .quiet (.int .i64 ((k : Nat) : Int)), .quiet (.int .i64 ((2 * k : Nat) : Int)), .quiet (.int .i64 (((2 * k) + 1 : Nat) : Int)), .quiet (Z8 (d k)), .quiet (Z8 ((d k) / 16)), .quiet (Z8 (dgt ((d k) / 16))), .quiet (Z8 (d k)), .quiet (Z8 ((d k) % 16)), .quiet (Z8 (dgt ((d k) % 16))), .quiet (PT γ2_0 (2 * k))] _ ?pre6 ?F6 _ ?hpre6 (fun γ => ?hF6) (by kernel_rfl) rfl trivial (sB H6) ?ho6 ?hla6 ?he6
    case hpre6 => simp only [tk, tz]; rfl
    case hF6 => simp only [fill, Kind.val, Act.put, sa, sz, ss]; rfl
    case ho6 =>
      refine ak (fun _ => ⟨rfl, fun _ _ => rfl⟩) ?_
      refine ak (by refine fun γ => ⟨rfl, fun w' h => ?_⟩; clear h; go_simp; rw [IntKind.wrap_i64]; omega) ?_
      refine ak (fun _ => ⟨rfl, fun _ _ => rfl⟩) ?_
      refine ak (by refine fun γ => ⟨rfl, fun w' h => ?_⟩; clear h; go_simp; rw [IntKind.wrap_i64]; omega) ?_
      refine ak (by refine fun γ => ⟨rfl, fun w' h => ?_⟩; clear h; go_simp; rw [IntKind.wrap_i64]; omega) ?_
      refine ak (fun _ => ⟨rfl, fun _ _ => rfl⟩) ?_
      refine ak (fun γ => ⟨rfl, fun w' _ => ex_shr8 rfl rfl rfl⟩) ?_
      refine ak (fun γ => ⟨rfl, fun w' _ => ex_dgt rfl rfl rfl (by omega)⟩) ?_
      refine ak (fun _ => ⟨rfl, fun _ _ => rfl⟩) ?_
      refine ak (fun γ => ⟨rfl, fun w' _ => ex_and15 rfl rfl rfl⟩) ?_
      refine ak (fun γ => ⟨rfl, fun w' _ => ex_dgt rfl rfl rfl (by omega)⟩) ?_
      refine ak (fun γ => ⟨rfl, fun w' _ => ex_ix0_54 (j := 2 * k) rfl rfl rfl (by omega)⟩) ?_
      exact trivial
    case hla6 => exact ⟨⟨_, _, rfl, rfl, fun γ => ⟨rfl, fun w' => rfl⟩⟩, ⟨_, _, rfl, rfl, fun γ => ⟨rfl, fun w' => by go_simp; rw [IntKind.wrap_i64]; omega⟩⟩, ⟨_, _, rfl, rfl, fun γ => ⟨rfl, fun w' => by go_simp; rw [IntKind.wrap_i64]; omega⟩⟩, ⟨_, _, rfl, rfl, fun γ => ⟨rfl, fun w' => rfl⟩⟩, ⟨_, _, rfl, rfl, fun γ => ⟨rfl, fun w' => ex_and15 rfl rfl rfl⟩⟩, ⟨_, _, rfl, rfl, fun γ => ⟨rfl, fun w' => ex_dgt rfl rfl rfl (by omega)⟩⟩, trivial⟩
    intro γ w7 l hM hl
    have H7 := keepB H6 hM.below
    clear hM hl l H6 γ
    refine ⟨_, ex_storeI H7.out.1 0 rfl rfl Tryd.sizeOf5 rfl rfl (by rw [ints_len]; omega), ?_⟩
    have H8 : Hid (Mm (w7.setCells γ2_0 (2 * k) ([Z8 (dgt ((d k) / 16))])) [(γ2_0, ints .u8 (up (tx d k) (2 * k) (dgt ((d k) / 16))) 64), (γ1_0, ints .u8 d 32)] ∧ Below w.heap.size w (w7.setCells γ2_0 (2 * k) ([Z8 (dgt ((d k) / 16))]))) := ⟨by
      have h := H7.out.1.put 0 (off := 2 * k) (vs := [Z8 (dgt ((d k) / 16))]) rfl (by rw [ints_len]; simp only [List.length_cons, List.length_nil]; omega)
      rw [ints_patch _ _ _ _ (by omega)] at h
      exact h, below_setCells _ o2_0.out _ _ _ H7.out.2⟩
    clear H7
    generalize hgw : World.setCells _ _ _ _ = w8 at H8 ⊢
    clear hgw
    refine rest_at (l := [13, 14]) rfl ?_
    refine rest_set (d := 23) (v := PT γ2_0 ((2 * k) + 1)) (w' := w8) rfl rfl rfl (ex_ix0_54 (j := (2 * k) + 1) rfl rfl rfl (by omega)) ?_
    simp only [Act.put, sa, sz, ss]
    refine rest_store rfl rfl rfl (ex_storeI H8.out.1 0 rfl rfl Tryd.sizeOf5 rfl rfl (by rw [ints_len]; omega)) ?_
    have H9 : Hid (Mm (w8.setCells γ2_0 ((2 * k) + 1) ([Z8 (dgt ((d k) % 16))])) [(γ2_0, ints .u8 (up (up (tx d k) (2 * k) (dgt ((d k) / 16))) ((2 * k) + 1) (dgt ((d k) % 16))) 64), (γ1_0, ints .u8 d 32)] ∧ Below w.heap.size w (w8.setCells γ2_0 ((2 * k) + 1) ([Z8 (dgt ((d k) % 16))]))) := ⟨by
      have h := H8.out.1.put 0 (off := (2 * k) + 1) (vs := [Z8 (dgt ((d k) % 16))]) rfl (by rw [ints_len]; simp only [List.length_cons, List.length_nil]; omega)
      rw [ints_patch _ _ _ _ (by omega)] at h
      exact h, below_setCells _ o2_0.out _ _ _ H8.out.2⟩
    clear H8
    generalize hgw : World.setCells _ _ _ _ = w9 at H9 ⊢
    clear hgw
    refine rest_nil (block_normal (then_normal ?_))
    refine walk_seqB 1 [.quiet (.int .i64 ((k + 1 : Nat) : Int))] H9 ?ho7 ?he7
    case ho7 => exact ak (by refine fun γ => ⟨rfl, fun w' h => ?_⟩; clear h; go_simp; rw [IntKind.wrap_i64]; omega) trivial
    intro _ w10 H10
    clear H9
    refine rest_at (l := [1]) rfl ?_
    refine rest_set (d := 7) rfl rfl rfl rfl ?_
    simp only [Act.put, sa, sz, ss]
    refine rest_nil (then_normal ?_)
    exact ⟨k + 1, ⟨(slotfn [undef, undef, undef, undef, .int .i64 ((k : Nat) : Int), Z8 (d k), undef, undef, .bool true, .int .i64 ((k : Nat) : Int), Z8 (d k), .int .i64 ((k : Nat) : Int), .int .i64 ((2 * k : Nat) : Int), .int .i64 ((k : Nat) : Int), .int .i64 ((2 * k : Nat) : Int), .int .i64 (((2 * k) + 1 : Nat) : Int), Z8 (d k), Z8 ((d k) / 16), Z8 (dgt ((d k) / 16)), Z8 (d k), Z8 ((d k) % 16), Z8 (dgt ((d k) % 16)), PT γ2_0 (2 * k), PT γ2_0 ((2 * k) + 1), .int .i64 ((k + 1 : Nat) : Int)]), rfl, ⟨H10.out.1, H10.out.2⟩, by omega⟩, by omega⟩
  have hkN : k = 32 := by omega
  subst hkN
  refine wp_seq ?_
  refine walk_seqB 1 [.quiet (.bool false)] H4 ?ho8 ?he8
  case ho8 => exact ak (by refine fun γ => ⟨rfl, fun w' h => ?_⟩; clear h; go_simp <;> omega) trivial
  intro _ w11 H11
  clear H4
  refine rest0 rfl (then_normal (wp_seq (wp_cond_false rfl ?_)))
  refine wp_exit ?_
  repeat refine then_exit ?_
  refine block_exit ?_
  refine then_normal (wp_seq ?_)
  refine walk_seqB 3 [.quiet (.slice (some ⟨γ2_0, 0, none⟩) 64 64), .quiet (.string (st (tx d 32) 64)), .quiet (.string (st (tx d 32) 64))] H11 ?ho9 ?he9
  case ho9 => exact ak (fun γ => ⟨rfl, fun w' _ => ex_sl54 rfl rfl⟩) (ak (fun γ => ⟨rfl, fun w' h => ex_str h 0 rfl rfl rfl⟩) (ak (fun _ => ⟨rfl, fun _ _ => rfl⟩) trivial))
  intro _ w12 H12
  clear H11
  refine rest0 rfl (then_normal (wp_ret ?_))
  repeat (first | refine then_ret ?_ | refine block_ret ?_)
  refine bodyPost_ret (v := .string (st (tx d 32) 64)) (by simp [results, Tryd.results19, go_sem, *]) rfl ?_
  exact ⟨rfl, H12.out.2⟩
end Rg
end Go.Proofs.YtfboipfpnkngdaaDoor
end
section
namespace Go.Proofs.YtfboipfpnkngdaaDoor
open Go.RowKit
namespace Rg
set_option maxRecDepth 100000
/-- What a digit stands for. -/
def vl (c : Nat) : Nat := if 48 ≤ c ∧ c ≤ 57 then c - 48 else if 97 ≤ c ∧ c ≤ 102 then c - 97 + 10 else 16
def o8 (a b : Nat) : Nat := (a ||| b) % 256
/-- What many digits come to. -/
def al (f : Nat → Nat) : Nat → Nat
  | 0 => 0
  | n + 1 => o8 (al f n) (o8 (vl (f (2 * n))) (vl (f (2 * n + 1))))
def pa (f : Nat → Nat) : Nat → Nat → Nat
  | 0 => fun _ => 0
  | n + 1 => up (pa f n) n (o8 (vl (f (2 * n)) * 16 % 256) (vl (f (2 * n + 1))))
section
variable {ρ : Operand → Value} {o : Oper} {x y : Operand} {j a b n : Nat} {f : Nat → Nat} {w : World}
theorem bits8o (a b : Nat) : bits .or .u8 (a : Int) (b : Int) = ((o8 a b : Nat) : Int) := by
  have h1 : ∀ k : Nat, (BitVec.ofInt 8 (k : Int)).toNat = k % 256 := fun k => by rw [BitVec.ofInt_natCast, BitVec.toNat_ofNat]
  show IntKind.u8.wrap ((BitVec.ofInt 8 (a : Int) ||| BitVec.ofInt 8 (b : Int)).toNat : Int) = _
  rw [BitVec.toNat_or, h1, h1, ← Nat.or_mod_two_pow (n := 8)]
  unfold o8
  simp [IntKind.wrap, IntKind.bits, IntKind.signed]
theorem ex_or8 (ho : o.op = .binOp .or 5 x y 5) (hx : ρ x = Z8 a) (hy : ρ y = Z8 b) : (execOp ρ o).run Tryd.prog w = .ok (.value (Z8 (o8 a b))) w := by
  have e := bits8o a b
  simp only [execOp, ho, hx, hy]
  clear ho hx hy
  go_simp
  first | done | exact e
theorem ex_shl4 (ho : o.op = .binOp .shl 5 x y 72) (hx : ρ x = Z8 a) (hy : ρ y = U 4) : (execOp ρ o).run Tryd.prog w = .ok (.value (Z8 (a * 16 % 256))) w := by
  simp only [execOp, ho, hx, hy]
  clear ho hx hy
  have hs := shift_shl_any .u8 .u64 (a : Int) 4 (by omega)
  rw [show (2 : Int) ^ min (4 : Int).toNat IntKind.u8.bits = 16 by decide] at hs
  go_simp
  first | done | simp [IntKind.wrap, IntKind.bits, IntKind.signed]
theorem ex_and16 (ho : o.op = .binOp .and 5 x y 5) (hx : ρ x = Z8 a) (hy : ρ y = .int .u8 16) : (execOp ρ o).run Tryd.prog w = .ok (.value (Z8 ((a &&& 16) % 256))) w := by
  have e := bits8 a 16
  simp only [execOp, ho, hx, hy]
  clear ho hx hy
  go_simp
  first | done | exact e
theorem ex_ne0 {t : Bool} (ht : decide (a ≠ 0) = t) (ho : o.op = .binOp .neq 5 x y 5) (hx : ρ x = Z8 a) (hy : ρ y = .int .u8 0) : (execOp ρ o).run Tryd.prog w = .ok (.value (.bool t)) w := by
  subst ht
  simp only [execOp, ho, hx, hy]
  clear ho hx hy
  go_simp
  by_cases h : a = 0 <;> simp [h]
theorem ex_le8 {t : Bool} (ht : decide (a ≤ b) = t) (ho : o.op = .binOp .leq 5 x y 5) (hx : ρ x = Z8 a) (hy : ρ y = Z8 b) : (execOp ρ o).run Tryd.prog w = .ok (.value (.bool t)) w := by
  subst ht
  simp only [execOp, ho, hx, hy]
  clear ho hx hy
  go_simp
theorem ex_sub8 (h : b ≤ a) (ha : a < 256) (ho : o.op = .binOp .sub 5 x y 5) (hx : ρ x = Z8 a) (hy : ρ y = Z8 b) : (execOp ρ o).run Tryd.prog w = .ok (.value (Z8 (a - b))) w := by
  simp only [execOp, ho, hx, hy]
  clear ho hx hy
  go_simp
  simp [IntKind.wrap, IntKind.bits, IntKind.signed]
  omega
theorem ex_add8 (h : a + b < 256) (ho : o.op = .binOp .add 5 x y 5) (hx : ρ x = Z8 a) (hy : ρ y = Z8 b) : (execOp ρ o).run Tryd.prog w = .ok (.value (Z8 (a + b))) w := by
  simp only [execOp, ho, hx, hy]
  clear ho hx hy
  go_simp
  simp [IntKind.wrap, IntKind.bits, IntKind.signed]
  omega
theorem st_size (f : Nat → Nat) (n : Nat) : (st f n).size = n := by unfold st; rw [strOfNums_size]; simp
theorem ex_lenS (ho : o.op = .call { callee := .builtin .len, args := #[x], argTypes := #[9] }) (hx : ρ x = .string (st f n)) : (execOp ρ o).run Tryd.prog w = .ok (.value (.int .i64 ((n : Nat) : Int))) w := by
  have e := st_size f n
  simp only [execOp, ho]
  simp only [resolve, invoke, builtin, List.map_toArray, List.map_cons, List.map_nil, hx]
  simp [go_sem, Builtin.len_, run_underlying (show Tryd.prog.underlying 9 = some .string by kernel_rfl), e, goInt]
theorem ex_atS (hf : ∀ j, f j < 256) (ho : o.op = .index 9 x y) (hx : ρ x = .string (st f n)) (hy : ρ y = .int .i64 ((j : Nat) : Int)) (hj : j < n) : (execOp ρ o).run Tryd.prog w = .ok (.value (Z8 (f j))) w := by
  have e := st_size f n
  have hr := run_index_string (P := Tryd.prog) (w := w) 9 (st f n) .i64 (j : Int) (by kernel_rfl)
  rw [dif_pos (by rw [e]; omega)] at hr
  have hb : ((st f n)[((j : Int)).toNat]'(by rw [e]; omega)).toNat = f j := by
    have : (st f n).data.toList[j]? = some (UInt8.ofNat (f j)) := by
      unfold st
      rw [strOfNums_data, List.getElem?_map, List.getElem?_map, List.getElem?_range hj]
      simp
    have h2 : ((st f n)[((j : Int)).toNat]'(by rw [e]; omega)) = UInt8.ofNat (f j) := by
      have h3 : (st f n).data[j]? = some (UInt8.ofNat (f j)) := by rw [← Array.getElem?_toList]; exact this
      exact (Array.getElem?_eq_some_iff.1 h3).2
    rw [h2]
    have := hf j
    simp [UInt8.toNat_ofNat']
    omega
  rw [hb] at hr
  simp only [execOp, ho, hx, hy]
  simp [hr, Result.andThen]
end
theorem call37 : ∀ args w, (callFunc 37 args).run Tryd.prog w = .ok (.enter 37 args) w := by intro args w; go_simp
set_option maxRecDepth 100000 in
theorem value_d (c : Nat) (hc : c < 256) (h1 : 48 ≤ c) (h2 : c ≤ 57) (w : World) :
    Calls Tryd.prog 37 #[Z8 c] w fun e w' => e = .returned (Z8 (c - 48)) ∧ Below w.heap.size w w' := by
  have H0 : Hid (_ ∧ _) := ⟨Mm.nil w, Below.refl w.heap.size w⟩
  go_enter Tryd.func37, Tryd.ntmps37
  refine wp_seq ?_
  refine walk_seqB 1 [.quiet (.int .u8 0)] H0 ?ho1 ?he1
  case ho1 => exact ak (fun _ => ⟨rfl, fun _ _ => rfl⟩) trivial
  intro _ w1 H1
  refine rest0 rfl (then_normal (wp_seq ?_))
  refine wp_block (wp_seq ?_)
  refine walk_seqB 7 [.quiet (Z8 c), .quiet (.bool true), .quiet (.bool true), .quiet (Z8 c), .quiet (.bool true), .quiet (.bool true), .quiet (.bool true)] H1 ?ho2 ?he2
  case ho2 => exact ak (fun _ => ⟨rfl, fun _ _ => rfl⟩) (ak (fun γ => ⟨rfl, fun w' _ => ex_le8 (a := 48) (b := c) (decide_eq_true (by omega)) rfl rfl rfl⟩) (ak (fun _ => ⟨rfl, fun _ _ => rfl⟩) (ak (fun _ => ⟨rfl, fun _ _ => rfl⟩) (ak (fun γ => ⟨rfl, fun w' _ => ex_le8 (a := c) (b := 57) (decide_eq_true (by omega)) rfl rfl rfl⟩) (ak (by refine fun γ => ⟨rfl, fun w' h => ?_⟩; clear h; go_simp) (ak (fun _ => ⟨rfl, fun _ _ => rfl⟩) trivial))))))
  intro _ w2 H2
  clear H1
  refine rest0 rfl (then_normal (wp_cond_true rfl (wp_seq ?_)))
  refine walk_seqB 3 [.quiet (Z8 c), .quiet (Z8 (c - 48)), .quiet (Z8 (c - 48))] H2 ?ho3 ?he3
  case ho3 => exact ak (fun _ => ⟨rfl, fun _ _ => rfl⟩) (ak (fun γ => ⟨rfl, fun w' _ => ex_sub8 (b := 48) (by omega) (by omega) rfl rfl rfl⟩) (ak (fun _ => ⟨rfl, fun _ _ => rfl⟩) trivial))
  intro _ w3 H3
  clear H2
  refine rest0 rfl (then_normal (wp_ret ?_))
  repeat (first | refine then_ret ?_ | refine block_ret ?_)
  refine bodyPost_ret (v := Z8 (c - 48)) (by simp [results, Tryd.results37, go_sem, *]) rfl ?_
  exact ⟨rfl, H3.out.2⟩
set_option maxRecDepth 100000 in
theorem value_l (c : Nat) (hc : c < 256) (h1 : c < 48) (w : World) :
    Calls Tryd.prog 37 #[Z8 c] w fun e w' => e = .returned (.int .u8 16) ∧ Below w.heap.size w w' := by
  have H0 : Hid (_ ∧ _) := ⟨Mm.nil w, Below.refl w.heap.size w⟩
  go_enter Tryd.func37, Tryd.ntmps37
  refine wp_seq ?_
  refine walk_seqB 1 [.quiet (.int .u8 0)] H0 ?ho1 ?he1
  case ho1 => exact ak (fun _ => ⟨rfl, fun _ _ => rfl⟩) trivial
  intro _ w1 H1
  refine rest0 rfl (then_normal (wp_seq ?_))
  refine wp_block (wp_seq ?_)
  refine walk_seqB 7 [.quiet (Z8 c), .quiet (.bool false), .quiet (.bool false), .gone, .gone, .quiet (.bool false), .quiet (.bool false)] H1 ?ho2 ?he2
  case ho2 => exact ak (fun _ => ⟨rfl, fun _ _ => rfl⟩) (ak (fun γ => ⟨rfl, fun w' _ => ex_le8 (a := 48) (b := c) (decide_eq_false (by omega)) rfl rfl rfl⟩) (ak (fun _ => ⟨rfl, fun _ _ => rfl⟩) (ak (fun γ => rfl) (ak (fun γ => rfl) (ak (by refine fun γ => ⟨rfl, fun w' h => ?_⟩; clear h; go_simp) (ak (fun _ => ⟨rfl, fun _ _ => rfl⟩) trivial))))))
  intro _ w2 H2
  clear H1
  refine rest0 rfl (then_normal (wp_cond_false rfl (wp_seq ?_)))
  refine walk_seqB 7 [.quiet (Z8 c), .quiet (.bool false), .quiet (.bool false), .gone, .gone, .quiet (.bool false), .quiet (.bool false)] H2 ?ho3 ?he3
  case ho3 => exact ak (fun _ => ⟨rfl, fun _ _ => rfl⟩) (ak (fun γ => ⟨rfl, fun w' _ => ex_le8 (a := 97) (b := c) (decide_eq_false (by omega)) rfl rfl rfl⟩) (ak (fun _ => ⟨rfl, fun _ _ => rfl⟩) (ak (fun γ => rfl) (ak (fun γ => rfl) (ak (by refine fun γ => ⟨rfl, fun w' h => ?_⟩; clear h; go_simp) (ak (fun _ => ⟨rfl, fun _ _ => rfl⟩) trivial))))))
  intro _ w3 H3
  clear H2
  refine rest0 rfl (then_normal (wp_cond_false rfl ?_))
  refine wp_skip (block_normal ?_)
  refine then_normal (wp_seq ?_)
  refine walk_seqB 1 [.quiet (.int .u8 16)] H3 ?ho4 ?he4
  case ho4 => exact ak (fun _ => ⟨rfl, fun _ _ => rfl⟩) trivial
  intro _ w4 H4
  clear H3
  refine rest0 rfl (then_normal (wp_ret ?_))
  repeat (first | refine then_ret ?_ | refine block_ret ?_)
  refine bodyPost_ret (v := .int .u8 16) (by simp [results, Tryd.results37, go_sem, *]) rfl ?_
  exact ⟨rfl, H4.out.2⟩
set_option maxRecDepth 100000 in
theorem value_m (c : Nat) (hc : c < 256) (h1 : 57 < c) (h2 : c < 97) (w : World) :
    Calls Tryd.prog 37 #[Z8 c] w fun e w' => e = .returned (.int .u8 16) ∧ Below w.heap.size w w' := by
  have H0 : Hid (_ ∧ _) := ⟨Mm.nil w, Below.refl w.heap.size w⟩
  go_enter Tryd.func37, Tryd.ntmps37
  refine wp_seq ?_
  refine walk_seqB 1 [.quiet (.int .u8 0)] H0 ?ho1 ?he1
  case ho1 => exact ak (fun _ => ⟨rfl, fun _ _ => rfl⟩) trivial
  intro _ w1 H1
  refine rest0 rfl (then_normal (wp_seq ?_))
  refine wp_block (wp_seq ?_)
  refine walk_seqB 7 [.quiet (Z8 c), .quiet (.bool true), .quiet (.bool true), .quiet (Z8 c), .quiet (.bool false), .quiet (.bool false), .quiet (.bool false)] H1 ?ho2 ?he2
  case ho2 => exact ak (fun _ => ⟨rfl, fun _ _ => rfl⟩) (ak (fun γ => ⟨rfl, fun w' _ => ex_le8 (a := 48) (b := c) (decide_eq_true (by omega)) rfl rfl rfl⟩) (ak (fun _ => ⟨rfl, fun _ _ => rfl⟩) (ak (fun _ => ⟨rfl, fun _ _ => rfl⟩) (ak (fun γ => ⟨rfl, fun w' _ => ex_le8 (a := c) (b := 57) (decide_eq_false (by omega)) rfl rfl rfl⟩) (ak (by refine fun γ => ⟨rfl, fun w' h => ?_⟩; clear h; go_simp) (ak (fun _ => ⟨rfl, fun _ _ => rfl⟩) trivial))))))
  intro _ w2 H2
  clear H1
  refine rest0 rfl (then_normal (wp_cond_false rfl (wp_seq ?_)))
  refine walk_seqB 7 [.quiet (Z8 c), .quiet (.bool false), .quiet (.bool false), .gone, .gone, .quiet (.bool false), .quiet (.bool false)] H2 ?ho3 ?he3
  case ho3 => exact ak (fun _ => ⟨rfl, fun _ _ => rfl⟩) (ak (fun γ => ⟨rfl, fun w' _ => ex_le8 (a := 97) (b := c) (decide_eq_false (by omega)) rfl rfl rfl⟩) (ak (fun _ => ⟨rfl, fun _ _ => rfl⟩) (ak (fun γ => rfl) (ak (fun γ => rfl) (ak (by refine fun γ => ⟨rfl, fun w' h => ?_⟩; clear h; go_simp) (ak (fun _ => ⟨rfl, fun _ _ => rfl⟩) trivial))))))
  intro _ w3 H3
  clear H2
  refine rest0 rfl (then_normal (wp_cond_false rfl ?_))
  refine wp_skip (block_normal ?_)
  refine then_normal (wp_seq ?_)
  refine walk_seqB 1 [.quiet (.int .u8 16)] H3 ?ho4 ?he4
  case ho4 => exact ak (fun _ => ⟨rfl, fun _ _ => rfl⟩) trivial
  intro _ w4 H4
  clear H3
  refine rest0 rfl (then_normal (wp_ret ?_))
  repeat (first | refine then_ret ?_ | refine block_ret ?_)
  refine bodyPost_ret (v := .int .u8 16) (by simp [results, Tryd.results37, go_sem, *]) rfl ?_
  exact ⟨rfl, H4.out.2⟩
set_option maxRecDepth 100000 in
theorem value_a (c : Nat) (hc : c < 256) (h1 : 97 ≤ c) (h2 : c ≤ 102) (w : World) :
    Calls Tryd.prog 37 #[Z8 c] w fun e w' => e = .returned (Z8 (c - 97 + 10)) ∧ Below w.heap.size w w' := by
  have H0 : Hid (_ ∧ _) := ⟨Mm.nil w, Below.refl w.heap.size w⟩
  go_enter Tryd.func37, Tryd.ntmps37
  refine wp_seq ?_
  refine walk_seqB 1 [.quiet (.int .u8 0)] H0 ?ho1 ?he1
  case ho1 => exact ak (fun _ => ⟨rfl, fun _ _ => rfl⟩) trivial
  intro _ w1 H1
  refine rest0 rfl (then_normal (wp_seq ?_))
  refine wp_block (wp_seq ?_)
  refine walk_seqB 7 [.quiet (Z8 c), .quiet (.bool true), .quiet (.bool true), .quiet (Z8 c), .quiet (.bool false), .quiet (.bool false), .quiet (.bool false)] H1 ?ho2 ?he2
  case ho2 => exact ak (fun _ => ⟨rfl, fun _ _ => rfl⟩) (ak (fun γ => ⟨rfl, fun w' _ => ex_le8 (a := 48) (b := c) (decide_eq_true (by omega)) rfl rfl rfl⟩) (ak (fun _ => ⟨rfl, fun _ _ => rfl⟩) (ak (fun _ => ⟨rfl, fun _ _ => rfl⟩) (ak (fun γ => ⟨rfl, fun w' _ => ex_le8 (a := c) (b := 57) (decide_eq_false (by omega)) rfl rfl rfl⟩) (ak (by refine fun γ => ⟨rfl, fun w' h => ?_⟩; clear h; go_simp) (ak (fun _ => ⟨rfl, fun _ _ => rfl⟩) trivial))))))
  intro _ w2 H2
  clear H1
  refine rest0 rfl (then_normal (wp_cond_false rfl (wp_seq ?_)))
  refine walk_seqB 7 [.quiet (Z8 c), .quiet (.bool true), .quiet (.bool true), .quiet (Z8 c), .quiet (.bool true), .quiet (.bool true), .quiet (.bool true)] H2 ?ho3 ?he3
  case ho3 => exact ak (fun _ => ⟨rfl, fun _ _ => rfl⟩) (ak (fun γ => ⟨rfl, fun w' _ => ex_le8 (a := 97) (b := c) (decide_eq_true (by omega)) rfl rfl rfl⟩) (ak (fun _ => ⟨rfl, fun _ _ => rfl⟩) (ak (fun _ => ⟨rfl, fun _ _ => rfl⟩) (ak (fun γ => ⟨rfl, fun w' _ => ex_le8 (a := c) (b := 102) (decide_eq_true (by omega)) rfl rfl rfl⟩) (ak (by refine fun γ => ⟨rfl, fun w' h => ?_⟩; clear h; go_simp) (ak (fun _ => ⟨rfl, fun _ _ => rfl⟩) trivial))))))
  intro _ w3 H3
  clear H2
  refine rest0 rfl (then_normal (wp_cond_true rfl (wp_seq ?_)))
  refine walk_seqB 4 [.quiet (Z8 c), .quiet (Z8 (c - 97)), .quiet (Z8 ((c - 97) + 10)), .quiet (Z8 ((c - 97) + 10))] H3 ?ho4 ?he4
  case ho4 => exact ak (fun _ => ⟨rfl, fun _ _ => rfl⟩) (ak (fun γ => ⟨rfl, fun w' _ => ex_sub8 (b := 97) (by omega) (by omega) rfl rfl rfl⟩) (ak (fun γ => ⟨rfl, fun w' _ => ex_add8 (b := 10) (by omega) rfl rfl rfl⟩) (ak (fun _ => ⟨rfl, fun _ _ => rfl⟩) trivial)))
  intro _ w4 H4
  clear H3
  refine rest0 rfl (then_normal (wp_ret ?_))
  repeat (first | refine then_ret ?_ | refine block_ret ?_)
  refine bodyPost_ret (v := Z8 ((c - 97) + 10)) (by simp [results, Tryd.results37, go_sem, *]) rfl ?_
  exact ⟨rfl, H4.out.2⟩
set_option maxRecDepth 100000 in
theorem value_h (c : Nat) (hc : c < 256) (h1 : 102 < c) (w : World) :
    Calls Tryd.prog 37 #[Z8 c] w fun e w' => e = .returned (.int .u8 16) ∧ Below w.heap.size w w' := by
  have H0 : Hid (_ ∧ _) := ⟨Mm.nil w, Below.refl w.heap.size w⟩
  go_enter Tryd.func37, Tryd.ntmps37
  refine wp_seq ?_
  refine walk_seqB 1 [.quiet (.int .u8 0)] H0 ?ho1 ?he1
  case ho1 => exact ak (fun _ => ⟨rfl, fun _ _ => rfl⟩) trivial
  intro _ w1 H1
  refine rest0 rfl (then_normal (wp_seq ?_))
  refine wp_block (wp_seq ?_)
  refine walk_seqB 7 [.quiet (Z8 c), .quiet (.bool true), .quiet (.bool true), .quiet (Z8 c), .quiet (.bool false), .quiet (.bool false), .quiet (.bool false)] H1 ?ho2 ?he2
  case ho2 => exact ak (fun _ => ⟨rfl, fun _ _ => rfl⟩) (ak (fun γ => ⟨rfl, fun w' _ => ex_le8 (a := 48) (b := c) (decide_eq_true (by omega)) rfl rfl rfl⟩) (ak (fun _ => ⟨rfl, fun _ _ => rfl⟩) (ak (fun _ => ⟨rfl, fun _ _ => rfl⟩) (ak (fun γ => ⟨rfl, fun w' _ => ex_le8 (a := c) (b := 57) (decide_eq_false (by omega)) rfl rfl rfl⟩) (ak (by refine fun γ => ⟨rfl, fun w' h => ?_⟩; clear h; go_simp) (ak (fun _ => ⟨rfl, fun _ _ => rfl⟩) trivial))))))
  intro _ w2 H2
  clear H1
  refine rest0 rfl (then_normal (wp_cond_false rfl (wp_seq ?_)))
  refine walk_seqB 7 [.quiet (Z8 c), .quiet (.bool true), .quiet (.bool true), .quiet (Z8 c), .quiet (.bool false), .quiet (.bool false), .quiet (.bool false)] H2 ?ho3 ?he3
  case ho3 => exact ak (fun _ => ⟨rfl, fun _ _ => rfl⟩) (ak (fun γ => ⟨rfl, fun w' _ => ex_le8 (a := 97) (b := c) (decide_eq_true (by omega)) rfl rfl rfl⟩) (ak (fun _ => ⟨rfl, fun _ _ => rfl⟩) (ak (fun _ => ⟨rfl, fun _ _ => rfl⟩) (ak (fun γ => ⟨rfl, fun w' _ => ex_le8 (a := c) (b := 102) (decide_eq_false (by omega)) rfl rfl rfl⟩) (ak (by refine fun γ => ⟨rfl, fun w' h => ?_⟩; clear h; go_simp) (ak (fun _ => ⟨rfl, fun _ _ => rfl⟩) trivial))))))
  intro _ w3 H3
  clear H2
  refine rest0 rfl (then_normal (wp_cond_false rfl ?_))
  refine wp_skip (block_normal ?_)
  refine then_normal (wp_seq ?_)
  refine walk_seqB 1 [.quiet (.int .u8 16)] H3 ?ho4 ?he4
  case ho4 => exact ak (fun _ => ⟨rfl, fun _ _ => rfl⟩) trivial
  intro _ w4 H4
  clear H3
  refine rest0 rfl (then_normal (wp_ret ?_))
  repeat (first | refine then_ret ?_ | refine block_ret ?_)
  refine bodyPost_ret (v := .int .u8 16) (by simp [results, Tryd.results37, go_sem, *]) rfl ?_
  exact ⟨rfl, H4.out.2⟩
theorem value_any (c : Nat) (hc : c < 256) (w : World) : Calls Tryd.prog 37 #[Z8 c] w fun e w' => e = .returned (Z8 (vl c)) ∧ Below w.heap.size w w' := by
  unfold vl
  by_cases h1 : 48 ≤ c ∧ c ≤ 57
  · rw [if_pos h1]; exact value_d c hc h1.1 h1.2 w
  · rw [if_neg h1]
    by_cases h2 : 97 ≤ c ∧ c ≤ 102
    · rw [if_pos h2]; exact value_a c hc h2.1 h2.2 w
    · rw [if_neg h2]
      by_cases h3 : c < 48
      · exact value_l c hc h3 w
      · by_cases h4 : c < 97
        · exact value_m c hc (by omega) h4 w
        · exact value_h c hc (by omega) w
set_option maxHeartbeats 1000000 in
set_option maxRecDepth 100000 in
theorem Parse_len (f : Nat → Nat) (n : Nat) (hf0 : ∀ j, f j < 256) (hn : n ≠ 64) (w : World) :
    Calls Tryd.prog 15 #[.string (st f n)] w fun e w' => e = .returned (.tuple #[.agg (ints .u8 (fun _ => 0) 32).toArray, .int .i64 4]) ∧ Below w.heap.size w w' := by
  have H0 : Hid (_ ∧ _) := ⟨Mm.nil w, Below.refl w.heap.size w⟩
  have hf : Hid (∀ j, f j < 256) := hf0
  clear hf0
  go_enter Tryd.func15, Tryd.ntmps15
  refine wp_seq ?_
  refine walk_seqA 2 [.made (ints .u8 (fun _ => 0) 32) 25, .quiet (.int .i64 0)] (sB H0) ?ho1 ?he1
  case ho1 => exact ak (fun γ => ⟨rfl, fun w' => ex_mk25 rfl⟩) (ak (fun _ => ⟨rfl, fun _ _ => rfl⟩) trivial)
  intro γ w1 l hM hl
  have H1 : Hid (Mm w1 [(γ 0, ints .u8 (fun _ => 0) 32)] ∧ _) := growB H0 hM (Nat.le_refl _) hl [0] rfl (by decide)
  have o1_0 := ownB H0 hM (Nat.le_refl _) hl (i := 0) rfl
  clear hM hl l
  generalize γ 0 = γ1_0 at H1 o1_0 ⊢
  clear γ
  refine rest0 rfl (then_normal (wp_seq ?_))
  refine walk_seqA 1 [.made (ints .u8 (fun _ => 0) 32) 25] (sB H1) ?ho2 ?he2
  case ho2 => exact ak (fun γ => ⟨rfl, fun w' => ex_mk25 rfl⟩) trivial
  intro γ w2 l hM hl
  have H2 : Hid (Mm w2 [(γ 0, ints .u8 (fun _ => 0) 32), (γ1_0, ints .u8 (fun _ => 0) 32)] ∧ _) := growB H1 hM (Nat.le_refl _) hl [0] rfl (by decide)
  have o2_0 := ownB H1 hM (Nat.le_refl _) hl (i := 0) rfl
  clear hM hl l H1
  generalize γ 0 = γ2_0 at H2 o2_0 ⊢
  clear γ
  refine rest0 rfl (then_normal (wp_seq (wp_seq ?_)))
  refine walk_seqB 3 [.quiet (.string (st f n)), .quiet (.int .i64 ((n : Nat) : Int)), .quiet (.bool true)] H2 ?ho3 ?he3
  case ho3 => exact ak (fun _ => ⟨rfl, fun _ _ => rfl⟩) (ak (fun γ => ⟨rfl, fun w' _ => ex_lenS rfl rfl⟩) (ak (by refine fun γ => ⟨rfl, fun w' h => ?_⟩; clear h; go_simp <;> omega) trivial))
  intro _ w3 H3
  clear H2
  refine rest0 rfl (then_normal (wp_cond_true rfl (wp_seq ?_)))
  refine walk_seqB 1 [.quiet (.agg (ints .u8 (fun _ => 0) 32).toArray)] H3 ?ho4 ?he4
  case ho4 => exact ak (fun γ => ⟨rfl, fun w' _ => ex_bz25 rfl⟩) trivial
  intro _ w4 H4
  clear H3
  refine rest_at (l := [1, 2]) rfl ?_
  refine rest_store rfl rfl rfl (ex_storeT (vs := ints .u8 (fun _ => 0) 32) H4.out.1 1 rfl rfl rfl rfl (by rw [ints_len]; exact Tryd.sizeOf25) (ints_all _ _ _) (by simp [ints_len])) ?_
  have H5 : Hid (Mm (w4.setCells γ1_0 0 (ints .u8 (fun _ => 0) 32)) [(γ2_0, ints .u8 (fun _ => 0) 32), (γ1_0, ints .u8 (fun _ => 0) 32)] ∧ Below w.heap.size w (w4.setCells γ1_0 0 (ints .u8 (fun _ => 0) 32))) := ⟨by
    have h := H4.out.1.put 1 (off := 0) (vs := ints .u8 (fun _ => 0) 32) rfl (by simp [ints_len])
    rw [ints_patch0 _ _ _ _] at h
    exact h, below_setCells _ o1_0.out _ _ _ H4.out.2⟩
  clear H4
  generalize hgw : World.setCells _ _ _ _ = w5 at H5 ⊢
  clear hgw
  refine rest_set (d := 3) rfl rfl rfl rfl ?_
  simp only [Act.put, sa, sz, ss]
  refine rest_nil (then_normal (wp_ret ?_))
  repeat (first | refine then_ret ?_ | refine block_ret ?_)
  have hf0 := var_T H5.out.1 1 rfl Tryd.isAgg25 Tryd.sizeOf25 (ints_len _ _ _)
  refine bodyPost_ret (v := .tuple #[.agg (ints .u8 (fun _ => 0) 32).toArray, .int .i64 4]) (by simp [results, Tryd.results15, asAddr, Act.eval, hf0]) rfl ?_
  exact ⟨rfl, H5.out.2⟩
set_option maxHeartbeats 1000000 in
set_option maxRecDepth 100000 in
theorem Parse_bad (f : Nat → Nat) (hf0 : ∀ j, f j < 256) (hr0 : decide ((al f 32 &&& 16) % 256 ≠ 0) = true) (w : World) :
    Calls Tryd.prog 15 #[.string (st f 64)] w fun e w' => e = .returned (.tuple #[.agg (ints .u8 (fun _ => 0) 32).toArray, .int .i64 4]) ∧ Below w.heap.size w w' := by
  have H0 : Hid (_ ∧ _) := ⟨Mm.nil w, Below.refl w.heap.size w⟩
  have hf : Hid (∀ j, f j < 256) := hf0
  clear hf0
  have hr : Hid _ := hr0
  clear hr0
  go_enter Tryd.func15, Tryd.ntmps15
  refine wp_seq ?_
  refine walk_seqA 2 [.made (ints .u8 (fun _ => 0) 32) 25, .quiet (.int .i64 0)] (sB H0) ?ho1 ?he1
  case ho1 => exact ak (fun γ => ⟨rfl, fun w' => ex_mk25 rfl⟩) (ak (fun _ => ⟨rfl, fun _ _ => rfl⟩) trivial)
  intro γ w1 l hM hl
  have H1 : Hid (Mm w1 [(γ 0, ints .u8 (fun _ => 0) 32)] ∧ _) := growB H0 hM (Nat.le_refl _) hl [0] rfl (by decide)
  have o1_0 := ownB H0 hM (Nat.le_refl _) hl (i := 0) rfl
  clear hM hl l
  generalize γ 0 = γ1_0 at H1 o1_0 ⊢
  clear γ
  refine rest0 rfl (then_normal (wp_seq ?_))
  refine walk_seqA 1 [.made (ints .u8 (fun _ => 0) 32) 25] (sB H1) ?ho2 ?he2
  case ho2 => exact ak (fun γ => ⟨rfl, fun w' => ex_mk25 rfl⟩) trivial
  intro γ w2 l hM hl
  have H2 : Hid (Mm w2 [(γ 0, ints .u8 (fun _ => 0) 32), (γ1_0, ints .u8 (fun _ => 0) 32)] ∧ _) := growB H1 hM (Nat.le_refl _) hl [0] rfl (by decide)
  have o2_0 := ownB H1 hM (Nat.le_refl _) hl (i := 0) rfl
  clear hM hl l H1
  generalize γ 0 = γ2_0 at H2 o2_0 ⊢
  clear γ
  refine rest0 rfl (then_normal (wp_seq (wp_seq ?_)))
  refine walk_seqB 3 [.quiet (.string (st f 64)), .quiet (.int .i64 ((64 : Nat) : Int)), .quiet (.bool false)] H2 ?ho3 ?he3
  case ho3 => exact ak (fun _ => ⟨rfl, fun _ _ => rfl⟩) (ak (fun γ => ⟨rfl, fun w' _ => ex_lenS rfl rfl⟩) (ak (by refine fun γ => ⟨rfl, fun w' h => ?_⟩; clear h; go_simp <;> omega) trivial))
  intro _ w3 H3
  clear H2
  refine rest0 rfl (then_normal (wp_cond_false rfl ?_))
  refine wp_skip (then_normal (wp_seq ?_))
  refine walk_seqB 1 [.quiet (.int .u8 0)] H3 ?ho4 ?he4
  case ho4 => exact ak (fun _ => ⟨rfl, fun _ _ => rfl⟩) trivial
  intro _ w4 H4
  clear H3
  refine rest0 rfl (then_normal (wp_seq (wp_seq ?_)))
  refine walk_seqB 1 [.quiet (.int .i64 0)] H4 ?ho5 ?he5
  case ho5 => exact ak (fun _ => ⟨rfl, fun _ _ => rfl⟩) trivial
  intro _ w5 H5
  clear H4
  refine rest0 rfl (then_normal (wp_block ?_))
  refine loop_ghost (α := Nat) (fun k a' w' => ∃ s0 : Nat → Value, a' = ⟨#[.string (st f 64), undef, PT γ1_0 0, .int .i64 0, PT γ2_0 0, Z8 (al f k), s0 6, s0 7, s0 8, .string (st f 64), .int .i64 ((64 : Nat) : Int), .bool false, undef, .int .i64 ((k : Nat) : Int), s0 14, s0 15, s0 16, s0 17, s0 18, s0 19, s0 20, s0 21, s0 22, s0 23, s0 24, s0 25, s0 26, s0 27, s0 28, s0 29, s0 30, s0 31, s0 32, s0 33, s0 34, s0 35, s0 36, s0 37, s0 38, undef, undef, undef, undef, undef], []⟩ ∧ (Mm w' [(γ2_0, ints .u8 (pa f k) 32), (γ1_0, ints .u8 (fun _ => 0) 32)] ∧ Below w.heap.size w w') ∧ k ≤ 32) (fun k => 32 - k) 0 ?st0 ?rd0
  case st0 => exact ⟨(slotfn [undef, undef, undef, undef, undef, undef, undef, undef, undef, undef, undef, undef, undef, undef, undef, undef, undef, undef, undef, undef, undef, undef, undef, undef, undef, undef, undef, undef, undef, undef, undef, undef, undef, undef, undef, undef, undef, undef, undef]), rfl, ⟨H5.out.1, H5.out.2⟩, by omega⟩
  intro k a' w6 hI
  obtain ⟨s0, rfl, hMB, hk0⟩ := hI
  have H6 : Hid (_ ∧ _) := hMB
  clear hMB H5
  by_cases hltk : k < 32
  · have hrd : True := trivial
    clear hrd
    refine wp_seq ?_
    refine walk_seqB 1 [.quiet (.bool true)] H6 ?ho6 ?he6
    case ho6 => exact ak (by refine fun γ => ⟨rfl, fun w' h => ?_⟩; clear h; go_simp <;> omega) trivial
    intro _ w7 H7
    clear H6
    refine rest0 rfl (then_normal (wp_seq ?_))
    refine wp_cond_true rfl (wp_skip ?_)
    refine then_normal (wp_seq ?_)
    refine wp_block (wp_seq ?_)
    refine walk_seqB 2 [.quiet (.int .i64 ((k : Nat) : Int)), .quiet (.int .i64 ((k : Nat) : Int))] H7 ?ho7 ?he7
    case ho7 => exact ak (fun _ => ⟨rfl, fun _ _ => rfl⟩) (ak (fun _ => ⟨rfl, fun _ _ => rfl⟩) trivial)
    intro _ w8 H8
    clear H7
    refine rest0 rfl (then_normal (wp_seq ?_))
    refine walk_anyB 13 [.quiet (.string (st f 64)), .quiet (.int .i64 ((k : Nat) : Int)), .quiet (.int .i64 ((2 * k : Nat) : Int)), .quiet (Z8 (f (2 * k))), .call (Z8 (vl (f (2 * k)))), .quiet (.string (st f 64)), .quiet (.int .i64 ((k : Nat) : Int)), .quiet (.int .i64 ((2 * k : Nat) : Int)), .quiet (.int .i64 (((2 * k) + 1 : Nat) : Int)), .quiet (Z8 (f ((2 * k) + 1))), .call (Z8 (vl (f ((2 * k) + 1)))), .quiet (Z8 (vl (f (2 * k)))), .quiet (Z8 (vl (f ((2 * k) + 1))))] H8 ?ho8 ?he8
    case ho8 => exact ak (fun _ => ⟨rfl, fun _ _ => rfl⟩) (ak (fun _ => ⟨rfl, fun _ _ => rfl⟩) (ak (by refine fun γ => ⟨rfl, fun w' h => ?_⟩; clear h; go_simp; rw [IntKind.wrap_i64]; omega) (ak (fun γ => ⟨rfl, fun w' _ => ex_atS (j := 2 * k) (n := 64) hf.out rfl rfl rfl (by omega)⟩) (ak (fun γ => ⟨rfl, fun w' h => ⟨37, #[Z8 (f (2 * k))], exec_call rfl call37 rfl (mpn rfl), value_any (f (2 * k)) (hf.out _) w'⟩⟩) (ak (fun _ => ⟨rfl, fun _ _ => rfl⟩) (ak (fun _ => ⟨rfl, fun _ _ => rfl⟩) (ak (by refine fun γ => ⟨rfl, fun w' h => ?_⟩; clear h; go_simp; rw [IntKind.wrap_i64]; omega) (ak (by refine fun γ => ⟨rfl, fun w' h => ?_⟩; clear h; go_simp; rw [IntKind.wrap_i64]; omega) (ak (fun γ => ⟨rfl, fun w' _ => ex_atS (j := (2 * k) + 1) (n := 64) hf.out rfl rfl rfl (by omega)⟩) (ak (fun γ => ⟨rfl, fun w' h => ⟨37, #[Z8 (f ((2 * k) + 1))], exec_call rfl call37 rfl (mpn rfl), value_any (f ((2 * k) + 1)) (hf.out _) w'⟩⟩) (ak (fun _ => ⟨rfl, fun _ _ => rfl⟩) (ak (fun _ => ⟨rfl, fun _ _ => rfl⟩) trivial))))))))))))
    intro _ w9 H9
    clear H8
    refine rest0 rfl (then_normal (wp_seq ?_))
    refine walk_seqB 5 [.quiet (Z8 (al f k)), .quiet (Z8 (vl (f (2 * k)))), .quiet (Z8 (vl (f ((2 * k) + 1)))), .quiet (Z8 (o8 (vl (f (2 * k))) (vl (f ((2 * k) + 1))))), .quiet (Z8 (o8 (al f k) (o8 (vl (f (2 * k))) (vl (f ((2 * k) + 1))))))] H9 ?ho9 ?he9
    case ho9 => exact ak (fun _ => ⟨rfl, fun _ _ => rfl⟩) (ak (fun _ => ⟨rfl, fun _ _ => rfl⟩) (ak (fun _ => ⟨rfl, fun _ _ => rfl⟩) (ak (fun γ => ⟨rfl, fun w' _ => ex_or8 (a := vl (f (2 * k))) (b := vl (f ((2 * k) + 1))) rfl rfl rfl⟩) (ak (fun γ => ⟨rfl, fun w' _ => ex_or8 (a := al f k) (b := o8 (vl (f (2 * k))) (vl (f ((2 * k) + 1)))) rfl rfl rfl⟩) trivial))))
    intro _ w10 H10
    clear H9
    refine rest_at (l := [5]) rfl ?_
    refine rest_set (d := 5) rfl rfl rfl rfl ?_
    simp only [Act.put, sa, sz, ss]
    refine rest_nil (then_normal ?_)
    refine walk_seqB 6 [.quiet (.int .i64 ((k : Nat) : Int)), .quiet (Z8 (vl (f (2 * k)))), .quiet (Z8 ((vl (f (2 * k))) * 16 % 256)), .quiet (Z8 (vl (f ((2 * k) + 1)))), .quiet (Z8 (o8 ((vl (f (2 * k))) * 16 % 256) (vl (f ((2 * k) + 1))))), .quiet (PT γ2_0 k)] H10 ?ho10 ?he10
    case ho10 => exact ak (fun _ => ⟨rfl, fun _ _ => rfl⟩) (ak (fun _ => ⟨rfl, fun _ _ => rfl⟩) (ak (fun γ => ⟨rfl, fun w' _ => ex_shl4 rfl rfl rfl⟩) (ak (fun _ => ⟨rfl, fun _ _ => rfl⟩) (ak (fun γ => ⟨rfl, fun w' _ => ex_or8 (a := (vl (f (2 * k))) * 16 % 256) (b := vl (f ((2 * k) + 1))) rfl rfl rfl⟩) (ak (fun γ => ⟨rfl, fun w' _ => ex_ix0_25 (j := k) rfl rfl rfl (by omega)⟩) trivial)))))
    intro _ w11 H11
    clear H10
    refine rest_at (l := [6]) rfl ?_
    refine rest_store rfl rfl rfl (ex_storeI H11.out.1 0 rfl rfl Tryd.sizeOf5 rfl rfl (by rw [ints_len]; omega)) ?_
    have H12 : Hid (Mm (w11.setCells γ2_0 k ([Z8 (o8 ((vl (f (2 * k))) * 16 % 256) (vl (f ((2 * k) + 1))))])) [(γ2_0, ints .u8 (up (pa f k) k (o8 ((vl (f (2 * k))) * 16 % 256) (vl (f ((2 * k) + 1))))) 32), (γ1_0, ints .u8 (fun _ => 0) 32)] ∧ Below w.heap.size w (w11.setCells γ2_0 k ([Z8 (o8 ((vl (f (2 * k))) * 16 % 256) (vl (f ((2 * k) + 1))))]))) := ⟨by
      have h := H11.out.1.put 0 (off := k) (vs := [Z8 (o8 ((vl (f (2 * k))) * 16 % 256) (vl (f ((2 * k) + 1))))]) rfl (by rw [ints_len]; simp only [List.length_cons, List.length_nil]; omega)
      rw [ints_patch _ _ _ _ (by omega)] at h
      exact h, below_setCells _ o2_0.out _ _ _ H11.out.2⟩
    clear H11
    generalize hgw : World.setCells _ _ _ _ = w12 at H12 ⊢
    clear hgw
    refine rest_nil (block_normal (then_normal ?_))
    refine walk_seqB 1 [.quiet (.int .i64 ((k + 1 : Nat) : Int))] H12 ?ho11 ?he11
    case ho11 => exact ak (by refine fun γ => ⟨rfl, fun w' h => ?_⟩; clear h; go_simp; rw [IntKind.wrap_i64]; omega) trivial
    intro _ w13 H13
    clear H12
    refine rest_at (l := [1]) rfl ?_
    refine rest_set (d := 13) rfl rfl rfl rfl ?_
    simp only [Act.put, sa, sz, ss]
    refine rest_nil (then_normal ?_)
    exact ⟨k + 1, ⟨(slotfn [undef, undef, undef, undef, undef, undef, .int .i64 ((k : Nat) : Int), Z8 (vl (f (2 * k))), Z8 (vl (f ((2 * k) + 1))), undef, undef, undef, undef, undef, .bool true, .int .i64 ((k : Nat) : Int), .string (st f 64), .int .i64 ((k : Nat) : Int), .int .i64 ((2 * k : Nat) : Int), Z8 (f (2 * k)), Z8 (vl (f (2 * k))), .string (st f 64), .int .i64 ((k : Nat) : Int), .int .i64 ((2 * k : Nat) : Int), .int .i64 (((2 * k) + 1 : Nat) : Int), Z8 (f ((2 * k) + 1)), Z8 (vl (f ((2 * k) + 1))), Z8 (al f k), Z8 (vl (f (2 * k))), Z8 (vl (f ((2 * k) + 1))), Z8 (o8 (vl (f (2 * k))) (vl (f ((2 * k) + 1)))), Z8 (o8 (al f k) (o8 (vl (f (2 * k))) (vl (f ((2 * k) + 1))))), .int .i64 ((k : Nat) : Int), Z8 (vl (f (2 * k))), Z8 ((vl (f (2 * k))) * 16 % 256), Z8 (vl (f ((2 * k) + 1))), Z8 (o8 ((vl (f (2 * k))) * 16 % 256) (vl (f ((2 * k) + 1)))), PT γ2_0 k, .int .i64 ((k + 1 : Nat) : Int)]), rfl, ⟨H13.out.1, H13.out.2⟩, by omega⟩, by omega⟩
  have hkN : k = 32 := by omega
  subst hkN
  refine wp_seq ?_
  refine walk_seqB 1 [.quiet (.bool false)] H6 ?ho12 ?he12
  case ho12 => exact ak (by refine fun γ => ⟨rfl, fun w' h => ?_⟩; clear h; go_simp <;> omega) trivial
  intro _ w14 H14
  clear H6
  refine rest0 rfl (then_normal (wp_seq (wp_cond_false rfl ?_)))
  refine wp_exit ?_
  repeat refine then_exit ?_
  refine block_exit ?_
  refine then_normal (wp_seq (wp_seq ?_))
  refine walk_seqB 3 [.quiet (Z8 (al f 32)), .quiet (Z8 ((al f 32 &&& 16) % 256)), .quiet (.bool true)] H14 ?ho13 ?he13
  case ho13 => exact ak (fun _ => ⟨rfl, fun _ _ => rfl⟩) (ak (fun γ => ⟨rfl, fun w' _ => ex_and16 rfl rfl rfl⟩) (ak (fun γ => ⟨rfl, fun w' _ => ex_ne0 (hr.out) rfl rfl rfl⟩) trivial))
  intro _ w15 H15
  clear H14
  refine rest0 rfl (then_normal (wp_cond_true rfl (wp_seq ?_)))
  refine walk_seqB 1 [.quiet (.agg (ints .u8 (fun _ => 0) 32).toArray)] H15 ?ho14 ?he14
  case ho14 => exact ak (fun γ => ⟨rfl, fun w' _ => ex_bz25 rfl⟩) trivial
  intro _ w16 H16
  clear H15
  refine rest_at (l := [1, 2]) rfl ?_
  refine rest_store rfl rfl rfl (ex_storeT (vs := ints .u8 (fun _ => 0) 32) H16.out.1 1 rfl rfl rfl rfl (by rw [ints_len]; exact Tryd.sizeOf25) (ints_all _ _ _) (by simp [ints_len])) ?_
  have H17 : Hid (Mm (w16.setCells γ1_0 0 (ints .u8 (fun _ => 0) 32)) [(γ2_0, ints .u8 (pa f 32) 32), (γ1_0, ints .u8 (fun _ => 0) 32)] ∧ Below w.heap.size w (w16.setCells γ1_0 0 (ints .u8 (fun _ => 0) 32))) := ⟨by
    have h := H16.out.1.put 1 (off := 0) (vs := ints .u8 (fun _ => 0) 32) rfl (by simp [ints_len])
    rw [ints_patch0 _ _ _ _] at h
    exact h, below_setCells _ o1_0.out _ _ _ H16.out.2⟩
  clear H16
  generalize hgw : World.setCells _ _ _ _ = w17 at H17 ⊢
  clear hgw
  refine rest_set (d := 3) rfl rfl rfl rfl ?_
  simp only [Act.put, sa, sz, ss]
  refine rest_nil (then_normal (wp_ret ?_))
  repeat (first | refine then_ret ?_ | refine block_ret ?_)
  have hf0 := var_T H17.out.1 1 rfl Tryd.isAgg25 Tryd.sizeOf25 (ints_len _ _ _)
  refine bodyPost_ret (v := .tuple #[.agg (ints .u8 (fun _ => 0) 32).toArray, .int .i64 4]) (by simp [results, Tryd.results15, asAddr, Act.eval, hf0]) rfl ?_
  exact ⟨rfl, H17.out.2⟩
set_option maxHeartbeats 1000000 in
set_option maxRecDepth 100000 in
theorem Parse_ok (f : Nat → Nat) (hf0 : ∀ j, f j < 256) (hr0 : decide ((al f 32 &&& 16) % 256 ≠ 0) = false) (w : World) :
    Calls Tryd.prog 15 #[.string (st f 64)] w fun e w' => e = .returned (.tuple #[.agg (ints .u8 (pa f 32) 32).toArray, .int .i64 0]) ∧ Below w.heap.size w w' := by
  have H0 : Hid (_ ∧ _) := ⟨Mm.nil w, Below.refl w.heap.size w⟩
  have hf : Hid (∀ j, f j < 256) := hf0
  clear hf0
  have hr : Hid _ := hr0
  clear hr0
  go_enter Tryd.func15, Tryd.ntmps15
  refine wp_seq ?_
  refine walk_seqA 2 [.made (ints .u8 (fun _ => 0) 32) 25, .quiet (.int .i64 0)] (sB H0) ?ho1 ?he1
  case ho1 => exact ak (fun γ => ⟨rfl, fun w' => ex_mk25 rfl⟩) (ak (fun _ => ⟨rfl, fun _ _ => rfl⟩) trivial)
  intro γ w1 l hM hl
  have H1 : Hid (Mm w1 [(γ 0, ints .u8 (fun _ => 0) 32)] ∧ _) := growB H0 hM (Nat.le_refl _) hl [0] rfl (by decide)
  have o1_0 := ownB H0 hM (Nat.le_refl _) hl (i := 0) rfl
  clear hM hl l
  generalize γ 0 = γ1_0 at H1 o1_0 ⊢
  clear γ
  refine rest0 rfl (then_normal (wp_seq ?_))
  refine walk_seqA 1 [.made (ints .u8 (fun _ => 0) 32) 25] (sB H1) ?ho2 ?he2
  case ho2 => exact ak (fun γ => ⟨rfl, fun w' => ex_mk25 rfl⟩) trivial
  intro γ w2 l hM hl
  have H2 : Hid (Mm w2 [(γ 0, ints .u8 (fun _ => 0) 32), (γ1_0, ints .u8 (fun _ => 0) 32)] ∧ _) := growB H1 hM (Nat.le_refl _) hl [0] rfl (by decide)
  have o2_0 := ownB H1 hM (Nat.le_refl _) hl (i := 0) rfl
  clear hM hl l H1
  generalize γ 0 = γ2_0 at H2 o2_0 ⊢
  clear γ
  refine rest0 rfl (then_normal (wp_seq (wp_seq ?_)))
  refine walk_seqB 3 [.quiet (.string (st f 64)), .quiet (.int .i64 ((64 : Nat) : Int)), .quiet (.bool false)] H2 ?ho3 ?he3
  case ho3 => exact ak (fun _ => ⟨rfl, fun _ _ => rfl⟩) (ak (fun γ => ⟨rfl, fun w' _ => ex_lenS rfl rfl⟩) (ak (by refine fun γ => ⟨rfl, fun w' h => ?_⟩; clear h; go_simp <;> omega) trivial))
  intro _ w3 H3
  clear H2
  refine rest0 rfl (then_normal (wp_cond_false rfl ?_))
  refine wp_skip (then_normal (wp_seq ?_))
  refine walk_seqB 1 [.quiet (.int .u8 0)] H3 ?ho4 ?he4
  case ho4 => exact ak (fun _ => ⟨rfl, fun _ _ => rfl⟩) trivial
  intro _ w4 H4
  clear H3
  refine rest0 rfl (then_normal (wp_seq (wp_seq ?_)))
  refine walk_seqB 1 [.quiet (.int .i64 0)] H4 ?ho5 ?he5
  case ho5 => exact ak (fun _ => ⟨rfl, fun _ _ => rfl⟩) trivial
  intro _ w5 H5
  clear H4
  refine rest0 rfl (then_normal (wp_block ?_))
  refine loop_ghost (α := Nat) (fun k a' w' => ∃ s0 : Nat → Value, a' = ⟨#[.string (st f 64), undef, PT γ1_0 0, .int .i64 0, PT γ2_0 0, Z8 (al f k), s0 6, s0 7, s0 8, .string (st f 64), .int .i64 ((64 : Nat) : Int), .bool false, undef, .int .i64 ((k : Nat) : Int), s0 14, s0 15, s0 16, s0 17, s0 18, s0 19, s0 20, s0 21, s0 22, s0 23, s0 24, s0 25, s0 26, s0 27, s0 28, s0 29, s0 30, s0 31, s0 32, s0 33, s0 34, s0 35, s0 36, s0 37, s0 38, undef, undef, undef, undef, undef], []⟩ ∧ (Mm w' [(γ2_0, ints .u8 (pa f k) 32), (γ1_0, ints .u8 (fun _ => 0) 32)] ∧ Below w.heap.size w w') ∧ k ≤ 32) (fun k => 32 - k) 0 ?st0 ?rd0
  case st0 => exact ⟨(slotfn [undef, undef, undef, undef, undef, undef, undef, undef, undef, undef, undef, undef, undef, undef, undef, undef, undef, undef, undef, undef, undef, undef, undef, undef, undef, undef, undef, undef, undef, undef, undef, undef, undef, undef, undef, undef, undef, undef, undef]), rfl, ⟨H5.out.1, H5.out.2⟩, by omega⟩
  intro k a' w6 hI
  obtain ⟨s0, rfl, hMB, hk0⟩ := hI
  have H6 : Hid (_ ∧ _) := hMB
  clear hMB H5
  by_cases hltk : k < 32
  · have hrd : True := trivial
    clear hrd
    refine wp_seq ?_
    refine walk_seqB 1 [.quiet (.bool true)] H6 ?ho6 ?he6
    case ho6 => exact ak (by refine fun γ => ⟨rfl, fun w' h => ?_⟩; clear h; go_simp <;> omega) trivial
    intro _ w7 H7
    clear H6
    refine rest0 rfl (then_normal (wp_seq ?_))
    refine wp_cond_true rfl (wp_skip ?_)
    refine then_normal (wp_seq ?_)
    refine wp_block (wp_seq ?_)
    refine walk_seqB 2 [.quiet (.int .i64 ((k : Nat) : Int)), .quiet (.int .i64 ((k : Nat) : Int))] H7 ?ho7 ?he7
    case ho7 => exact ak (fun _ => ⟨rfl, fun _ _ => rfl⟩) (ak (fun _ => ⟨rfl, fun _ _ => rfl⟩) trivial)
    intro _ w8 H8
    clear H7
    refine rest0 rfl (then_normal (wp_seq ?_))
    refine walk_anyB 13 [.quiet (.string (st f 64)), .quiet (.int .i64 ((k : Nat) : Int)), .quiet (.int .i64 ((2 * k : Nat) : Int)), .quiet (Z8 (f (2 * k))), .call (Z8 (vl (f (2 * k)))), .quiet (.string (st f 64)), .quiet (.int .i64 ((k : Nat) : Int)), .quiet (.int .i64 ((2 * k : Nat) : Int)), .quiet (.int .i64 (((2 * k) + 1 : Nat) : Int)), .quiet (Z8 (f ((2 * k) + 1))), .call (Z8 (vl (f ((2 * k) + 1)))), .quiet (Z8 (vl (f (2 * k)))), .quiet (Z8 (vl (f ((2 * k) + 1))))] H8 ?ho8 ?he8
    case ho8 => exact ak (fun _ => ⟨rfl, fun _ _ => rfl⟩) (ak (fun _ => ⟨rfl, fun _ _ => rfl⟩) (ak (by refine fun γ => ⟨rfl, fun w' h => ?_⟩; clear h; go_simp; rw [IntKind.wrap_i64]; omega) (ak (fun γ => ⟨rfl, fun w' _ => ex_atS (j := 2 * k) (n := 64) hf.out rfl rfl rfl (by omega)⟩) (ak (fun γ => ⟨rfl, fun w' h => ⟨37, #[Z8 (f (2 * k))], exec_call rfl call37 rfl (mpn rfl), value_any (f (2 * k)) (hf.out _) w'⟩⟩) (ak (fun _ => ⟨rfl, fun _ _ => rfl⟩) (ak (fun _ => ⟨rfl, fun _ _ => rfl⟩) (ak (by refine fun γ => ⟨rfl, fun w' h => ?_⟩; clear h; go_simp; rw [IntKind.wrap_i64]; omega) (ak (by refine fun γ => ⟨rfl, fun w' h => ?_⟩; clear h; go_simp; rw [IntKind.wrap_i64]; omega) (ak (fun γ => ⟨rfl, fun w' _ => ex_atS (j := (2 * k) + 1) (n := 64) hf.out rfl rfl rfl (by omega)⟩) (ak (fun γ => ⟨rfl, fun w' h => ⟨37, #[Z8 (f ((2 * k) + 1))], exec_call rfl call37 rfl (mpn rfl), value_any (f ((2 * k) + 1)) (hf.out _) w'⟩⟩) (ak (fun _ => ⟨rfl, fun _ _ => rfl⟩) (ak (fun _ => ⟨rfl, fun _ _ => rfl⟩) trivial))))))))))))
    intro _ w9 H9
    clear H8
    refine rest0 rfl (then_normal (wp_seq ?_))
    refine walk_seqB 5 [.quiet (Z8 (al f k)), .quiet (Z8 (vl (f (2 * k)))), .quiet (Z8 (vl (f ((2 * k) + 1)))), .quiet (Z8 (o8 (vl (f (2 * k))) (vl (f ((2 * k) + 1))))), .quiet (Z8 (o8 (al f k) (o8 (vl (f (2 * k))) (vl (f ((2 * k) + 1))))))] H9 ?ho9 ?he9
    case ho9 => exact ak (fun _ => ⟨rfl, fun _ _ => rfl⟩) (ak (fun _ => ⟨rfl, fun _ _ => rfl⟩) (ak (fun _ => ⟨rfl, fun _ _ => rfl⟩) (ak (fun γ => ⟨rfl, fun w' _ => ex_or8 (a := vl (f (2 * k))) (b := vl (f ((2 * k) + 1))) rfl rfl rfl⟩) (ak (fun γ => ⟨rfl, fun w' _ => ex_or8 (a := al f k) (b := o8 (vl (f (2 * k))) (vl (f ((2 * k) + 1)))) rfl rfl rfl⟩) trivial))))
    intro _ w10 H10
    clear H9
    refine rest_at (l := [5]) rfl ?_
    refine rest_set (d := 5) rfl rfl rfl rfl ?_
    simp only [Act.put, sa, sz, ss]
    refine rest_nil (then_normal ?_)
    refine walk_seqB 6 [.quiet (.int .i64 ((k : Nat) : Int)), .quiet (Z8 (vl (f (2 * k)))), .quiet (Z8 ((vl (f (2 * k))) * 16 % 256)), .quiet (Z8 (vl (f ((2 * k) + 1)))), .quiet (Z8 (o8 ((vl (f (2 * k))) * 16 % 256) (vl (f ((2 * k) + 1))))), .quiet (PT γ2_0 k)] H10 ?ho10 ?he10
    case ho10 => exact ak (fun _ => ⟨rfl, fun _ _ => rfl⟩) (ak (fun _ => ⟨rfl, fun _ _ => rfl⟩) (ak (fun γ => ⟨rfl, fun w' _ => ex_shl4 rfl rfl rfl⟩) (ak (fun _ => ⟨rfl, fun _ _ => rfl⟩) (ak (fun γ => ⟨rfl, fun w' _ => ex_or8 (a := (vl (f (2 * k))) * 16 % 256) (b := vl (f ((2 * k) + 1))) rfl rfl rfl⟩) (ak (fun γ => ⟨rfl, fun w' _ => ex_ix0_25 (j := k) rfl rfl rfl (by omega)⟩) trivial)))))
    intro _ w11 H11
    clear H10
    refine rest_at (l := [6]) rfl ?_
    refine rest_store rfl rfl rfl (ex_storeI H11.out.1 0 rfl rfl Tryd.sizeOf5 rfl rfl (by rw [ints_len]; omega)) ?_
    have H12 : Hid (Mm (w11.setCells γ2_0 k ([Z8 (o8 ((vl (f (2 * k))) * 16 % 256) (vl (f ((2 * k) + 1))))])) [(γ2_0, ints .u8 (up (pa f k) k (o8 ((vl (f (2 * k))) * 16 % 256) (vl (f ((2 * k) + 1))))) 32), (γ1_0, ints .u8 (fun _ => 0) 32)] ∧ Below w.heap.size w (w11.setCells γ2_0 k ([Z8 (o8 ((vl (f (2 * k))) * 16 % 256) (vl (f ((2 * k) + 1))))]))) := ⟨by
      have h := H11.out.1.put 0 (off := k) (vs := [Z8 (o8 ((vl (f (2 * k))) * 16 % 256) (vl (f ((2 * k) + 1))))]) rfl (by rw [ints_len]; simp only [List.length_cons, List.length_nil]; omega)
      rw [ints_patch _ _ _ _ (by omega)] at h
      exact h, below_setCells _ o2_0.out _ _ _ H11.out.2⟩
    clear H11
    generalize hgw : World.setCells _ _ _ _ = w12 at H12 ⊢
    clear hgw
    refine rest_nil (block_normal (then_normal ?_))
    refine walk_seqB 1 [.quiet (.int .i64 ((k + 1 : Nat) : Int))] H12 ?ho11 ?he11
    case ho11 => exact ak (by refine fun γ => ⟨rfl, fun w' h => ?_⟩; clear h; go_simp; rw [IntKind.wrap_i64]; omega) trivial
    intro _ w13 H13
    clear H12
    refine rest_at (l := [1]) rfl ?_
    refine rest_set (d := 13) rfl rfl rfl rfl ?_
    simp only [Act.put, sa, sz, ss]
    refine rest_nil (then_normal ?_)
    exact ⟨k + 1, ⟨(slotfn [undef, undef, undef, undef, undef, undef, .int .i64 ((k : Nat) : Int), Z8 (vl (f (2 * k))), Z8 (vl (f ((2 * k) + 1))), undef, undef, undef, undef, undef, .bool true, .int .i64 ((k : Nat) : Int), .string (st f 64), .int .i64 ((k : Nat) : Int), .int .i64 ((2 * k : Nat) : Int), Z8 (f (2 * k)), Z8 (vl (f (2 * k))), .string (st f 64), .int .i64 ((k : Nat) : Int), .int .i64 ((2 * k : Nat) : Int), .int .i64 (((2 * k) + 1 : Nat) : Int), Z8 (f ((2 * k) + 1)), Z8 (vl (f ((2 * k) + 1))), Z8 (al f k), Z8 (vl (f (2 * k))), Z8 (vl (f ((2 * k) + 1))), Z8 (o8 (vl (f (2 * k))) (vl (f ((2 * k) + 1)))), Z8 (o8 (al f k) (o8 (vl (f (2 * k))) (vl (f ((2 * k) + 1))))), .int .i64 ((k : Nat) : Int), Z8 (vl (f (2 * k))), Z8 ((vl (f (2 * k))) * 16 % 256), Z8 (vl (f ((2 * k) + 1))), Z8 (o8 ((vl (f (2 * k))) * 16 % 256) (vl (f ((2 * k) + 1)))), PT γ2_0 k, .int .i64 ((k + 1 : Nat) : Int)]), rfl, ⟨H13.out.1, H13.out.2⟩, by omega⟩, by omega⟩
  have hkN : k = 32 := by omega
  subst hkN
  refine wp_seq ?_
  refine walk_seqB 1 [.quiet (.bool false)] H6 ?ho12 ?he12
  case ho12 => exact ak (by refine fun γ => ⟨rfl, fun w' h => ?_⟩; clear h; go_simp <;> omega) trivial
  intro _ w14 H14
  clear H6
  refine rest0 rfl (then_normal (wp_seq (wp_cond_false rfl ?_)))
  refine wp_exit ?_
  repeat refine then_exit ?_
  refine block_exit ?_
  refine then_normal (wp_seq (wp_seq ?_))
  refine walk_seqB 3 [.quiet (Z8 (al f 32)), .quiet (Z8 ((al f 32 &&& 16) % 256)), .quiet (.bool false)] H14 ?ho13 ?he13
  case ho13 => exact ak (fun _ => ⟨rfl, fun _ _ => rfl⟩) (ak (fun γ => ⟨rfl, fun w' _ => ex_and16 rfl rfl rfl⟩) (ak (fun γ => ⟨rfl, fun w' _ => ex_ne0 (hr.out) rfl rfl rfl⟩) trivial))
  intro _ w15 H15
  clear H14
  refine rest0 rfl (then_normal (wp_cond_false rfl ?_))
  refine wp_skip (then_normal (wp_seq ?_))
  refine walk_seqB 1 [.quiet (.agg (ints .u8 (pa f 32) 32).toArray)] H15 ?ho14 ?he14
  case ho14 => exact ak (fun γ => ⟨rfl, fun w' h => ex_loadT h 0 rfl rfl rfl Tryd.isAgg25 Tryd.sizeOf25 (ints_whole _ _ _) (ints_len _ _ _)⟩) trivial
  intro _ w16 H16
  clear H15
  refine rest_at (l := [1, 2]) rfl ?_
  refine rest_store rfl rfl rfl (ex_storeT (vs := ints .u8 (pa f 32) 32) H16.out.1 1 rfl rfl rfl rfl (by rw [ints_len]; exact Tryd.sizeOf25) (ints_all _ _ _) (by simp [ints_len])) ?_
  have H17 : Hid (Mm (w16.setCells γ1_0 0 (ints .u8 (pa f 32) 32)) [(γ2_0, ints .u8 (pa f 32) 32), (γ1_0, ints .u8 (pa f 32) 32)] ∧ Below w.heap.size w (w16.setCells γ1_0 0 (ints .u8 (pa f 32) 32))) := ⟨by
    have h := H16.out.1.put 1 (off := 0) (vs := ints .u8 (pa f 32) 32) rfl (by simp [ints_len])
    rw [ints_patch0 _ _ _ _] at h
    exact h, below_setCells _ o1_0.out _ _ _ H16.out.2⟩
  clear H16
  generalize hgw : World.setCells _ _ _ _ = w17 at H17 ⊢
  clear hgw
  refine rest_set (d := 3) rfl rfl rfl rfl ?_
  simp only [Act.put, sa, sz, ss]
  refine rest_nil (then_normal (wp_ret ?_))
  repeat (first | refine then_ret ?_ | refine block_ret ?_)
  have hf0 := var_T H17.out.1 1 rfl Tryd.isAgg25 Tryd.sizeOf25 (ints_len _ _ _)
  refine bodyPost_ret (v := .tuple #[.agg (ints .u8 (pa f 32) 32).toArray, .int .i64 0]) (by simp [results, Tryd.results15, asAddr, Act.eval, hf0]) rfl ?_
  exact ⟨rfl, H17.out.2⟩
end Rg
end Go.Proofs.YtfboipfpnkngdaaDoor
end
