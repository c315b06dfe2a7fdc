/- Texts of the proof, joined. -/
import Derived.Test.YtolflfjfegngnaaDoorP2
import Derived.Lib.SliceRun
import Derived.Laws.AppendOwn
import Derived.Laws.OwnMore
section
namespace Go.Proofs.YtolflfjfegngnaaDoor
open Go.RowKit
namespace Rg
set_option maxRecDepth 100000
theorem rest_drop {P : Program} {Q : Exit → Act → World → Prop} {full : Array Oper} {a : Act} {w : World} {i : Nat} {r : List Nat} {o : Oper} {v : Value} {w' : World} (ho : full[i]? = some o) (hd : o.dst = none) (hw : Region.wanted o (yielded full a.tmps) = true) (hx : (execOp a.eval o).run P w = .ok (.value v) w') (h : wpOps P full Q r a w') : wpOps P full Q (i :: r) a w :=
  rest_value ho hw hx (by rw [hd]; exact h)
def cl (r : Nat → Nat) (k : Nat) : Nat → Nat := fun j => if k ≤ j then 0 else r j
theorem rep_ints (n : Nat) : List.replicate n (Value.int .u8 0) = ints .u8 (fun _ => 0) n := by
  apply List.ext_getElem?
  intro j
  by_cases h : j < n
  · rw [ints_get _ _ h, List.getElem?_replicate, if_pos h]; rfl
  · rw [ints_none _ _ (by omega), List.getElem?_eq_none (by simp; omega)]
theorem cl_part (r : Nat → Nat) (k : Nat) (m : Bool) (s : Nat → Nat) (c : Nat) : hs m s (fun j => if k ≤ j ∧ j < k + (64 - k) then (fun _ => 0) (j - k) else r j) c = hs m s (cl r k) c := by
  refine hs_ext (hs_len _ _ _ _) (hs_made _ _ _ _) (fun j hj => hs_word _ _ _ _ hj) (fun j hj => ?_) (hs_count _ _ _ _)
  rw [hs_rest _ _ _ _ hj]
  unfold cl
  by_cases h : k ≤ j
  · rw [if_pos h, if_pos (by omega)]
  · rw [if_neg h, if_neg (by omega)]
section
variable {ρ : Operand → Value} {o : Oper} {x : Operand} {g k c : Nat} {w : World}
theorem ex_slA64 {y : Operand} (ho : o.op = .slice 55 x (some y) none none) (hx : ρ x = PT g 9) (hy : ρ y = .int .i64 ((k : Nat) : Int)) (hk : k = 64) : (execOp ρ o).run Tryd.prog w = .ok (.value (.slice (some ⟨g, 9, none⟩) 0 0)) w := by
  subst hk
  simp only [execOp, ho, hx, hy, Option.map_some, Option.map_none]
  clear ho hx hy
  go_simp
theorem ex_sl56 (ho : o.op = .slice 55 x (some (.const (.int .i64 56))) none none) (hx : ρ x = PT g 9) (hy : ρ (.const (.int .i64 56)) = .int .i64 56) : (execOp ρ o).run Tryd.prog w = .ok (.value (.slice (some ⟨g, 65, none⟩) 8 8)) w := by
  simp only [execOp, ho, hx, hy, Option.map_some, Option.map_none]
  clear ho hx hy
  go_simp
theorem ex_sl81 (ho : o.op = .slice 81 x none none none) (hx : ρ x = PT g 0) : (execOp ρ o).run Tryd.prog w = .ok (.value (.slice (some ⟨g, 0, none⟩) 8 8)) w := by
  simp only [execOp, ho, hx, Option.map_none]
  clear ho hx
  go_simp
theorem ex_clear0 {p : Option Addr} (ho : o.op = .call { callee := .builtin .clear, args := #[x], argTypes := #[22] }) (hx : ρ x = .slice p 0 0) : (execOp ρ o).run Tryd.prog w = .ok (.value (.tuple #[])) w := by
  have hr : (Builtin.clear_ #[22] o.type #[.slice p 0 0]).run Tryd.prog w = .ok (.tuple #[]) w := by
    cases p <;> simp [Builtin.clear_, run_underlying Tryd.underlying22]
  unfold execOp
  simp only [ho, resolve, invoke, builtin, Sem.run_bind, Sem.run_pure, Result.andThen_ok, List.map_toArray, List.map_cons, List.map_nil, hx, hr]
theorem zero5 (w : World) : (zeroValue 5).run Tryd.prog w = .ok (.int .u8 0) w := by kernel_rfl
theorem ex_clear {m : Bool} {s r : Nat → Nat} {l : List (Nat × List Value)} (h : Mm w l) (q : Nat) (hk : l[q]? = some (g, hs m s r c)) (h64 : k < 64)
    (ho : o.op = .call { callee := .builtin .clear, args := #[x], argTypes := #[22] }) (hx : ρ x = .slice (some ⟨g, 9 + k, none⟩) (64 - k) (64 - k)) : (execOp ρ o).run Tryd.prog w = .ok (.value (.tuple #[])) (w.setCells g (9 + k) (ints .u8 (fun _ => 0) (64 - k))) := by
  have hmem := List.mem_of_getElem? hk
  have hcell : ∀ j, j < 64 - k → ∃ u, (hs m s r c)[9 + k + j]? = some u := fun j hj => ⟨_, List.getElem?_eq_getElem (by rw [hs_len]; omega)⟩
  have hr : (Builtin.clear_ #[22] o.type #[.slice (some ⟨g, 9 + k, none⟩) (64 - k) (64 - k)]).run Tryd.prog w = .ok (.tuple #[]) (w.setCells g (9 + k) (List.replicate (64 - k) (.int .u8 0))) :=
    Lib.run_clear_slice w 22 5 o.type (.int .u8 0) Tryd.underlying22 zero5 rfl rfl g (9 + k) (64 - k) (64 - k) (by omega)
      (fun j hj => by
        obtain ⟨u, hu⟩ := hcell j hj
        rw [h.cell hmem hu]; rfl)
      (fun j hj => by
        obtain ⟨u, hu⟩ := hcell j hj
        exact h.free hmem hu)
  rw [rep_ints] at hr
  clear h hk hcell hmem
  unfold execOp
  simp only [ho, resolve, invoke, builtin, Sem.run_bind, Sem.run_pure, Result.andThen_ok, List.map_toArray, List.map_cons, List.map_nil, hx, hr]
end
theorem call51 : ∀ args w, (callFunc 51 args).run Tryd.prog w = .ok (.enter 51 args) w := by intro args w; go_simp
theorem call59 : ∀ args w, (callFunc 59 args).run Tryd.prog w = .ok (.enter 59 args) w := by intro args w; go_simp
set_option maxHeartbeats 4000000 in
set_option maxRecDepth 100000 in
theorem finish_A (m : Bool) (s r : Nat → Nat) (c : Nat) (hc : c % 64 < 56) (w : World) (hm : Mm w [(1, ints .u32 kT 64)]) :
    Calls Tryd.prog 46 #[.agg (hs m s r c).toArray] w fun e w' => e = .returned (.agg (ints .u8 (bo (mx s (pr8 (cl (up r (c % 64) 128) ((c % 64) + 1)) 56 8 (e8 (c64 (8 * c)) 8))) 8) 32).toArray) ∧ Below w.heap.size w w' := by
  have H0 : Hid (_ ∧ _) := ⟨hm, Below.refl w.heap.size w⟩
  clear hm
  go_enter Tryd.func46, Tryd.ntmps46
  refine wp_seq ?_
  refine walk_seqA 2 [.made (hs m s r c) 58, .made (ints .u8 (fun _ => 0) 32) 25] (sB H0) ?ho1 ?he1
  case ho1 => exact ak (fun γ => ⟨rfl, fun w' => ex_boxT rfl rfl⟩) (ak (fun γ => ⟨rfl, fun w' => ex_mk25 rfl⟩) trivial)
  intro γ w1 l hM hl
  have H1 : Hid (Mm w1 [(γ 0, hs m s r c), (γ 1, ints .u8 (fun _ => 0) 32), (1, ints .u32 kT 64)] ∧ _) := growB H0 hM (Nat.le_refl _) hl [0, 1] rfl (by decide)
  have o1_0 := ownB H0 hM (Nat.le_refl _) hl (i := 0) rfl
  have o1_1 := ownB H0 hM (Nat.le_refl _) hl (i := 1) rfl
  clear hM hl l
  generalize γ 0 = γ1_0 at H1 o1_0 ⊢
  generalize γ 1 = γ1_1 at H1 o1_1 ⊢
  clear γ
  refine rest0 rfl (then_normal (wp_seq ?_))
  refine walk_seqA 6 [.quiet (PT γ1_0 73), .quiet (U c), .quiet (U (c64 (8 * c))), .call (.agg (ints .u8 (e8 (c64 (8 * c)) 8) 8).toArray), .made (ints .u8 (fun _ => 0) 8) 81, .laid 4 (ints .u8 (fun _ => 0) 8) (ints .u8 (e8 (c64 (8 * c)) 8) 8)] (sB H1) ?ho2 ?he2 (hL := ?hL2)
  case hL2 => exact ⟨⟨_, rfl⟩, trivial⟩
  case ho2 => exact ak (by refine fun γ => ⟨rfl, fun w' h => ?_⟩; clear h; go_simp) (ak (fun γ => ⟨rfl, fun w' h => ex_loadC h 0 rfl rfl rfl Tryd.isAgg56 (hs_count _ _ _ _)⟩) (ak (fun γ => ⟨rfl, fun w' _ => ex_mul64 rfl rfl rfl⟩) (ak (fun γ => ⟨rfl, fun w' h => ⟨51, #[U (c64 (8 * c))], exec_call rfl call51 rfl (mpn rfl), eight_any (c64 (8 * c)) w'⟩⟩) (ak (fun γ => ⟨rfl, fun w' => ex_mk81 rfl⟩) (ak (fun γ => ⟨rfl, rfl, (ints_len _ _ _).trans (ints_len _ _ _).symm, fun w' h => ex_laidI h Tryd.sizeOf81 rfl rfl rfl⟩) trivial)))))
  intro γ w2 l hM hl
  have H2 : Hid (Mm w2 [(γ 4, ints .u8 (e8 (c64 (8 * c)) 8) 8), (γ1_0, hs m s r c), (γ1_1, ints .u8 (fun _ => 0) 32), (1, ints .u32 kT 64)] ∧ _) := growB H1 hM (Nat.le_refl _) hl [4] rfl (by decide)
  have o2_4 := ownB H1 hM (Nat.le_refl _) hl (i := 4) rfl
  clear hM hl l H1
  generalize γ 4 = γ2_4 at H2 o2_4 ⊢
  clear γ
  refine rest0 rfl (then_normal (wp_seq ?_))
  refine walk_seqB 2 [.call (.int .i64 ((c % 64 : Nat) : Int)), .quiet (.int .i64 ((c % 64 : Nat) : Int))] H2 ?ho3 ?he3
  case ho3 => exact ak (fun γ => ⟨rfl, fun w' h => ⟨57, #[PT γ1_0 0], exec_call rfl call57 rfl (mpn rfl), filled_any _ _ _ _ _ w' (h.one 1 rfl)⟩⟩) (ak (fun _ => ⟨rfl, fun _ _ => rfl⟩) trivial)
  intro _ w3 H3
  clear H2
  refine rest0 rfl (then_normal (wp_seq ?_))
  refine walk_seqB 3 [.quiet (.int .i64 ((c % 64 : Nat) : Int)), .quiet (PT γ1_0 9), .quiet (PT γ1_0 (9 + c % 64))] H3 ?ho4 ?he4
  case ho4 => exact ak (fun _ => ⟨rfl, fun _ _ => rfl⟩) (ak (by refine fun γ => ⟨rfl, fun w' h => ?_⟩; clear h; go_simp) (ak (fun γ => ⟨rfl, fun w' _ => ex_ix_55 (j := c % 64) rfl rfl rfl (by omega)⟩) trivial))
  intro _ w4 H4
  clear H3
  refine rest_at (l := [3]) rfl ?_
  refine rest_store rfl rfl rfl (ex_storeI (v := ((128 : Nat) : Int)) H4.out.1 1 rfl rfl Tryd.sizeOf5 rfl rfl (by rw [hs_len]; omega)) ?_
  have H5 : Hid (Mm (w4.setCells γ1_0 (9 + c % 64) ([Z8 128])) [(γ2_4, ints .u8 (e8 (c64 (8 * c)) 8) 8), (γ1_0, hs m s (up r (c % 64) 128) c), (γ1_1, ints .u8 (fun _ => 0) 32), (1, ints .u32 kT 64)] ∧ Below w.heap.size w (w4.setCells γ1_0 (9 + c % 64) ([Z8 128]))) := ⟨by
    have h := H4.out.1.put 1 (off := (9 + c % 64)) (vs := [Z8 128]) rfl (by rw [hs_len]; simp only [List.length_cons, List.length_nil]; omega)
    rw [hs_put_byte _ _ _ _ _ _ (by omega)] at h
    exact h, below_setCells _ o1_0.out _ _ _ H4.out.2⟩
  clear H4
  generalize hgw : World.setCells _ _ _ _ = w5 at H5 ⊢
  clear hgw
  refine rest_nil (then_normal (wp_seq ?_))
  refine walk_seqB 4 [.quiet (PT γ1_0 9), .quiet (.int .i64 ((c % 64 : Nat) : Int)), .quiet (.int .i64 (((c % 64) + 1 : Nat) : Int)), .quiet (.slice (some ⟨γ1_0, (9 + ((c % 64) + 1)), none⟩) (64 - ((c % 64) + 1)) (64 - ((c % 64) + 1)))] H5 ?ho5 ?he5
  case ho5 => exact ak (by refine fun γ => ⟨rfl, fun w' h => ?_⟩; clear h; go_simp) (ak (fun _ => ⟨rfl, fun _ _ => rfl⟩) (ak (by refine fun γ => ⟨rfl, fun w' h => ?_⟩; clear h; go_simp; rw [IntKind.wrap_i64]; omega) (ak (fun γ => ⟨rfl, fun w' _ => ex_slA (k := (c % 64) + 1) rfl rfl rfl (by omega)⟩) trivial)))
  intro _ w6 H6
  clear H5
  refine rest_at (l := [4]) rfl ?_
  refine rest_drop rfl rfl rfl (ex_clear (k := (c % 64) + 1) H6.out.1 1 rfl (by omega) rfl rfl) ?_
  have H7 : Hid (Mm (w6.setCells γ1_0 (9 + ((c % 64) + 1)) (ints .u8 (fun _ => 0) (64 - ((c % 64) + 1)))) [(γ2_4, ints .u8 (e8 (c64 (8 * c)) 8) 8), (γ1_0, hs m s (cl (up r (c % 64) 128) ((c % 64) + 1)) c), (γ1_1, ints .u8 (fun _ => 0) 32), (1, ints .u32 kT 64)] ∧ Below w.heap.size w (w6.setCells γ1_0 (9 + ((c % 64) + 1)) (ints .u8 (fun _ => 0) (64 - ((c % 64) + 1))))) := ⟨by
    have h := H6.out.1.put 1 (off := (9 + ((c % 64) + 1))) (vs := (ints .u8 (fun _ => 0) (64 - ((c % 64) + 1)))) rfl (by rw [ints_len, hs_len]; omega)
    rw [hs_put_part _ _ _ _ _ _ _ (by omega), cl_part] at h
    exact h, below_setCells _ o1_0.out _ _ _ H6.out.2⟩
  clear H6
  generalize hgw : World.setCells _ _ _ _ = w7 at H7 ⊢
  clear hgw
  refine rest_nil (then_normal ?_)
  refine wp_seq (wp_seq ?_)
  refine walk_seqB 3 [.quiet (.int .i64 ((c % 64 : Nat) : Int)), .quiet (.int .i64 (((c % 64) + 1 : Nat) : Int)), .quiet (.bool false)] H7 ?ho6 ?he6
  case ho6 => exact ak (fun _ => ⟨rfl, fun _ _ => rfl⟩) (ak (by refine fun γ => ⟨rfl, fun w' h => ?_⟩; clear h; go_simp; rw [IntKind.wrap_i64]; omega) (ak (by refine fun γ => ⟨rfl, fun w' h => ?_⟩; clear h; go_simp <;> omega) trivial))
  intro _ w8 H8
  clear H7
  refine rest0 rfl (then_normal (wp_cond_false rfl ?_))
  refine wp_skip (then_normal (wp_seq ?_))
  refine walk_anyB 3 [.quiet (PT γ1_0 9), .quiet (.slice (some ⟨γ1_0, 65, none⟩) 8 8), .quiet (.slice (some ⟨γ2_4, 0, none⟩) 8 8)] H8 ?ho7 ?he7
  case ho7 => exact ak (by refine fun γ => ⟨rfl, fun w' h => ?_⟩; clear h; go_simp) (ak (fun γ => ⟨rfl, fun w' _ => ex_sl56 rfl rfl rfl⟩) (ak (fun γ => ⟨rfl, fun w' _ => ex_sl81 rfl rfl⟩) trivial))
  intro _ w9 H9
  clear H8
  refine rest_at (l := [3]) rfl ?_
  refine rest_set (d := 31) (v := .int .i64 ((8 : Nat) : Int)) (w' := w9.setCells γ1_0 (9 + 56) (ints .u8 (e8 (c64 (8 * c)) 8) 8)) rfl rfl rfl (ex_copy (kk := 56) H9.out.1 1 rfl (fun j hj => by have := H9.out.1.get 0 rfl j (ints_get .u8 (e8 (c64 (8 * c)) 8) hj); rwa [Nat.zero_add]) rfl (by decide) rfl rfl rfl) ?_
  simp only [Act.put, sa, sz, ss]
  have H10 : Hid (Mm (w9.setCells γ1_0 (9 + 56) (ints .u8 (e8 (c64 (8 * c)) 8) 8)) [(γ2_4, ints .u8 (e8 (c64 (8 * c)) 8) 8), (γ1_0, hs m s (pr8 (cl (up r (c % 64) 128) ((c % 64) + 1)) 56 8 (e8 (c64 (8 * c)) 8)) c), (γ1_1, ints .u8 (fun _ => 0) 32), (1, ints .u32 kT 64)] ∧ Below w.heap.size w (w9.setCells γ1_0 (9 + 56) (ints .u8 (e8 (c64 (8 * c)) 8) 8))) := ⟨by
    have h := H9.out.1.put 1 (off := (9 + 56)) (vs := (ints .u8 (e8 (c64 (8 * c)) 8) 8)) rfl (by rw [ints_len, hs_len]; omega)
    rw [hs_put_part _ _ _ _ _ _ _ (by decide)] at h
    exact h, below_setCells _ o1_0.out _ _ _ H9.out.2⟩
  clear H9
  generalize hgw : World.setCells _ _ _ _ = w10 at H10 ⊢
  clear hgw
  refine rest_nil (then_normal (wp_seq ?_))
  refine walk_seqB 6 [.quiet (PT γ1_0 1), .quiet (.agg (ints .u32 s 8).toArray), .quiet (PT γ1_0 9), .quiet (.agg (ints .u8 (pr8 (cl (up r (c % 64) 128) ((c % 64) + 1)) 56 8 (e8 (c64 (8 * c)) 8)) 64).toArray), .call (.agg (ints .u32 (mx s (pr8 (cl (up r (c % 64) 128) ((c % 64) + 1)) 56 8 (e8 (c64 (8 * c)) 8))) 8).toArray), .call (.agg (ints .u8 (bo (mx s (pr8 (cl (up r (c % 64) 128) ((c % 64) + 1)) 56 8 (e8 (c64 (8 * c)) 8))) 8) 32).toArray)] H10 ?ho8 ?he8
  case ho8 => exact ak (by refine fun γ => ⟨rfl, fun w' h => ?_⟩; clear h; go_simp) (ak (fun γ => ⟨rfl, fun w' h => ex_loadT h 1 rfl rfl rfl Tryd.isAgg53 Tryd.sizeOf53 (hs_words _ _ _ _) (ints_len _ _ _)⟩) (ak (by refine fun γ => ⟨rfl, fun w' h => ?_⟩; clear h; go_simp) (ak (fun γ => ⟨rfl, fun w' h => ex_loadT h 1 rfl rfl rfl Tryd.isAgg55 Tryd.sizeOf55 (hs_rests _ _ _ _) (ints_len _ _ _)⟩) (ak (fun γ => ⟨rfl, fun w' h => ⟨58, #[.agg (ints .u32 s 8).toArray, .agg (ints .u8 (pr8 (cl (up r (c % 64) 128) ((c % 64) + 1)) 56 8 (e8 (c64 (8 * c)) 8)) 64).toArray], exec_call rfl call58 rfl (mpn rfl), mix_any s (pr8 (cl (up r (c % 64) 128) ((c % 64) + 1)) 56 8 (e8 (c64 (8 * c)) 8)) w' (h.one 3 rfl)⟩⟩) (ak (fun γ => ⟨rfl, fun w' h => ⟨59, #[.agg (ints .u32 (mx s (pr8 (cl (up r (c % 64) 128) ((c % 64) + 1)) 56 8 (e8 (c64 (8 * c)) 8))) 8).toArray], exec_call rfl call59 rfl (mpn rfl), bytesOf_any (mx s (pr8 (cl (up r (c % 64) 128) ((c % 64) + 1)) 56 8 (e8 (c64 (8 * c)) 8))) w'⟩⟩) trivial)))))
  intro _ w11 H11
  clear H10
  refine rest_at (l := [6]) rfl ?_
  refine rest_store rfl rfl rfl (ex_storeT (vs := ints .u8 (bo (mx s (pr8 (cl (up r (c % 64) 128) ((c % 64) + 1)) 56 8 (e8 (c64 (8 * c)) 8))) 8) 32) H11.out.1 2 rfl rfl rfl rfl (by rw [ints_len]; exact Tryd.sizeOf25) (ints_all _ _ _) (by simp [ints_len])) ?_
  have H12 : Hid (Mm (w11.setCells γ1_1 0 (ints .u8 (bo (mx s (pr8 (cl (up r (c % 64) 128) ((c % 64) + 1)) 56 8 (e8 (c64 (8 * c)) 8))) 8) 32)) [(γ2_4, ints .u8 (e8 (c64 (8 * c)) 8) 8), (γ1_0, hs m s (pr8 (cl (up r (c % 64) 128) ((c % 64) + 1)) 56 8 (e8 (c64 (8 * c)) 8)) c), (γ1_1, ints .u8 (bo (mx s (pr8 (cl (up r (c % 64) 128) ((c % 64) + 1)) 56 8 (e8 (c64 (8 * c)) 8))) 8) 32), (1, ints .u32 kT 64)] ∧ Below w.heap.size w (w11.setCells γ1_1 0 (ints .u8 (bo (mx s (pr8 (cl (up r (c % 64) 128) ((c % 64) + 1)) 56 8 (e8 (c64 (8 * c)) 8))) 8) 32))) := ⟨by
    have h := H11.out.1.put 2 (off := 0) (vs := ints .u8 (bo (mx s (pr8 (cl (up r (c % 64) 128) ((c % 64) + 1)) 56 8 (e8 (c64 (8 * c)) 8))) 8) 32) rfl (by simp [ints_len])
    rw [ints_patch0 _ _ _ _] at h
    exact h, below_setCells _ o1_1.out _ _ _ H11.out.2⟩
  clear H11
  generalize hgw : World.setCells _ _ _ _ = w12 at H12 ⊢
  clear hgw
  refine rest_nil (then_normal (wp_ret ?_))
  repeat (first | refine then_ret ?_ | refine block_ret ?_)
  have hf0 := var_T H12.out.1 2 rfl Tryd.isAgg25 Tryd.sizeOf25 (ints_len _ _ _)
  refine bodyPost_ret (v := .agg (ints .u8 (bo (mx s (pr8 (cl (up r (c % 64) 128) ((c % 64) + 1)) 56 8 (e8 (c64 (8 * c)) 8))) 8) 32).toArray) (by simp [results, Tryd.results46, asAddr, hf0]) rfl ?_
  exact ⟨rfl, H12.out.2⟩
set_option maxHeartbeats 4000000 in
set_option maxRecDepth 100000 in
theorem finish_B (m : Bool) (s r : Nat → Nat) (c : Nat) (hc : 56 ≤ c % 64) (hd : c % 64 < 63) (w : World) (hm : Mm w [(1, ints .u32 kT 64)]) :
    Calls Tryd.prog 46 #[.agg (hs m s r c).toArray] w fun e w' => e = .returned (.agg (ints .u8 (bo (mx (mx s (cl (up r (c % 64) 128) ((c % 64) + 1))) (pr8 (fun _ => 0) 56 8 (e8 (c64 (8 * c)) 8))) 8) 32).toArray) ∧ Below w.heap.size w w' := by
  have H0 : Hid (_ ∧ _) := ⟨hm, Below.refl w.heap.size w⟩
  clear hm
  go_enter Tryd.func46, Tryd.ntmps46
  refine wp_seq ?_
  refine walk_seqA 2 [.made (hs m s r c) 58, .made (ints .u8 (fun _ => 0) 32) 25] (sB H0) ?ho1 ?he1
  case ho1 => exact ak (fun γ => ⟨rfl, fun w' => ex_boxT rfl rfl⟩) (ak (fun γ => ⟨rfl, fun w' => ex_mk25 rfl⟩) trivial)
  intro γ w1 l hM hl
  have H1 : Hid (Mm w1 [(γ 0, hs m s r c), (γ 1, ints .u8 (fun _ => 0) 32), (1, ints .u32 kT 64)] ∧ _) := growB H0 hM (Nat.le_refl _) hl [0, 1] rfl (by decide)
  have o1_0 := ownB H0 hM (Nat.le_refl _) hl (i := 0) rfl
  have o1_1 := ownB H0 hM (Nat.le_refl _) hl (i := 1) rfl
  clear hM hl l
  generalize γ 0 = γ1_0 at H1 o1_0 ⊢
  generalize γ 1 = γ1_1 at H1 o1_1 ⊢
  clear γ
  refine rest0 rfl (then_normal (wp_seq ?_))
  refine walk_seqA 6 [.quiet (PT γ1_0 73), .quiet (U c), .quiet (U (c64 (8 * c))), .call (.agg (ints .u8 (e8 (c64 (8 * c)) 8) 8).toArray), .made (ints .u8 (fun _ => 0) 8) 81, .laid 4 (ints .u8 (fun _ => 0) 8) (ints .u8 (e8 (c64 (8 * c)) 8) 8)] (sB H1) ?ho2 ?he2 (hL := ?hL2)
  case hL2 => exact ⟨⟨_, rfl⟩, trivial⟩
  case ho2 => exact ak (by refine fun γ => ⟨rfl, fun w' h => ?_⟩; clear h; go_simp) (ak (fun γ => ⟨rfl, fun w' h => ex_loadC h 0 rfl rfl rfl Tryd.isAgg56 (hs_count _ _ _ _)⟩) (ak (fun γ => ⟨rfl, fun w' _ => ex_mul64 rfl rfl rfl⟩) (ak (fun γ => ⟨rfl, fun w' h => ⟨51, #[U (c64 (8 * c))], exec_call rfl call51 rfl (mpn rfl), eight_any (c64 (8 * c)) w'⟩⟩) (ak (fun γ => ⟨rfl, fun w' => ex_mk81 rfl⟩) (ak (fun γ => ⟨rfl, rfl, (ints_len _ _ _).trans (ints_len _ _ _).symm, fun w' h => ex_laidI h Tryd.sizeOf81 rfl rfl rfl⟩) trivial)))))
  intro γ w2 l hM hl
  have H2 : Hid (Mm w2 [(γ 4, ints .u8 (e8 (c64 (8 * c)) 8) 8), (γ1_0, hs m s r c), (γ1_1, ints .u8 (fun _ => 0) 32), (1, ints .u32 kT 64)] ∧ _) := growB H1 hM (Nat.le_refl _) hl [4] rfl (by decide)
  have o2_4 := ownB H1 hM (Nat.le_refl _) hl (i := 4) rfl
  clear hM hl l H1
  generalize γ 4 = γ2_4 at H2 o2_4 ⊢
  clear γ
  refine rest0 rfl (then_normal (wp_seq ?_))
  refine walk_seqB 2 [.call (.int .i64 ((c % 64 : Nat) : Int)), .quiet (.int .i64 ((c % 64 : Nat) : Int))] H2 ?ho3 ?he3
  case ho3 => exact ak (fun γ => ⟨rfl, fun w' h => ⟨57, #[PT γ1_0 0], exec_call rfl call57 rfl (mpn rfl), filled_any _ _ _ _ _ w' (h.one 1 rfl)⟩⟩) (ak (fun _ => ⟨rfl, fun _ _ => rfl⟩) trivial)
  intro _ w3 H3
  clear H2
  refine rest0 rfl (then_normal (wp_seq ?_))
  refine walk_seqB 3 [.quiet (.int .i64 ((c % 64 : Nat) : Int)), .quiet (PT γ1_0 9), .quiet (PT γ1_0 (9 + c % 64))] H3 ?ho4 ?he4
  case ho4 => exact ak (fun _ => ⟨rfl, fun _ _ => rfl⟩) (ak (by refine fun γ => ⟨rfl, fun w' h => ?_⟩; clear h; go_simp) (ak (fun γ => ⟨rfl, fun w' _ => ex_ix_55 (j := c % 64) rfl rfl rfl (by omega)⟩) trivial))
  intro _ w4 H4
  clear H3
  refine rest_at (l := [3]) rfl ?_
  refine rest_store rfl rfl rfl (ex_storeI (v := ((128 : Nat) : Int)) H4.out.1 1 rfl rfl Tryd.sizeOf5 rfl rfl (by rw [hs_len]; omega)) ?_
  have H5 : Hid (Mm (w4.setCells γ1_0 (9 + c % 64) ([Z8 128])) [(γ2_4, ints .u8 (e8 (c64 (8 * c)) 8) 8), (γ1_0, hs m s (up r (c % 64) 128) c), (γ1_1, ints .u8 (fun _ => 0) 32), (1, ints .u32 kT 64)] ∧ Below w.heap.size w (w4.setCells γ1_0 (9 + c % 64) ([Z8 128]))) := ⟨by
    have h := H4.out.1.put 1 (off := (9 + c % 64)) (vs := [Z8 128]) rfl (by rw [hs_len]; simp only [List.length_cons, List.length_nil]; omega)
    rw [hs_put_byte _ _ _ _ _ _ (by omega)] at h
    exact h, below_setCells _ o1_0.out _ _ _ H4.out.2⟩
  clear H4
  generalize hgw : World.setCells _ _ _ _ = w5 at H5 ⊢
  clear hgw
  refine rest_nil (then_normal (wp_seq ?_))
  refine walk_seqB 4 [.quiet (PT γ1_0 9), .quiet (.int .i64 ((c % 64 : Nat) : Int)), .quiet (.int .i64 (((c % 64) + 1 : Nat) : Int)), .quiet (.slice (some ⟨γ1_0, (9 + ((c % 64) + 1)), none⟩) (64 - ((c % 64) + 1)) (64 - ((c % 64) + 1)))] H5 ?ho5 ?he5
  case ho5 => exact ak (by refine fun γ => ⟨rfl, fun w' h => ?_⟩; clear h; go_simp) (ak (fun _ => ⟨rfl, fun _ _ => rfl⟩) (ak (by refine fun γ => ⟨rfl, fun w' h => ?_⟩; clear h; go_simp; rw [IntKind.wrap_i64]; omega) (ak (fun γ => ⟨rfl, fun w' _ => ex_slA (k := (c % 64) + 1) rfl rfl rfl (by omega)⟩) trivial)))
  intro _ w6 H6
  clear H5
  refine rest_at (l := [4]) rfl ?_
  refine rest_drop rfl rfl rfl (ex_clear (k := (c % 64) + 1) H6.out.1 1 rfl (by omega) rfl rfl) ?_
  have H7 : Hid (Mm (w6.setCells γ1_0 (9 + ((c % 64) + 1)) (ints .u8 (fun _ => 0) (64 - ((c % 64) + 1)))) [(γ2_4, ints .u8 (e8 (c64 (8 * c)) 8) 8), (γ1_0, hs m s (cl (up r (c % 64) 128) ((c % 64) + 1)) c), (γ1_1, ints .u8 (fun _ => 0) 32), (1, ints .u32 kT 64)] ∧ Below w.heap.size w (w6.setCells γ1_0 (9 + ((c % 64) + 1)) (ints .u8 (fun _ => 0) (64 - ((c % 64) + 1))))) := ⟨by
    have h := H6.out.1.put 1 (off := (9 + ((c % 64) + 1))) (vs := (ints .u8 (fun _ => 0) (64 - ((c % 64) + 1)))) rfl (by rw [ints_len, hs_len]; omega)
    rw [hs_put_part _ _ _ _ _ _ _ (by omega), cl_part] at h
    exact h, below_setCells _ o1_0.out _ _ _ H6.out.2⟩
  clear H6
  generalize hgw : World.setCells _ _ _ _ = w7 at H7 ⊢
  clear hgw
  refine rest_nil (then_normal ?_)
  refine wp_seq (wp_seq ?_)
  refine walk_seqB 3 [.quiet (.int .i64 ((c % 64 : Nat) : Int)), .quiet (.int .i64 (((c % 64) + 1 : Nat) : Int)), .quiet (.bool true)] H7 ?ho6 ?he6
  case ho6 => exact ak (fun _ => ⟨rfl, fun _ _ => rfl⟩) (ak (by refine fun γ => ⟨rfl, fun w' h => ?_⟩; clear h; go_simp; rw [IntKind.wrap_i64]; omega) (ak (by refine fun γ => ⟨rfl, fun w' h => ?_⟩; clear h; go_simp <;> omega) trivial))
  intro _ w8 H8
  clear H7
  refine rest0 rfl (then_normal (wp_cond_true rfl (wp_seq ?_)))
  refine walk_seqB 6 [.quiet (PT γ1_0 1), .quiet (.agg (ints .u32 s 8).toArray), .quiet (PT γ1_0 9), .quiet (.agg (ints .u8 (cl (up r (c % 64) 128) ((c % 64) + 1)) 64).toArray), .call (.agg (ints .u32 (mx s (cl (up r (c % 64) 128) ((c % 64) + 1))) 8).toArray), .quiet (PT γ1_0 1)] H8 ?ho7 ?he7
  case ho7 => exact ak (by refine fun γ => ⟨rfl, fun w' h => ?_⟩; clear h; go_simp) (ak (fun γ => ⟨rfl, fun w' h => ex_loadT h 1 rfl rfl rfl Tryd.isAgg53 Tryd.sizeOf53 (hs_words _ _ _ _) (ints_len _ _ _)⟩) (ak (by refine fun γ => ⟨rfl, fun w' h => ?_⟩; clear h; go_simp) (ak (fun γ => ⟨rfl, fun w' h => ex_loadT h 1 rfl rfl rfl Tryd.isAgg55 Tryd.sizeOf55 (hs_rests _ _ _ _) (ints_len _ _ _)⟩) (ak (fun γ => ⟨rfl, fun w' h => ⟨58, #[.agg (ints .u32 s 8).toArray, .agg (ints .u8 (cl (up r (c % 64) 128) ((c % 64) + 1)) 64).toArray], exec_call rfl call58 rfl (mpn rfl), mix_any s (cl (up r (c % 64) 128) ((c % 64) + 1)) w' (h.one 3 rfl)⟩⟩) (ak (by refine fun γ => ⟨rfl, fun w' h => ?_⟩; clear h; go_simp) trivial)))))
  intro _ w9 H9
  clear H8
  refine rest_at (l := [6]) rfl ?_
  refine rest_store rfl rfl rfl (ex_storeT (vs := ints .u32 (mx s (cl (up r (c % 64) 128) ((c % 64) + 1))) 8) H9.out.1 1 rfl rfl rfl rfl (by rw [ints_len]; exact Tryd.sizeOf53) (ints_all _ _ _) (by simp [ints_len, hs_len])) ?_
  have H10 : Hid (Mm (w9.setCells γ1_0 1 (ints .u32 (mx s (cl (up r (c % 64) 128) ((c % 64) + 1))) 8)) [(γ2_4, ints .u8 (e8 (c64 (8 * c)) 8) 8), (γ1_0, hs m (mx s (cl (up r (c % 64) 128) ((c % 64) + 1))) (cl (up r (c % 64) 128) ((c % 64) + 1)) c), (γ1_1, ints .u8 (fun _ => 0) 32), (1, ints .u32 kT 64)] ∧ Below w.heap.size w (w9.setCells γ1_0 1 (ints .u32 (mx s (cl (up r (c % 64) 128) ((c % 64) + 1))) 8))) := ⟨by
    have h := H9.out.1.put 1 (off := 1) (vs := ints .u32 (mx s (cl (up r (c % 64) 128) ((c % 64) + 1))) 8) rfl (by simp [ints_len, hs_len])
    rw [hs_put_words _ _ _ _ _] at h
    exact h, below_setCells _ o1_0.out _ _ _ H9.out.2⟩
  clear H9
  generalize hgw : World.setCells _ _ _ _ = w10 at H10 ⊢
  clear hgw
  refine rest_nil (then_normal ?_)
  refine walk_seqB 2 [.quiet (.agg (ints .u8 (fun _ => 0) 64).toArray), .quiet (PT γ1_0 9)] H10 ?ho8 ?he8
  case ho8 => exact ak (fun γ => ⟨rfl, fun w' _ => ex_bz55 rfl⟩) (ak (by refine fun γ => ⟨rfl, fun w' h => ?_⟩; clear h; go_simp) trivial)
  intro _ w11 H11
  clear H10
  refine rest_at (l := [2]) rfl ?_
  refine rest_store rfl rfl rfl (ex_storeT (vs := ints .u8 (fun _ => 0) 64) H11.out.1 1 rfl rfl rfl rfl (by rw [ints_len]; exact Tryd.sizeOf55) (ints_all _ _ _) (by simp [ints_len, hs_len])) ?_
  have H12 : Hid (Mm (w11.setCells γ1_0 9 (ints .u8 (fun _ => 0) 64)) [(γ2_4, ints .u8 (e8 (c64 (8 * c)) 8) 8), (γ1_0, hs m (mx s (cl (up r (c % 64) 128) ((c % 64) + 1))) (fun _ => 0) c), (γ1_1, ints .u8 (fun _ => 0) 32), (1, ints .u32 kT 64)] ∧ Below w.heap.size w (w11.setCells γ1_0 9 (ints .u8 (fun _ => 0) 64))) := ⟨by
    have h := H11.out.1.put 1 (off := 9) (vs := ints .u8 (fun _ => 0) 64) rfl (by simp [ints_len, hs_len])
    rw [hs_put_rest _ _ _ _ _] at h
    exact h, below_setCells _ o1_0.out _ _ _ H11.out.2⟩
  clear H11
  generalize hgw : World.setCells _ _ _ _ = w12 at H12 ⊢
  clear hgw
  refine rest_nil (then_normal (wp_seq ?_))
  refine walk_anyB 3 [.quiet (PT γ1_0 9), .quiet (.slice (some ⟨γ1_0, 65, none⟩) 8 8), .quiet (.slice (some ⟨γ2_4, 0, none⟩) 8 8)] H12 ?ho9 ?he9
  case ho9 => exact ak (by refine fun γ => ⟨rfl, fun w' h => ?_⟩; clear h; go_simp) (ak (fun γ => ⟨rfl, fun w' _ => ex_sl56 rfl rfl rfl⟩) (ak (fun γ => ⟨rfl, fun w' _ => ex_sl81 rfl rfl⟩) trivial))
  intro _ w13 H13
  clear H12
  refine rest_at (l := [3]) rfl ?_
  refine rest_set (d := 31) (v := .int .i64 ((8 : Nat) : Int)) (w' := w13.setCells γ1_0 (9 + 56) (ints .u8 (e8 (c64 (8 * c)) 8) 8)) rfl rfl rfl (ex_copy (kk := 56) H13.out.1 1 rfl (fun j hj => by have := H13.out.1.get 0 rfl j (ints_get .u8 (e8 (c64 (8 * c)) 8) hj); rwa [Nat.zero_add]) rfl (by decide) rfl rfl rfl) ?_
  simp only [Act.put, sa, sz, ss]
  have H14 : Hid (Mm (w13.setCells γ1_0 (9 + 56) (ints .u8 (e8 (c64 (8 * c)) 8) 8)) [(γ2_4, ints .u8 (e8 (c64 (8 * c)) 8) 8), (γ1_0, hs m (mx s (cl (up r (c % 64) 128) ((c % 64) + 1))) (pr8 (fun _ => 0) 56 8 (e8 (c64 (8 * c)) 8)) c), (γ1_1, ints .u8 (fun _ => 0) 32), (1, ints .u32 kT 64)] ∧ Below w.heap.size w (w13.setCells γ1_0 (9 + 56) (ints .u8 (e8 (c64 (8 * c)) 8) 8))) := ⟨by
    have h := H13.out.1.put 1 (off := (9 + 56)) (vs := (ints .u8 (e8 (c64 (8 * c)) 8) 8)) rfl (by rw [ints_len, hs_len]; omega)
    rw [hs_put_part _ _ _ _ _ _ _ (by decide)] at h
    exact h, below_setCells _ o1_0.out _ _ _ H13.out.2⟩
  clear H13
  generalize hgw : World.setCells _ _ _ _ = w14 at H14 ⊢
  clear hgw
  refine rest_nil (then_normal (wp_seq ?_))
  refine walk_seqB 6 [.quiet (PT γ1_0 1), .quiet (.agg (ints .u32 (mx s (cl (up r (c % 64) 128) ((c % 64) + 1))) 8).toArray), .quiet (PT γ1_0 9), .quiet (.agg (ints .u8 (pr8 (fun _ => 0) 56 8 (e8 (c64 (8 * c)) 8)) 64).toArray), .call (.agg (ints .u32 (mx (mx s (cl (up r (c % 64) 128) ((c % 64) + 1))) (pr8 (fun _ => 0) 56 8 (e8 (c64 (8 * c)) 8))) 8).toArray), .call (.agg (ints .u8 (bo (mx (mx s (cl (up r (c % 64) 128) ((c % 64) + 1))) (pr8 (fun _ => 0) 56 8 (e8 (c64 (8 * c)) 8))) 8) 32).toArray)] H14 ?ho10 ?he10
  case ho10 => exact ak (by refine fun γ => ⟨rfl, fun w' h => ?_⟩; clear h; go_simp) (ak (fun γ => ⟨rfl, fun w' h => ex_loadT h 1 rfl rfl rfl Tryd.isAgg53 Tryd.sizeOf53 (hs_words _ _ _ _) (ints_len _ _ _)⟩) (ak (by refine fun γ => ⟨rfl, fun w' h => ?_⟩; clear h; go_simp) (ak (fun γ => ⟨rfl, fun w' h => ex_loadT h 1 rfl rfl rfl Tryd.isAgg55 Tryd.sizeOf55 (hs_rests _ _ _ _) (ints_len _ _ _)⟩) (ak (fun γ => ⟨rfl, fun w' h => ⟨58, #[.agg (ints .u32 (mx s (cl (up r (c % 64) 128) ((c % 64) + 1))) 8).toArray, .agg (ints .u8 (pr8 (fun _ => 0) 56 8 (e8 (c64 (8 * c)) 8)) 64).toArray], exec_call rfl call58 rfl (mpn rfl), mix_any (mx s (cl (up r (c % 64) 128) ((c % 64) + 1))) (pr8 (fun _ => 0) 56 8 (e8 (c64 (8 * c)) 8)) w' (h.one 3 rfl)⟩⟩) (ak (fun γ => ⟨rfl, fun w' h => ⟨59, #[.agg (ints .u32 (mx (mx s (cl (up r (c % 64) 128) ((c % 64) + 1))) (pr8 (fun _ => 0) 56 8 (e8 (c64 (8 * c)) 8))) 8).toArray], exec_call rfl call59 rfl (mpn rfl), bytesOf_any (mx (mx s (cl (up r (c % 64) 128) ((c % 64) + 1))) (pr8 (fun _ => 0) 56 8 (e8 (c64 (8 * c)) 8))) w'⟩⟩) trivial)))))
  intro _ w15 H15
  clear H14
  refine rest_at (l := [6]) rfl ?_
  refine rest_store rfl rfl rfl (ex_storeT (vs := ints .u8 (bo (mx (mx s (cl (up r (c % 64) 128) ((c % 64) + 1))) (pr8 (fun _ => 0) 56 8 (e8 (c64 (8 * c)) 8))) 8) 32) H15.out.1 2 rfl rfl rfl rfl (by rw [ints_len]; exact Tryd.sizeOf25) (ints_all _ _ _) (by simp [ints_len])) ?_
  have H16 : Hid (Mm (w15.setCells γ1_1 0 (ints .u8 (bo (mx (mx s (cl (up r (c % 64) 128) ((c % 64) + 1))) (pr8 (fun _ => 0) 56 8 (e8 (c64 (8 * c)) 8))) 8) 32)) [(γ2_4, ints .u8 (e8 (c64 (8 * c)) 8) 8), (γ1_0, hs m (mx s (cl (up r (c % 64) 128) ((c % 64) + 1))) (pr8 (fun _ => 0) 56 8 (e8 (c64 (8 * c)) 8)) c), (γ1_1, ints .u8 (bo (mx (mx s (cl (up r (c % 64) 128) ((c % 64) + 1))) (pr8 (fun _ => 0) 56 8 (e8 (c64 (8 * c)) 8))) 8) 32), (1, ints .u32 kT 64)] ∧ Below w.heap.size w (w15.setCells γ1_1 0 (ints .u8 (bo (mx (mx s (cl (up r (c % 64) 128) ((c % 64) + 1))) (pr8 (fun _ => 0) 56 8 (e8 (c64 (8 * c)) 8))) 8) 32))) := ⟨by
    have h := H15.out.1.put 2 (off := 0) (vs := ints .u8 (bo (mx (mx s (cl (up r (c % 64) 128) ((c % 64) + 1))) (pr8 (fun _ => 0) 56 8 (e8 (c64 (8 * c)) 8))) 8) 32) rfl (by simp [ints_len])
    rw [ints_patch0 _ _ _ _] at h
    exact h, below_setCells _ o1_1.out _ _ _ H15.out.2⟩
  clear H15
  generalize hgw : World.setCells _ _ _ _ = w16 at H16 ⊢
  clear hgw
  refine rest_nil (then_normal (wp_ret ?_))
  repeat (first | refine then_ret ?_ | refine block_ret ?_)
  have hf0 := var_T H16.out.1 2 rfl Tryd.isAgg25 Tryd.sizeOf25 (ints_len _ _ _)
  refine bodyPost_ret (v := .agg (ints .u8 (bo (mx (mx s (cl (up r (c % 64) 128) ((c % 64) + 1))) (pr8 (fun _ => 0) 56 8 (e8 (c64 (8 * c)) 8))) 8) 32).toArray) (by simp [results, Tryd.results46, asAddr, hf0]) rfl ?_
  exact ⟨rfl, H16.out.2⟩
set_option maxHeartbeats 4000000 in
set_option maxRecDepth 100000 in
theorem finish_C (m : Bool) (s r : Nat → Nat) (c : Nat) (hc : c % 64 = 63) (w : World) (hm : Mm w [(1, ints .u32 kT 64)]) :
    Calls Tryd.prog 46 #[.agg (hs m s r c).toArray] w fun e w' => e = .returned (.agg (ints .u8 (bo (mx (mx s (up r (c % 64) 128)) (pr8 (fun _ => 0) 56 8 (e8 (c64 (8 * c)) 8))) 8) 32).toArray) ∧ Below w.heap.size w w' := by
  have H0 : Hid (_ ∧ _) := ⟨hm, Below.refl w.heap.size w⟩
  clear hm
  go_enter Tryd.func46, Tryd.ntmps46
  refine wp_seq ?_
  refine walk_seqA 2 [.made (hs m s r c) 58, .made (ints .u8 (fun _ => 0) 32) 25] (sB H0) ?ho1 ?he1
  case ho1 => exact ak (fun γ => ⟨rfl, fun w' => ex_boxT rfl rfl⟩) (ak (fun γ => ⟨rfl, fun w' => ex_mk25 rfl⟩) trivial)
  intro γ w1 l hM hl
  have H1 : Hid (Mm w1 [(γ 0, hs m s r c), (γ 1, ints .u8 (fun _ => 0) 32), (1, ints .u32 kT 64)] ∧ _) := growB H0 hM (Nat.le_refl _) hl [0, 1] rfl (by decide)
  have o1_0 := ownB H0 hM (Nat.le_refl _) hl (i := 0) rfl
  have o1_1 := ownB H0 hM (Nat.le_refl _) hl (i := 1) rfl
  clear hM hl l
  generalize γ 0 = γ1_0 at H1 o1_0 ⊢
  generalize γ 1 = γ1_1 at H1 o1_1 ⊢
  clear γ
  refine rest0 rfl (then_normal (wp_seq ?_))
  refine walk_seqA 6 [.quiet (PT γ1_0 73), .quiet (U c), .quiet (U (c64 (8 * c))), .call (.agg (ints .u8 (e8 (c64 (8 * c)) 8) 8).toArray), .made (ints .u8 (fun _ => 0) 8) 81, .laid 4 (ints .u8 (fun _ => 0) 8) (ints .u8 (e8 (c64 (8 * c)) 8) 8)] (sB H1) ?ho2 ?he2 (hL := ?hL2)
  case hL2 => exact ⟨⟨_, rfl⟩, trivial⟩
  case ho2 => exact ak (by refine fun γ => ⟨rfl, fun w' h => ?_⟩; clear h; go_simp) (ak (fun γ => ⟨rfl, fun w' h => ex_loadC h 0 rfl rfl rfl Tryd.isAgg56 (hs_count _ _ _ _)⟩) (ak (fun γ => ⟨rfl, fun w' _ => ex_mul64 rfl rfl rfl⟩) (ak (fun γ => ⟨rfl, fun w' h => ⟨51, #[U (c64 (8 * c))], exec_call rfl call51 rfl (mpn rfl), eight_any (c64 (8 * c)) w'⟩⟩) (ak (fun γ => ⟨rfl, fun w' => ex_mk81 rfl⟩) (ak (fun γ => ⟨rfl, rfl, (ints_len _ _ _).trans (ints_len _ _ _).symm, fun w' h => ex_laidI h Tryd.sizeOf81 rfl rfl rfl⟩) trivial)))))
  intro γ w2 l hM hl
  have H2 : Hid (Mm w2 [(γ 4, ints .u8 (e8 (c64 (8 * c)) 8) 8), (γ1_0, hs m s r c), (γ1_1, ints .u8 (fun _ => 0) 32), (1, ints .u32 kT 64)] ∧ _) := growB H1 hM (Nat.le_refl _) hl [4] rfl (by decide)
  have o2_4 := ownB H1 hM (Nat.le_refl _) hl (i := 4) rfl
  clear hM hl l H1
  generalize γ 4 = γ2_4 at H2 o2_4 ⊢
  clear γ
  refine rest0 rfl (then_normal (wp_seq ?_))
  refine walk_seqB 2 [.call (.int .i64 ((c % 64 : Nat) : Int)), .quiet (.int .i64 ((c % 64 : Nat) : Int))] H2 ?ho3 ?he3
  case ho3 => exact ak (fun γ => ⟨rfl, fun w' h => ⟨57, #[PT γ1_0 0], exec_call rfl call57 rfl (mpn rfl), filled_any _ _ _ _ _ w' (h.one 1 rfl)⟩⟩) (ak (fun _ => ⟨rfl, fun _ _ => rfl⟩) trivial)
  intro _ w3 H3
  clear H2
  refine rest0 rfl (then_normal (wp_seq ?_))
  refine walk_seqB 3 [.quiet (.int .i64 ((c % 64 : Nat) : Int)), .quiet (PT γ1_0 9), .quiet (PT γ1_0 (9 + c % 64))] H3 ?ho4 ?he4
  case ho4 => exact ak (fun _ => ⟨rfl, fun _ _ => rfl⟩) (ak (by refine fun γ => ⟨rfl, fun w' h => ?_⟩; clear h; go_simp) (ak (fun γ => ⟨rfl, fun w' _ => ex_ix_55 (j := c % 64) rfl rfl rfl (by omega)⟩) trivial))
  intro _ w4 H4
  clear H3
  refine rest_at (l := [3]) rfl ?_
  refine rest_store rfl rfl rfl (ex_storeI (v := ((128 : Nat) : Int)) H4.out.1 1 rfl rfl Tryd.sizeOf5 rfl rfl (by rw [hs_len]; omega)) ?_
  have H5 : Hid (Mm (w4.setCells γ1_0 (9 + c % 64) ([Z8 128])) [(γ2_4, ints .u8 (e8 (c64 (8 * c)) 8) 8), (γ1_0, hs m s (up r (c % 64) 128) c), (γ1_1, ints .u8 (fun _ => 0) 32), (1, ints .u32 kT 64)] ∧ Below w.heap.size w (w4.setCells γ1_0 (9 + c % 64) ([Z8 128]))) := ⟨by
    have h := H4.out.1.put 1 (off := (9 + c % 64)) (vs := [Z8 128]) rfl (by rw [hs_len]; simp only [List.length_cons, List.length_nil]; omega)
    rw [hs_put_byte _ _ _ _ _ _ (by omega)] at h
    exact h, below_setCells _ o1_0.out _ _ _ H4.out.2⟩
  clear H4
  generalize hgw : World.setCells _ _ _ _ = w5 at H5 ⊢
  clear hgw
  refine rest_nil (then_normal (wp_seq ?_))
  refine walk_seqB 4 [.quiet (PT γ1_0 9), .quiet (.int .i64 ((c % 64 : Nat) : Int)), .quiet (.int .i64 (((c % 64) + 1 : Nat) : Int)), .quiet (.slice (some ⟨γ1_0, 9, none⟩) 0 0)] H5 ?ho5 ?he5
  case ho5 => exact ak (by refine fun γ => ⟨rfl, fun w' h => ?_⟩; clear h; go_simp) (ak (fun _ => ⟨rfl, fun _ _ => rfl⟩) (ak (by refine fun γ => ⟨rfl, fun w' h => ?_⟩; clear h; go_simp; rw [IntKind.wrap_i64]; omega) (ak (fun γ => ⟨rfl, fun w' _ => ex_slA64 (k := (c % 64) + 1) rfl rfl rfl (by omega)⟩) trivial)))
  intro _ w6 H6
  clear H5
  refine rest_at (l := [4]) rfl ?_
  refine rest_drop rfl rfl rfl (ex_clear0 rfl rfl) ?_
  refine rest_nil (then_normal ?_)
  refine wp_seq (wp_seq ?_)
  refine walk_seqB 3 [.quiet (.int .i64 ((c % 64 : Nat) : Int)), .quiet (.int .i64 (((c % 64) + 1 : Nat) : Int)), .quiet (.bool true)] H6 ?ho6 ?he6
  case ho6 => exact ak (fun _ => ⟨rfl, fun _ _ => rfl⟩) (ak (by refine fun γ => ⟨rfl, fun w' h => ?_⟩; clear h; go_simp; rw [IntKind.wrap_i64]; omega) (ak (by refine fun γ => ⟨rfl, fun w' h => ?_⟩; clear h; go_simp <;> omega) trivial))
  intro _ w7 H7
  clear H6
  refine rest0 rfl (then_normal (wp_cond_true rfl (wp_seq ?_)))
  refine walk_seqB 6 [.quiet (PT γ1_0 1), .quiet (.agg (ints .u32 s 8).toArray), .quiet (PT γ1_0 9), .quiet (.agg (ints .u8 (up r (c % 64) 128) 64).toArray), .call (.agg (ints .u32 (mx s (up r (c % 64) 128)) 8).toArray), .quiet (PT γ1_0 1)] H7 ?ho7 ?he7
  case ho7 => exact ak (by refine fun γ => ⟨rfl, fun w' h => ?_⟩; clear h; go_simp) (ak (fun γ => ⟨rfl, fun w' h => ex_loadT h 1 rfl rfl rfl Tryd.isAgg53 Tryd.sizeOf53 (hs_words _ _ _ _) (ints_len _ _ _)⟩) (ak (by refine fun γ => ⟨rfl, fun w' h => ?_⟩; clear h; go_simp) (ak (fun γ => ⟨rfl, fun w' h => ex_loadT h 1 rfl rfl rfl Tryd.isAgg55 Tryd.sizeOf55 (hs_rests _ _ _ _) (ints_len _ _ _)⟩) (ak (fun γ => ⟨rfl, fun w' h => ⟨58, #[.agg (ints .u32 s 8).toArray, .agg (ints .u8 (up r (c % 64) 128) 64).toArray], exec_call rfl call58 rfl (mpn rfl), mix_any s (up r (c % 64) 128) w' (h.one 3 rfl)⟩⟩) (ak (by refine fun γ => ⟨rfl, fun w' h => ?_⟩; clear h; go_simp) trivial)))))
  intro _ w8 H8
  clear H7
  refine rest_at (l := [6]) rfl ?_
  refine rest_store rfl rfl rfl (ex_storeT (vs := ints .u32 (mx s (up r (c % 64) 128)) 8) H8.out.1 1 rfl rfl rfl rfl (by rw [ints_len]; exact Tryd.sizeOf53) (ints_all _ _ _) (by simp [ints_len, hs_len])) ?_
  have H9 : Hid (Mm (w8.setCells γ1_0 1 (ints .u32 (mx s (up r (c % 64) 128)) 8)) [(γ2_4, ints .u8 (e8 (c64 (8 * c)) 8) 8), (γ1_0, hs m (mx s (up r (c % 64) 128)) (up r (c % 64) 128) c), (γ1_1, ints .u8 (fun _ => 0) 32), (1, ints .u32 kT 64)] ∧ Below w.heap.size w (w8.setCells γ1_0 1 (ints .u32 (mx s (up r (c % 64) 128)) 8))) := ⟨by
    have h := H8.out.1.put 1 (off := 1) (vs := ints .u32 (mx s (up r (c % 64) 128)) 8) rfl (by simp [ints_len, hs_len])
    rw [hs_put_words _ _ _ _ _] at h
    exact h, below_setCells _ o1_0.out _ _ _ H8.out.2⟩
  clear H8
  generalize hgw : World.setCells _ _ _ _ = w9 at H9 ⊢
  clear hgw
  refine rest_nil (then_normal ?_)
  refine walk_seqB 2 [.quiet (.agg (ints .u8 (fun _ => 0) 64).toArray), .quiet (PT γ1_0 9)] H9 ?ho8 ?he8
  case ho8 => exact ak (fun γ => ⟨rfl, fun w' _ => ex_bz55 rfl⟩) (ak (by refine fun γ => ⟨rfl, fun w' h => ?_⟩; clear h; go_simp) trivial)
  intro _ w10 H10
  clear H9
  refine rest_at (l := [2]) rfl ?_
  refine rest_store rfl rfl rfl (ex_storeT (vs := ints .u8 (fun _ => 0) 64) H10.out.1 1 rfl rfl rfl rfl (by rw [ints_len]; exact Tryd.sizeOf55) (ints_all _ _ _) (by simp [ints_len, hs_len])) ?_
  have H11 : Hid (Mm (w10.setCells γ1_0 9 (ints .u8 (fun _ => 0) 64)) [(γ2_4, ints .u8 (e8 (c64 (8 * c)) 8) 8), (γ1_0, hs m (mx s (up r (c % 64) 128)) (fun _ => 0) c), (γ1_1, ints .u8 (fun _ => 0) 32), (1, ints .u32 kT 64)] ∧ Below w.heap.size w (w10.setCells γ1_0 9 (ints .u8 (fun _ => 0) 64))) := ⟨by
    have h := H10.out.1.put 1 (off := 9) (vs := ints .u8 (fun _ => 0) 64) rfl (by simp [ints_len, hs_len])
    rw [hs_put_rest _ _ _ _ _] at h
    exact h, below_setCells _ o1_0.out _ _ _ H10.out.2⟩
  clear H10
  generalize hgw : World.setCells _ _ _ _ = w11 at H11 ⊢
  clear hgw
  refine rest_nil (then_normal (wp_seq ?_))
  refine walk_anyB 3 [.quiet (PT γ1_0 9), .quiet (.slice (some ⟨γ1_0, 65, none⟩) 8 8), .quiet (.slice (some ⟨γ2_4, 0, none⟩) 8 8)] H11 ?ho9 ?he9
  case ho9 => exact ak (by refine fun γ => ⟨rfl, fun w' h => ?_⟩; clear h; go_simp) (ak (fun γ => ⟨rfl, fun w' _ => ex_sl56 rfl rfl rfl⟩) (ak (fun γ => ⟨rfl, fun w' _ => ex_sl81 rfl rfl⟩) trivial))
  intro _ w12 H12
  clear H11
  refine rest_at (l := [3]) rfl ?_
  refine rest_set (d := 31) (v := .int .i64 ((8 : Nat) : Int)) (w' := w12.setCells γ1_0 (9 + 56) (ints .u8 (e8 (c64 (8 * c)) 8) 8)) rfl rfl rfl (ex_copy (kk := 56) H12.out.1 1 rfl (fun j hj => by have := H12.out.1.get 0 rfl j (ints_get .u8 (e8 (c64 (8 * c)) 8) hj); rwa [Nat.zero_add]) rfl (by decide) rfl rfl rfl) ?_
  simp only [Act.put, sa, sz, ss]
  have H13 : Hid (Mm (w12.setCells γ1_0 (9 + 56) (ints .u8 (e8 (c64 (8 * c)) 8) 8)) [(γ2_4, ints .u8 (e8 (c64 (8 * c)) 8) 8), (γ1_0, hs m (mx s (up r (c % 64) 128)) (pr8 (fun _ => 0) 56 8 (e8 (c64 (8 * c)) 8)) c), (γ1_1, ints .u8 (fun _ => 0) 32), (1, ints .u32 kT 64)] ∧ Below w.heap.size w (w12.setCells γ1_0 (9 + 56) (ints .u8 (e8 (c64 (8 * c)) 8) 8))) := ⟨by
    have h := H12.out.1.put 1 (off := (9 + 56)) (vs := (ints .u8 (e8 (c64 (8 * c)) 8) 8)) rfl (by rw [ints_len, hs_len]; omega)
    rw [hs_put_part _ _ _ _ _ _ _ (by decide)] at h
    exact h, below_setCells _ o1_0.out _ _ _ H12.out.2⟩
  clear H12
  generalize hgw : World.setCells _ _ _ _ = w13 at H13 ⊢
  clear hgw
  refine rest_nil (then_normal (wp_seq ?_))
  refine walk_seqB 6 [.quiet (PT γ1_0 1), .quiet (.agg (ints .u32 (mx s (up r (c % 64) 128)) 8).toArray), .quiet (PT γ1_0 9), .quiet (.agg (ints .u8 (pr8 (fun _ => 0) 56 8 (e8 (c64 (8 * c)) 8)) 64).toArray), .call (.agg (ints .u32 (mx (mx s (up r (c % 64) 128)) (pr8 (fun _ => 0) 56 8 (e8 (c64 (8 * c)) 8))) 8).toArray), .call (.agg (ints .u8 (bo (mx (mx s (up r (c % 64) 128)) (pr8 (fun _ => 0) 56 8 (e8 (c64 (8 * c)) 8))) 8) 32).toArray)] H13 ?ho10 ?he10
  case ho10 => exact ak (by refine fun γ => ⟨rfl, fun w' h => ?_⟩; clear h; go_simp) (ak (fun γ => ⟨rfl, fun w' h => ex_loadT h 1 rfl rfl rfl Tryd.isAgg53 Tryd.sizeOf53 (hs_words _ _ _ _) (ints_len _ _ _)⟩) (ak (by refine fun γ => ⟨rfl, fun w' h => ?_⟩; clear h; go_simp) (ak (fun γ => ⟨rfl, fun w' h => ex_loadT h 1 rfl rfl rfl Tryd.isAgg55 Tryd.sizeOf55 (hs_rests _ _ _ _) (ints_len _ _ _)⟩) (ak (fun γ => ⟨rfl, fun w' h => ⟨58, #[.agg (ints .u32 (mx s (up r (c % 64) 128)) 8).toArray, .agg (ints .u8 (pr8 (fun _ => 0) 56 8 (e8 (c64 (8 * c)) 8)) 64).toArray], exec_call rfl call58 rfl (mpn rfl), mix_any (mx s (up r (c % 64) 128)) (pr8 (fun _ => 0) 56 8 (e8 (c64 (8 * c)) 8)) w' (h.one 3 rfl)⟩⟩) (ak (fun γ => ⟨rfl, fun w' h => ⟨59, #[.agg (ints .u32 (mx (mx s (up r (c % 64) 128)) (pr8 (fun _ => 0) 56 8 (e8 (c64 (8 * c)) 8))) 8).toArray], exec_call rfl call59 rfl (mpn rfl), bytesOf_any (mx (mx s (up r (c % 64) 128)) (pr8 (fun _ => 0) 56 8 (e8 (c64 (8 * c)) 8))) w'⟩⟩) trivial)))))
  intro _ w14 H14
  clear H13
  refine rest_at (l := [6]) rfl ?_
  refine rest_store rfl rfl rfl (ex_storeT (vs := ints .u8 (bo (mx (mx s (up r (c % 64) 128)) (pr8 (fun _ => 0) 56 8 (e8 (c64 (8 * c)) 8))) 8) 32) H14.out.1 2 rfl rfl rfl rfl (by rw [ints_len]; exact Tryd.sizeOf25) (ints_all _ _ _) (by simp [ints_len])) ?_
  have H15 : Hid (Mm (w14.setCells γ1_1 0 (ints .u8 (bo (mx (mx s (up r (c % 64) 128)) (pr8 (fun _ => 0) 56 8 (e8 (c64 (8 * c)) 8))) 8) 32)) [(γ2_4, ints .u8 (e8 (c64 (8 * c)) 8) 8), (γ1_0, hs m (mx s (up r (c % 64) 128)) (pr8 (fun _ => 0) 56 8 (e8 (c64 (8 * c)) 8)) c), (γ1_1, ints .u8 (bo (mx (mx s (up r (c % 64) 128)) (pr8 (fun _ => 0) 56 8 (e8 (c64 (8 * c)) 8))) 8) 32), (1, ints .u32 kT 64)] ∧ Below w.heap.size w (w14.setCells γ1_1 0 (ints .u8 (bo (mx (mx s (up r (c % 64) 128)) (pr8 (fun _ => 0) 56 8 (e8 (c64 (8 * c)) 8))) 8) 32))) := ⟨by
    have h := H14.out.1.put 2 (off := 0) (vs := ints .u8 (bo (mx (mx s (up r (c % 64) 128)) (pr8 (fun _ => 0) 56 8 (e8 (c64 (8 * c)) 8))) 8) 32) rfl (by simp [ints_len])
    rw [ints_patch0 _ _ _ _] at h
    exact h, below_setCells _ o1_1.out _ _ _ H14.out.2⟩
  clear H14
  generalize hgw : World.setCells _ _ _ _ = w15 at H15 ⊢
  clear hgw
  refine rest_nil (then_normal (wp_ret ?_))
  repeat (first | refine then_ret ?_ | refine block_ret ?_)
  have hf0 := var_T H15.out.1 2 rfl Tryd.isAgg25 Tryd.sizeOf25 (ints_len _ _ _)
  refine bodyPost_ret (v := .agg (ints .u8 (bo (mx (mx s (up r (c % 64) 128)) (pr8 (fun _ => 0) 56 8 (e8 (c64 (8 * c)) 8))) 8) 32).toArray) (by simp [results, Tryd.results46, asAddr, hf0]) rfl ?_
  exact ⟨rfl, H15.out.2⟩
/-- The digest that a hash comes to. -/
def fz (s r : Nat → Nat) (c : Nat) : Nat → Nat := if c % 64 < 56 then bo (mx s (pr8 (cl (up r (c % 64) 128) ((c % 64) + 1)) 56 8 (e8 (c64 (8 * c)) 8))) 8 else if c % 64 < 63 then bo (mx (mx s (cl (up r (c % 64) 128) ((c % 64) + 1))) (pr8 (fun _ => 0) 56 8 (e8 (c64 (8 * c)) 8))) 8 else bo (mx (mx s (up r (c % 64) 128)) (pr8 (fun _ => 0) 56 8 (e8 (c64 (8 * c)) 8))) 8
theorem finish_any (m : Bool) (s r : Nat → Nat) (c : Nat) (w : World) (hm : Mm w [(1, ints .u32 kT 64)]) : Calls Tryd.prog 46 #[.agg (hs m s r c).toArray] w fun e w' => e = .returned (.agg (ints .u8 (fz s r c) 32).toArray) ∧ Below w.heap.size w w' := by
  unfold fz
  by_cases h : c % 64 < 56
  · rw [if_pos h]; exact finish_A m s r c h w hm
  · rw [if_neg h]
    by_cases h2 : c % 64 < 63
    · rw [if_pos h2]; exact finish_B m s r c (by omega) h2 w hm
    · rw [if_neg h2]; exact finish_C m s r c (by omega) w hm
set_option maxRecDepth 100000 in
theorem begun_any  (w : World) (hm : Mm w [(0, ints .u32 fT 8)]) :
    Calls Tryd.prog 44 #[] w fun e w' => e = .returned (.agg (hs true fT (fun _ => 0) 0).toArray) ∧ Below w.heap.size w w' := by
  have H0 : Hid (_ ∧ _) := ⟨hm, Below.refl w.heap.size w⟩
  clear hm
  go_enter Tryd.func44, Tryd.ntmps44
  refine wp_seq ?_
  refine walk_seqA 1 [.made (hs false (fun _ => 0) (fun _ => 0) 0) 58] (sB H0) ?ho1 ?he1
  case ho1 => exact ak (fun γ => ⟨rfl, fun w' => ex_mk58 rfl⟩) trivial
  intro γ w1 l hM hl
  have H1 : Hid (Mm w1 [(γ 0, hs false (fun _ => 0) (fun _ => 0) 0), (0, ints .u32 fT 8)] ∧ _) := growB H0 hM (Nat.le_refl _) hl [0] rfl (by decide)
  have o1_0 := ownB H0 hM (Nat.le_refl _) hl (i := 0) rfl
  clear hM hl l
  generalize γ 0 = γ1_0 at H1 o1_0 ⊢
  clear γ
  refine rest0 rfl (then_normal (wp_seq ?_))
  refine walk_seqB 2 [.quiet (.agg (ints .u32 fT 8).toArray), .quiet (.agg (hs true fT (fun _ => 0) 0).toArray)] H1 ?ho2 ?he2
  case ho2 => exact ak (fun γ => ⟨rfl, fun w' h => ex_loadT h 1 rfl rfl rfl Tryd.isAgg53 Tryd.sizeOf53 (ints_whole _ _ _) (ints_len _ _ _)⟩) (ak (fun γ => ⟨rfl, fun w' _ => ex_b58 rfl rfl rfl⟩) trivial)
  intro _ w2 H2
  clear H1
  refine rest_at (l := [2]) rfl ?_
  refine rest_store rfl rfl rfl (ex_storeT (vs := hs true fT (fun _ => 0) 0) H2.out.1 0 rfl rfl rfl rfl (by rw [hs_len]; exact Tryd.sizeOf58) (hs_all _ _ _ _) (by simp [hs_len])) ?_
  have H3 : Hid (Mm (w2.setCells γ1_0 0 (hs true fT (fun _ => 0) 0)) [(γ1_0, hs true fT (fun _ => 0) 0), (0, ints .u32 fT 8)] ∧ Below w.heap.size w (w2.setCells γ1_0 0 (hs true fT (fun _ => 0) 0))) := ⟨by
    have h := H2.out.1.put 0 (off := 0) (vs := hs true fT (fun _ => 0) 0) rfl (by simp [hs_len])
    rw [hs_put_all _ _ _ _ _ _ _ _] at h
    exact h, below_setCells _ o1_0.out _ _ _ H2.out.2⟩
  clear H2
  generalize hgw : World.setCells _ _ _ _ = w3 at H3 ⊢
  clear hgw
  refine rest_nil (then_normal (wp_ret ?_))
  repeat (first | refine then_ret ?_ | refine block_ret ?_)
  have hf0 := var_T H3.out.1 0 rfl Tryd.isAgg58 Tryd.sizeOf58 (hs_len _ _ _ _)
  refine bodyPost_ret (v := .agg (hs true fT (fun _ => 0) 0).toArray) (by simp [results, Tryd.results44, asAddr, hf0]) rfl ?_
  exact ⟨rfl, H3.out.2⟩
end Rg
end Go.Proofs.YtolflfjfegngnaaDoor
end
section
namespace Go.Proofs.YtolflfjfegngnaaDoor
open Go.RowKit
namespace Rg
/-- Bytes that can be read. -/
structure Rs (gb o n : Nat) (f : Nat → Nat) (w : World) : Prop where
  lt : 0 < n → gb < w.heap.size
  at_ : ∀ i, i < n → w.cell? ⟨gb, o + i, none⟩ = some (Z8 (f i))
theorem Rs.below {gb o n : Nat} {f : Nat → Nat} {w w' : World} (h : Rs gb o n f w) (hb : Below w.heap.size w w') : Rs gb o n f w' :=
  ⟨fun hn => Nat.lt_of_lt_of_le (h.lt hn) hb.size, fun i hi => by rw [hb.cell (p := ⟨gb, o + i, none⟩) (h.lt (by omega))]; exact h.at_ i hi⟩
theorem Rs.src {g gb o n : Nat} {f : Nat → Nat} {w w' : World} (h : Rs gb o n f w) (hb : Below w.heap.size w w') (hg : w.heap.size ≤ g) : Src g gb o n f w' :=
  ⟨(h.below hb).lt, fun hn e => by have := h.lt hn; omega, (h.below hb).at_⟩
/-- The digest of n bytes, as the program finds it. -/
def dg0 (f : Nat → Nat) (n : Nat) : Nat → Nat := fz (hby f ⟨fT, fun _ => 0, 0⟩ n).s (hby f ⟨fT, fun _ => 0, 0⟩ n).r (hby f ⟨fT, fun _ => 0, 0⟩ n).c
theorem call44 : ∀ args w, (callFunc 44 args).run Tryd.prog w = .ok (.enter 44 args) w := by intro args w; go_simp
theorem call45 : ∀ args w, (callFunc 45 args).run Tryd.prog w = .ok (.enter 45 args) w := by intro args w; go_simp
theorem call46 : ∀ args w, (callFunc 46 args).run Tryd.prog w = .ok (.enter 46 args) w := by intro args w; go_simp
end Rg
end Go.Proofs.YtolflfjfegngnaaDoor
end
section
namespace Go.Proofs.YtolflfjfegngnaaDoor
open Go.RowKit
namespace Rg
set_option maxRecDepth 100000
/-- A text of n letters. -/
def st (f : Nat → Nat) (n : Nat) : ByteArray := strOfNums ((List.range n).map fun j => (f j : Int))
section
variable {ρ : Operand → Value} {o : Oper} {x y : Operand} {g j a b : Nat} {f : Nat → Nat} {w : World}
end
end Rg
end Go.Proofs.YtolflfjfegngnaaDoor
end
section
namespace Go.Proofs.YtolflfjfegngnaaDoor
open Go.RowKit
namespace Rg
set_option maxRecDepth 100000
section
variable {ρ : Operand → Value} {o : Oper} {x y : Operand} {j a b n : Nat} {f : Nat → Nat} {w : World}
end
end Rg
end Go.Proofs.YtolflfjfegngnaaDoor
end
section
namespace Go.Proofs.YtolflfjfegngnaaDoor
open Go.RowKit
namespace Rg
set_option maxRecDepth 100000
section
variable {ρ : Operand → Value} {o : Oper} {x y : Operand} {g off m c j k n : Nat} {f : Nat → Nat} {w : World}
theorem ex_ixS22 (ho : o.op = .indexAddr 22 x y) (hx : ρ x = .slice (some ⟨g, off, none⟩) m c) (hy : ρ y = .int .i64 ((j : Nat) : Int)) (h : j < m) : (execOp ρ o).run Tryd.prog w = .ok (.value (PT g (off + j))) w := by
  simp only [execOp, ho, hx, hy]
  clear ho hx hy
  go_simp
theorem ex_ldR (h : Rs g off n f w) (hk : k < n) (ho : o.op = .load 5 x) (hx : ρ x = PT g (off + k)) : (execOp ρ o).run Tryd.prog w = .ok (.value (Z8 (f k))) w := by
  have c0 := h.at_ k hk
  have ha : ∀ w, (isAgg 5).run Tryd.prog w = .ok false w := Tryd.isAgg5
  clear h
  simp only [execOp, ho, hx]
  go_simp
end
/-- A word's bytes, one by one. -/
def iw (v : Nat → Nat) (t : Nat) (y : Nat → Nat) : Nat → Nat → Nat
  | 0 => v
  | i + 1 => up (iw v t y i) t (ou (sl (iw v t y i t) 8) (c32 (y i)))
/-- The words of a block, as the document makes them. -/
def dw (P : Nat → Nat) (ap : Nat) : Nat → Nat → Nat
  | 0 => fun _ => 0
  | k + 1 => if k < 16 then iw (dw P ap k) k (fun i => P ((ap + (4 * k)) + i)) 4 else up (dw P ap k) k (ad (ad (ad (sB' (dw P ap k (k - 2))) (dw P ap k (k - 7))) (sA (dw P ap k (k - 15)))) (dw P ap k (k - 16)))
theorem dw_lo (P : Nat → Nat) (ap : Nat) {k : Nat} (h : k < 16) : dw P ap (k + 1) = iw (dw P ap k) k (fun i => P ((ap + (4 * k)) + i)) 4 := by rw [dw, if_pos h]
theorem dw_hi (P : Nat → Nat) (ap : Nat) {k : Nat} (h : ¬ k < 16) : dw P ap (k + 1) = up (dw P ap k) k (ad (ad (ad (sB' (dw P ap k (k - 2))) (dw P ap k (k - 7))) (sA (dw P ap k (k - 15)))) (dw P ap k (k - 16))) := by rw [dw, if_neg h]
def xp (K W : Nat) (x : Nat → Nat) : Nat := ad (ad (ad (ad (x 7) (gB (x 4))) (xo (an (x 4) (x 5)) (an (nt (x 4)) (x 6)))) K) W
def xq (x : Nat → Nat) : Nat := ad (gA (x 0)) (xo (xo (an (x 0) (x 1)) (an (x 0) (x 2))) (an (x 1) (x 2)))
def xs (h K W : Nat → Nat) : Nat → Nat → Nat
  | 0 => h
  | k + 1 => ei (ad (xp (K k) (W k) (xs h K W k)) (xq (xs h K W k))) (xs h K W k 0) (xs h K W k 1) (xs h K W k 2) (ad (xs h K W k 3) (xp (K k) (W k) (xs h K W k))) (xs h K W k 4) (xs h K W k 5) (xs h K W k 6)
def hv (h x : Nat → Nat) : Nat → Nat → Nat
  | 0 => h
  | k + 1 => up (hv h x k) k (ad (hv h x k k) (x k))
/-- The eight numbers behind a block, as the document has it. -/
def db (h K P : Nat → Nat) (ap : Nat) : Nat → Nat := hv h (xs h K (dw P ap 64) 64) 8
theorem call60 : ∀ args w, (callFunc 60 args).run Tryd.prog w = .ok (.enter 60 args) w := by intro args w; go_simp
set_option maxHeartbeats 4000000 in
set_option maxRecDepth 100000 in
theorem block_any (hq K P : Nat → Nat) (gp np cpp ap : Nat) (hap : ap + 64 ≤ np) (hnp : np < 4611686018427387904) (w : World) (hR : Rs gp 0 np P w) :
    Calls Tryd.prog 50 #[.agg (ints .u32 hq 8).toArray, .agg (ints .u32 K 64).toArray, .slice (some ⟨gp, 0, none⟩) np cpp, .int .i64 ((ap : Nat) : Int)] w fun e w' => e = .returned (.agg (ints .u32 (db hq K P ap) 8).toArray) ∧ Below w.heap.size w w' := by
  have H0 : Hid (_ ∧ _) := ⟨Mm.nil w, Below.refl w.heap.size w⟩
  have R0 : Hid (Rs gp 0 np P w) := hR
  clear hR
  go_enter Tryd.func50, Tryd.ntmps50
  refine wp_seq ?_
  refine walk_seqA 3 [.made (ints .u32 hq 8) 52, .made (ints .u32 K 64) 78, .made (ints .u32 (fun _ => 0) 8) 52] (sB H0) ?ho1 ?he1
  case ho1 => exact ak (fun γ => ⟨rfl, fun w' => ex_boxT rfl rfl⟩) (ak (fun γ => ⟨rfl, fun w' => ex_boxT rfl rfl⟩) (ak (fun γ => ⟨rfl, fun w' => ex_mk52 rfl⟩) trivial))
  intro γ w1 l hM hl
  have H1 : Hid (Mm w1 [(γ 0, ints .u32 hq 8), (γ 1, ints .u32 K 64), (γ 2, ints .u32 (fun _ => 0) 8)] ∧ _) := growB H0 hM (Nat.le_refl _) hl [0, 1, 2] rfl (by decide)
  have o1_0 := ownB H0 hM (Nat.le_refl _) hl (i := 0) rfl
  have o1_1 := ownB H0 hM (Nat.le_refl _) hl (i := 1) rfl
  have o1_2 := ownB H0 hM (Nat.le_refl _) hl (i := 2) rfl
  clear hM hl l
  generalize γ 0 = γ1_0 at H1 o1_0 ⊢
  generalize γ 1 = γ1_1 at H1 o1_1 ⊢
  generalize γ 2 = γ1_2 at H1 o1_2 ⊢
  clear γ
  refine rest0 rfl (then_normal (wp_seq ?_))
  refine walk_seqA 1 [.made (ints .u32 (fun _ => 0) 64) 78] (sB H1) ?ho2 ?he2
  case ho2 => exact ak (fun γ => ⟨rfl, fun w' => ex_mk78 rfl⟩) trivial
  intro γ w2 l hM hl
  have H2 : Hid (Mm w2 [(γ 0, ints .u32 (fun _ => 0) 64), (γ1_0, ints .u32 hq 8), (γ1_1, ints .u32 K 64), (γ1_2, ints .u32 (fun _ => 0) 8)] ∧ _) := growB H1 hM (Nat.le_refl _) hl [0] rfl (by decide)
  have o2_0 := ownB H1 hM (Nat.le_refl _) hl (i := 0) rfl
  clear hM hl l H1
  generalize γ 0 = γ2_0 at H2 o2_0 ⊢
  clear γ
  refine rest0 rfl (then_normal (wp_seq (wp_seq ?_)))
  refine walk_seqB 1 [.quiet (.int .i64 0)] H2 ?ho3 ?he3
  case ho3 => exact ak (fun _ => ⟨rfl, fun _ _ => rfl⟩) trivial
  intro _ w3 H3
  clear H2
  refine rest0 rfl (then_normal (wp_block ?_))
  refine loop_ghost (α := Nat) (fun k a' w' => ∃ s0 : Nat → Value, a' = ⟨#[.agg (ints .u32 hq 8).toArray, .agg (ints .u32 K 64).toArray, .slice (some ⟨gp, 0, none⟩) np cpp, .int .i64 ((ap : Nat) : Int), PT γ1_0 0, PT γ1_1 0, undef, undef, PT γ1_2 0, PT γ2_0 0, .int .i64 ((k : Nat) : Int), s0 11, s0 12, s0 13, undef, undef, undef, undef, undef, s0 19, s0 20, s0 21, s0 22, s0 23, s0 24, s0 25, s0 26, s0 27, s0 28, s0 29, s0 30, s0 31, s0 32, s0 33, s0 34, s0 35, s0 36, s0 37, s0 38, s0 39, s0 40, s0 41, s0 42, s0 43, s0 44, s0 45, s0 46, s0 47, s0 48, s0 49, s0 50, s0 51, s0 52, s0 53, s0 54, s0 55, s0 56, s0 57, s0 58, s0 59, s0 60, s0 61, s0 62, s0 63, s0 64, s0 65, s0 66, s0 67, s0 68, s0 69, s0 70, s0 71, s0 72, s0 73, s0 74, s0 75, s0 76, s0 77, s0 78, s0 79, s0 80, s0 81, s0 82, s0 83, s0 84, s0 85, s0 86, s0 87, s0 88, s0 89, s0 90, s0 91, s0 92, s0 93, s0 94, undef, undef, undef, undef, undef, undef, undef, undef, undef, undef, undef, undef, undef, undef, undef, undef, undef, undef, undef, undef, undef, undef, undef, undef, undef, undef, undef, undef, undef, undef, undef, undef, undef, undef, undef, undef, undef, undef, undef, undef, undef, undef, undef, undef, undef, undef, undef, undef, undef, undef, undef, undef, undef, undef, undef, undef, undef, undef, undef, undef, undef, undef, undef, undef, undef, undef, undef, undef, undef, undef, undef, undef, undef, undef, undef, undef, undef, undef, undef, undef, undef, undef, undef, undef, undef, undef, undef, undef, undef, undef, undef, undef, undef, undef, undef, undef, undef, undef, undef, undef, undef, undef, undef], []⟩ ∧ (Mm w' [(γ2_0, ints .u32 (dw P ap k) 64), (γ1_0, ints .u32 hq 8), (γ1_1, ints .u32 K 64), (γ1_2, ints .u32 (fun _ => 0) 8)] ∧ Below w.heap.size w w') ∧ k ≤ 64) (fun k => 64 - k) 0 ?st0 ?rd0
  case st0 => exact ⟨(slotfn [undef, undef, undef, undef, undef, undef, undef, undef, undef, undef, undef, undef, undef, undef, undef, undef, undef, undef, undef, undef, undef, undef, undef, undef, undef, undef, undef, undef, undef, undef, undef, undef, undef, undef, undef, undef, undef, undef, undef, undef, undef, undef, undef, undef, undef, undef, undef, undef, undef, undef, undef, undef, undef, undef, undef, undef, undef, undef, undef, undef, undef, undef, undef, undef, undef, undef, undef, undef, undef, undef, undef, undef, undef, undef, undef, undef, undef, undef, undef, undef, undef, undef, undef, undef, undef, undef, undef, undef, undef, undef, undef, undef, undef, undef, undef]), rfl, ⟨H3.out.1, H3.out.2⟩, by omega⟩
  intro k a' w4 hI
  obtain ⟨s0, rfl, hMB, hk0⟩ := hI
  have H4 : Hid (_ ∧ _) := hMB
  clear hMB H3
  by_cases hlt : k < 64
  · have hrd : True := trivial
    clear hrd
    by_cases h16 : k < 16
    · have hrd : True := trivial
      clear hrd
      refine wp_seq (wp_seq ?_)
      refine walk_seqB 2 [.quiet (.int .i64 ((k : Nat) : Int)), .quiet (.bool true)] H4 ?ho4z ?he4z
      case ho4z => exact ak (fun _ => ⟨rfl, fun _ _ => rfl⟩) (ak (by refine fun γ => ⟨rfl, fun w' h => ?_⟩; clear h; go_simp <;> omega) trivial)
      intro _ w5 H5
      clear H4
      refine rest0 rfl (then_normal (wp_cond_true rfl ?_))
      refine wp_skip (then_normal ?_)
      refine wp_seq (wp_block ?_)
      refine wp_seq (wp_seq ?_)
      refine walk_seqB 2 [.quiet (.int .i64 ((k : Nat) : Int)), .quiet (.bool true)] H5 ?ho5z ?he5z
      case ho5z => exact ak (fun _ => ⟨rfl, fun _ _ => rfl⟩) (ak (by refine fun γ => ⟨rfl, fun w' h => ?_⟩; clear h; go_simp <;> omega) trivial)
      intro _ w6 H6
      clear H5
      refine rest0 rfl (then_normal (wp_cond_true rfl ?_))
      refine wp_seq (wp_seq ?_)
      refine walk_seqB 1 [.quiet (.int .i64 0)] H6 ?ho6z ?he6z
      case ho6z => exact ak (fun _ => ⟨rfl, fun _ _ => rfl⟩) trivial
      intro _ w7 H7
      clear H6
      refine rest0 rfl (then_normal (wp_block ?_))
      refine loop_ghost (α := Nat) (fun i a' w' => ∃ s2 : Nat → Value, a' = ⟨#[.agg (ints .u32 hq 8).toArray, .agg (ints .u32 K 64).toArray, .slice (some ⟨gp, 0, none⟩) np cpp, .int .i64 ((ap : Nat) : Int), PT γ1_0 0, PT γ1_1 0, undef, undef, PT γ1_2 0, PT γ2_0 0, .int .i64 ((k : Nat) : Int), .int .i64 ((i : Nat) : Int), s0 12, s0 13, undef, undef, undef, undef, undef, .int .i64 ((k : Nat) : Int), .bool true, s0 21, s0 22, .int .i64 ((k : Nat) : Int), .bool true, s2 25, s2 26, s2 27, s2 28, s2 29, s2 30, s2 31, s2 32, s2 33, s2 34, s2 35, s2 36, s2 37, s2 38, s2 39, s2 40, s2 41, s2 42, s2 43, s2 44, s2 45, s0 46, s0 47, s0 48, s0 49, s0 50, s0 51, s0 52, s0 53, s0 54, s0 55, s0 56, s0 57, s0 58, s0 59, s0 60, s0 61, s0 62, s0 63, s0 64, s0 65, s0 66, s0 67, s0 68, s0 69, s0 70, s0 71, s0 72, s0 73, s0 74, s0 75, s0 76, s0 77, s0 78, s0 79, s0 80, s0 81, s0 82, s0 83, s0 84, s0 85, s0 86, s0 87, s0 88, s0 89, s0 90, s0 91, s0 92, s0 93, s0 94, undef, undef, undef, undef, undef, undef, undef, undef, undef, undef, undef, undef, undef, undef, undef, undef, undef, undef, undef, undef, undef, undef, undef, undef, undef, undef, undef, undef, undef, undef, undef, undef, undef, undef, undef, undef, undef, undef, undef, undef, undef, undef, undef, undef, undef, undef, undef, undef, undef, undef, undef, undef, undef, undef, undef, undef, undef, undef, undef, undef, undef, undef, undef, undef, undef, undef, undef, undef, undef, undef, undef, undef, undef, undef, undef, undef, undef, undef, undef, undef, undef, undef, undef, undef, undef, undef, undef, undef, undef, undef, undef, undef, undef, undef, undef, undef, undef, undef, undef, undef, undef, undef, undef], []⟩ ∧ (Mm w' [(γ2_0, ints .u32 (iw (dw P ap k) k (fun i => P ((ap + (4 * k)) + i)) i) 64), (γ1_0, ints .u32 hq 8), (γ1_1, ints .u32 K 64), (γ1_2, ints .u32 (fun _ => 0) 8)] ∧ Below w.heap.size w w') ∧ i ≤ 4) (fun i => 4 - i) 0 ?st2 ?rd2
      case st2 => exact ⟨(slotfn [undef, undef, undef, undef, undef, undef, undef, undef, undef, undef, undef, undef, undef, undef, undef, undef, undef, undef, undef, undef, undef, undef, undef, undef, undef, s0 25, s0 26, s0 27, s0 28, s0 29, s0 30, s0 31, s0 32, s0 33, s0 34, s0 35, s0 36, s0 37, s0 38, s0 39, s0 40, s0 41, s0 42, s0 43, s0 44, s0 45]), rfl, ⟨H7.out.1, H7.out.2⟩, by omega⟩
      intro i a' w8 hI
      obtain ⟨s2, rfl, hMB, hk2⟩ := hI
      have H8 : Hid (_ ∧ _) := hMB
      clear hMB H7
      by_cases hlti : i < 4
      · have hrd : True := trivial
        clear hrd
        refine wp_seq (wp_seq ?_)
        refine walk_seqB 2 [.quiet (.int .i64 ((i : Nat) : Int)), .quiet (.bool true)] H8 ?ho7z ?he7z
        case ho7z => exact ak (fun _ => ⟨rfl, fun _ _ => rfl⟩) (ak (by refine fun γ => ⟨rfl, fun w' h => ?_⟩; clear h; go_simp <;> omega) trivial)
        intro _ w9 H9
        clear H8
        refine rest0 rfl (then_normal (wp_cond_true rfl ?_))
        refine wp_skip (then_normal ?_)
        refine wp_seq (wp_block ?_)
        refine (walk_any) (by kernel_rfl) 17 [.quiet (.int .i64 ((k : Nat) : Int)), .quiet (.int .i64 ((k : Nat) : Int)), .quiet (PT γ2_0 k), .quiet (W32 ((iw (dw P ap k) k (fun i => P ((ap + (4 * k)) + i)) i) k)), .quiet (W32 (sl ((iw (dw P ap k) k (fun i => P ((ap + (4 * k)) + i)) i) k) 8)), .quiet (.slice (some ⟨gp, 0, none⟩) np cpp), .quiet (.int .i64 ((ap : Nat) : Int)), .quiet (.int .i64 ((k : Nat) : Int)), .quiet (.int .i64 ((4 * k : Nat) : Int)), .quiet (.int .i64 ((ap + (4 * k) : Nat) : Int)), .quiet (.int .i64 ((i : Nat) : Int)), .quiet (.int .i64 (((ap + (4 * k)) + i : Nat) : Int)), .quiet (PT gp (0 + ((ap + (4 * k)) + i))), .quiet (Z8 (P ((ap + (4 * k)) + i))), .quiet (W32 (c32 (P ((ap + (4 * k)) + i)))), .quiet (W32 (ou (sl ((iw (dw P ap k) k (fun i => P ((ap + (4 * k)) + i)) i) k) 8) (c32 (P ((ap + (4 * k)) + i))))), .quiet (PT γ2_0 k)] (fun u' => Mm u' [(γ2_0, ints .u32 (iw (dw P ap k) k (fun i => P ((ap + (4 * k)) + i)) i) 64), (γ1_0, ints .u32 hq 8), (γ1_1, ints .u32 K 64), (γ1_2, ints .u32 (fun _ => 0) 8)] ∧ Rs gp 0 np P u') ?pre8z ?F8z ?hpre8z (fun γ => ?hF8z) (by kernel_rfl) ?hL8z ?hS8z ?ho8z ?he8z
        case hpre8z => simp only [tk, tz]; rfl
        case hF8z => simp only [fill, Kind.val, Act.put, sa, sz, ss]; rfl
        case hL8z => exact trivial
        case hS8z => exact fun w' hb => ⟨H9.out.1.below hb, R0.out.below (H9.out.2.trans (hb.mono H9.out.2.size))⟩
        case ho8z =>
          refine ak (fun _ => ⟨rfl, fun _ _ => rfl⟩) ?_
          refine ak (fun _ => ⟨rfl, fun _ _ => rfl⟩) ?_
          refine ak (fun γ => ⟨rfl, fun w' _ => ex_ix0_78 (j := k) rfl rfl rfl (by omega)⟩) ?_
          refine ak (fun γ => ⟨rfl, fun w' hX => have h := hX.1; ex_loadC h 0 rfl rfl rfl Tryd.isAgg51 (ints_get _ _ (by omega))⟩) ?_
          refine ak (fun γ => ⟨rfl, fun w' _ => ex_shl32 (k := 8) (by decide) rfl rfl rfl⟩) ?_
          refine ak (fun _ => ⟨rfl, fun _ _ => rfl⟩) ?_
          refine ak (fun _ => ⟨rfl, fun _ _ => rfl⟩) ?_
          refine ak (fun _ => ⟨rfl, fun _ _ => rfl⟩) ?_
          refine ak (by refine fun γ => ⟨rfl, fun w' h => ?_⟩; clear h; go_simp; rw [IntKind.wrap_i64]; omega) ?_
          refine ak (by refine fun γ => ⟨rfl, fun w' h => ?_⟩; clear h; go_simp; rw [IntKind.wrap_i64]; omega) ?_
          refine ak (fun _ => ⟨rfl, fun _ _ => rfl⟩) ?_
          refine ak (by refine fun γ => ⟨rfl, fun w' h => ?_⟩; clear h; go_simp; rw [IntKind.wrap_i64]; omega) ?_
          refine ak (fun γ => ⟨rfl, fun w' _ => ex_ixS22 (m := np) (j := (ap + (4 * k)) + i) rfl rfl rfl (by omega)⟩) ?_
          refine ak (fun γ => ⟨rfl, fun w' hX => ex_ldR (k := ((ap + (4 * k)) + i)) hX.2 (by omega) rfl rfl⟩) ?_
          refine ak (fun γ => ⟨rfl, fun w' _ => ex_cv5_51 rfl rfl⟩) ?_
          refine ak (fun γ => ⟨rfl, fun w' _ => ex_or32 rfl rfl rfl⟩) ?_
          refine ak (fun γ => ⟨rfl, fun w' _ => ex_ix0_78 (j := k) rfl rfl rfl (by omega)⟩) ?_
          exact trivial
        intro γ w10 l hM hl
        have H10 := keepB H9 hM.below
        clear hM hl l H9 γ
        refine rest_at (l := [17]) rfl ?_
        refine rest_store rfl rfl rfl (ex_storeI H10.out.1 0 rfl rfl Tryd.sizeOf51 rfl rfl (by rw [ints_len]; omega)) ?_
        have H11 : Hid (Mm (w10.setCells γ2_0 k ([W32 (ou (sl ((iw (dw P ap k) k (fun i => P ((ap + (4 * k)) + i)) i) k) 8) (c32 (P ((ap + (4 * k)) + i))))])) [(γ2_0, ints .u32 (up (iw (dw P ap k) k (fun i => P ((ap + (4 * k)) + i)) i) k (ou (sl ((iw (dw P ap k) k (fun i => P ((ap + (4 * k)) + i)) i) k) 8) (c32 (P ((ap + (4 * k)) + i))))) 64), (γ1_0, ints .u32 hq 8), (γ1_1, ints .u32 K 64), (γ1_2, ints .u32 (fun _ => 0) 8)] ∧ Below w.heap.size w (w10.setCells γ2_0 k ([W32 (ou (sl ((iw (dw P ap k) k (fun i => P ((ap + (4 * k)) + i)) i) k) 8) (c32 (P ((ap + (4 * k)) + i))))]))) := ⟨by
          have h := H10.out.1.put 0 (off := k) (vs := [W32 (ou (sl ((iw (dw P ap k) k (fun i => P ((ap + (4 * k)) + i)) i) k) 8) (c32 (P ((ap + (4 * k)) + i))))]) rfl (by rw [ints_len]; simp only [List.length_cons, List.length_nil]; omega)
          rw [ints_patch _ _ _ _ (by omega)] at h
          exact h, below_setCells _ o2_0.out _ _ _ H10.out.2⟩
        clear H10
        generalize hgw : World.setCells _ _ _ _ = w11 at H11 ⊢
        clear hgw
        refine rest_nil (block_normal (then_normal ?_))
        refine walk_seqB 2 [.quiet (.int .i64 ((i : Nat) : Int)), .quiet (.int .i64 ((i + 1 : Nat) : Int))] H11 ?ho9z ?he9z
        case ho9z => exact ak (fun _ => ⟨rfl, fun _ _ => rfl⟩) (ak (by refine fun γ => ⟨rfl, fun w' h => ?_⟩; clear h; go_simp; rw [IntKind.wrap_i64]; omega) trivial)
        intro _ w12 H12
        clear H11
        refine rest_at (l := [2]) rfl ?_
        refine rest_set (d := 11) rfl rfl rfl rfl ?_
        simp only [Act.put, sa, sz, ss]
        refine rest_nil (then_normal ?_)
        exact ⟨i + 1, ⟨(slotfn [undef, undef, undef, undef, undef, undef, undef, undef, undef, undef, undef, undef, undef, undef, undef, undef, undef, undef, undef, undef, undef, undef, undef, undef, undef, .int .i64 ((i : Nat) : Int), .bool true, .int .i64 ((i : Nat) : Int), .int .i64 ((i + 1 : Nat) : Int), .int .i64 ((k : Nat) : Int), .int .i64 ((k : Nat) : Int), PT γ2_0 k, W32 ((iw (dw P ap k) k (fun i => P ((ap + (4 * k)) + i)) i) k), W32 (sl ((iw (dw P ap k) k (fun i => P ((ap + (4 * k)) + i)) i) k) 8), .slice (some ⟨gp, 0, none⟩) np cpp, .int .i64 ((ap : Nat) : Int), .int .i64 ((k : Nat) : Int), .int .i64 ((4 * k : Nat) : Int), .int .i64 ((ap + (4 * k) : Nat) : Int), .int .i64 ((i : Nat) : Int), .int .i64 (((ap + (4 * k)) + i : Nat) : Int), PT gp (0 + ((ap + (4 * k)) + i)), Z8 (P ((ap + (4 * k)) + i)), W32 (c32 (P ((ap + (4 * k)) + i))), W32 (ou (sl ((iw (dw P ap k) k (fun i => P ((ap + (4 * k)) + i)) i) k) 8) (c32 (P ((ap + (4 * k)) + i)))), PT γ2_0 k]), rfl, ⟨H12.out.1, H12.out.2⟩, by omega⟩, by omega⟩
      have hiN : i = 4 := by omega
      subst hiN
      refine wp_seq (wp_seq ?_)
      refine walk_seqB 2 [.quiet (.int .i64 ((4 : Nat) : Int)), .quiet (.bool false)] H8 ?ho10z ?he10z
      case ho10z => exact ak (fun _ => ⟨rfl, fun _ _ => rfl⟩) (ak (by refine fun γ => ⟨rfl, fun w' h => ?_⟩; clear h; go_simp <;> omega) trivial)
      intro _ w13 H13
      clear H8
      refine rest0 rfl (then_normal (wp_cond_false rfl ?_))
      refine wp_exit ?_
      repeat refine then_exit ?_
      refine block_exit ?_
      refine then_normal ?_
      refine wp_exit ?_
      repeat refine then_exit ?_
      refine block_exit ?_
      refine then_normal ?_
      refine walk_seqB 2 [.quiet (.int .i64 ((k : Nat) : Int)), .quiet (.int .i64 ((k + 1 : Nat) : Int))] H13 ?ho11z ?he11z
      case ho11z => exact ak (fun _ => ⟨rfl, fun _ _ => rfl⟩) (ak (by refine fun γ => ⟨rfl, fun w' h => ?_⟩; clear h; go_simp; rw [IntKind.wrap_i64]; omega) trivial)
      intro _ w14 H14
      clear H13
      refine rest_at (l := [2]) rfl ?_
      refine rest_set (d := 10) rfl rfl rfl rfl ?_
      simp only [Act.put, sa, sz, ss]
      refine rest_nil (then_normal ?_)
      exact ⟨k + 1, ⟨(slotfn [undef, undef, undef, undef, undef, undef, undef, undef, undef, undef, undef, .int .i64 ((4 : Nat) : Int), s0 12, s0 13, undef, undef, undef, undef, undef, .int .i64 ((k : Nat) : Int), .bool true, .int .i64 ((k : Nat) : Int), .int .i64 ((k + 1 : Nat) : Int), .int .i64 ((k : Nat) : Int), .bool true, .int .i64 ((4 : Nat) : Int), .bool false, s2 27, s2 28, s2 29, s2 30, s2 31, s2 32, s2 33, s2 34, s2 35, s2 36, s2 37, s2 38, s2 39, s2 40, s2 41, s2 42, s2 43, s2 44, s2 45, s0 46, s0 47, s0 48, s0 49, s0 50, s0 51, s0 52, s0 53, s0 54, s0 55, s0 56, s0 57, s0 58, s0 59, s0 60, s0 61, s0 62, s0 63, s0 64, s0 65, s0 66, s0 67, s0 68, s0 69, s0 70, s0 71, s0 72, s0 73, s0 74, s0 75, s0 76, s0 77, s0 78, s0 79, s0 80, s0 81, s0 82, s0 83, s0 84, s0 85, s0 86, s0 87, s0 88, s0 89, s0 90, s0 91, s0 92, s0 93, s0 94]), rfl, ⟨by rw [dw_lo P ap h16]; exact H14.out.1, H14.out.2⟩, by omega⟩, by omega⟩
    · have hrd : True := trivial
      clear hrd
      refine wp_seq (wp_seq ?_)
      refine walk_seqB 2 [.quiet (.int .i64 ((k : Nat) : Int)), .quiet (.bool true)] H4 ?ho12 ?he12
      case ho12 => exact ak (fun _ => ⟨rfl, fun _ _ => rfl⟩) (ak (by refine fun γ => ⟨rfl, fun w' h => ?_⟩; clear h; go_simp <;> omega) trivial)
      intro _ w15 H15
      clear H4
      refine rest0 rfl (then_normal (wp_cond_true rfl ?_))
      refine wp_skip (then_normal ?_)
      refine wp_seq (wp_block ?_)
      refine wp_seq (wp_seq ?_)
      refine walk_seqB 2 [.quiet (.int .i64 ((k : Nat) : Int)), .quiet (.bool false)] H15 ?ho13 ?he13
      case ho13 => exact ak (fun _ => ⟨rfl, fun _ _ => rfl⟩) (ak (by refine fun γ => ⟨rfl, fun w' h => ?_⟩; clear h; go_simp <;> omega) trivial)
      intro _ w16 H16
      clear H15
      refine rest0 rfl (then_normal (wp_cond_false rfl ?_))
      refine wp_skip (then_normal (wp_seq ?_))
      refine walk_anyB 18 [.quiet (.int .i64 ((k : Nat) : Int)), .quiet (.int .i64 ((k - 15 : Nat) : Int)), .quiet (PT γ2_0 (k - 15)), .quiet (W32 ((dw P ap k) (k - 15))), .call (W32 (ro ((dw P ap k) (k - 15)) 7)), .quiet (.int .i64 ((k : Nat) : Int)), .quiet (.int .i64 ((k - 15 : Nat) : Int)), .quiet (PT γ2_0 (k - 15)), .quiet (W32 ((dw P ap k) (k - 15))), .call (W32 (ro ((dw P ap k) (k - 15)) 18)), .quiet (W32 (xo (ro ((dw P ap k) (k - 15)) 7) (ro ((dw P ap k) (k - 15)) 18))), .quiet (.int .i64 ((k : Nat) : Int)), .quiet (.int .i64 ((k - 15 : Nat) : Int)), .quiet (PT γ2_0 (k - 15)), .quiet (W32 ((dw P ap k) (k - 15))), .quiet (W32 (sr ((dw P ap k) (k - 15)) 3)), .quiet (W32 (xo (xo (ro ((dw P ap k) (k - 15)) 7) (ro ((dw P ap k) (k - 15)) 18)) (sr ((dw P ap k) (k - 15)) 3))), .quiet (W32 (xo (xo (ro ((dw P ap k) (k - 15)) 7) (ro ((dw P ap k) (k - 15)) 18)) (sr ((dw P ap k) (k - 15)) 3)))] H16 ?ho14 ?he14
      case ho14 => exact ak (fun _ => ⟨rfl, fun _ _ => rfl⟩) (ak (by refine fun γ => ⟨rfl, fun w' h => ?_⟩; clear h; go_simp; rw [IntKind.wrap_i64]; omega) (ak (fun γ => ⟨rfl, fun w' _ => ex_ix0_78 (j := k - 15) rfl rfl rfl (by omega)⟩) (ak (fun γ => ⟨rfl, fun w' h => ex_loadC h 0 rfl rfl rfl Tryd.isAgg51 (ints_get _ _ (by omega))⟩) (ak (fun γ => ⟨rfl, fun w' h => ⟨60, #[W32 ((dw P ap k) (k - 15)), .int .i64 7], exec_call rfl call60 rfl (mpn rfl), right_ro ((dw P ap k) (k - 15)) 7 (by decide) (by decide) w'⟩⟩) (ak (fun _ => ⟨rfl, fun _ _ => rfl⟩) (ak (by refine fun γ => ⟨rfl, fun w' h => ?_⟩; clear h; go_simp; rw [IntKind.wrap_i64]; omega) (ak (fun γ => ⟨rfl, fun w' _ => ex_ix0_78 (j := k - 15) rfl rfl rfl (by omega)⟩) (ak (fun γ => ⟨rfl, fun w' h => ex_loadC h 0 rfl rfl rfl Tryd.isAgg51 (ints_get _ _ (by omega))⟩) (ak (fun γ => ⟨rfl, fun w' h => ⟨60, #[W32 ((dw P ap k) (k - 15)), .int .i64 18], exec_call rfl call60 rfl (mpn rfl), right_ro ((dw P ap k) (k - 15)) 18 (by decide) (by decide) w'⟩⟩) (ak (fun γ => ⟨rfl, fun w' _ => ex_xor32 rfl rfl rfl⟩) (ak (fun _ => ⟨rfl, fun _ _ => rfl⟩) (ak (by refine fun γ => ⟨rfl, fun w' h => ?_⟩; clear h; go_simp; rw [IntKind.wrap_i64]; omega) (ak (fun γ => ⟨rfl, fun w' _ => ex_ix0_78 (j := k - 15) rfl rfl rfl (by omega)⟩) (ak (fun γ => ⟨rfl, fun w' h => ex_loadC h 0 rfl rfl rfl Tryd.isAgg51 (ints_get _ _ (by omega))⟩) (ak (fun γ => ⟨rfl, fun w' _ => ex_shr32 (k := 3) (by decide) rfl rfl rfl⟩) (ak (fun γ => ⟨rfl, fun w' _ => ex_xor32 rfl rfl rfl⟩) (ak (fun _ => ⟨rfl, fun _ _ => rfl⟩) trivial)))))))))))))))))
      intro _ w17 H17
      clear H16
      refine rest0 rfl (then_normal (wp_seq ?_))
      refine walk_anyB 18 [.quiet (.int .i64 ((k : Nat) : Int)), .quiet (.int .i64 ((k - 2 : Nat) : Int)), .quiet (PT γ2_0 (k - 2)), .quiet (W32 ((dw P ap k) (k - 2))), .call (W32 (ro ((dw P ap k) (k - 2)) 17)), .quiet (.int .i64 ((k : Nat) : Int)), .quiet (.int .i64 ((k - 2 : Nat) : Int)), .quiet (PT γ2_0 (k - 2)), .quiet (W32 ((dw P ap k) (k - 2))), .call (W32 (ro ((dw P ap k) (k - 2)) 19)), .quiet (W32 (xo (ro ((dw P ap k) (k - 2)) 17) (ro ((dw P ap k) (k - 2)) 19))), .quiet (.int .i64 ((k : Nat) : Int)), .quiet (.int .i64 ((k - 2 : Nat) : Int)), .quiet (PT γ2_0 (k - 2)), .quiet (W32 ((dw P ap k) (k - 2))), .quiet (W32 (sr ((dw P ap k) (k - 2)) 10)), .quiet (W32 (xo (xo (ro ((dw P ap k) (k - 2)) 17) (ro ((dw P ap k) (k - 2)) 19)) (sr ((dw P ap k) (k - 2)) 10))), .quiet (W32 (xo (xo (ro ((dw P ap k) (k - 2)) 17) (ro ((dw P ap k) (k - 2)) 19)) (sr ((dw P ap k) (k - 2)) 10)))] H17 ?ho15 ?he15
      case ho15 => exact ak (fun _ => ⟨rfl, fun _ _ => rfl⟩) (ak (by refine fun γ => ⟨rfl, fun w' h => ?_⟩; clear h; go_simp; rw [IntKind.wrap_i64]; omega) (ak (fun γ => ⟨rfl, fun w' _ => ex_ix0_78 (j := k - 2) rfl rfl rfl (by omega)⟩) (ak (fun γ => ⟨rfl, fun w' h => ex_loadC h 0 rfl rfl rfl Tryd.isAgg51 (ints_get _ _ (by omega))⟩) (ak (fun γ => ⟨rfl, fun w' h => ⟨60, #[W32 ((dw P ap k) (k - 2)), .int .i64 17], exec_call rfl call60 rfl (mpn rfl), right_ro ((dw P ap k) (k - 2)) 17 (by decide) (by decide) w'⟩⟩) (ak (fun _ => ⟨rfl, fun _ _ => rfl⟩) (ak (by refine fun γ => ⟨rfl, fun w' h => ?_⟩; clear h; go_simp; rw [IntKind.wrap_i64]; omega) (ak (fun γ => ⟨rfl, fun w' _ => ex_ix0_78 (j := k - 2) rfl rfl rfl (by omega)⟩) (ak (fun γ => ⟨rfl, fun w' h => ex_loadC h 0 rfl rfl rfl Tryd.isAgg51 (ints_get _ _ (by omega))⟩) (ak (fun γ => ⟨rfl, fun w' h => ⟨60, #[W32 ((dw P ap k) (k - 2)), .int .i64 19], exec_call rfl call60 rfl (mpn rfl), right_ro ((dw P ap k) (k - 2)) 19 (by decide) (by decide) w'⟩⟩) (ak (fun γ => ⟨rfl, fun w' _ => ex_xor32 rfl rfl rfl⟩) (ak (fun _ => ⟨rfl, fun _ _ => rfl⟩) (ak (by refine fun γ => ⟨rfl, fun w' h => ?_⟩; clear h; go_simp; rw [IntKind.wrap_i64]; omega) (ak (fun γ => ⟨rfl, fun w' _ => ex_ix0_78 (j := k - 2) rfl rfl rfl (by omega)⟩) (ak (fun γ => ⟨rfl, fun w' h => ex_loadC h 0 rfl rfl rfl Tryd.isAgg51 (ints_get _ _ (by omega))⟩) (ak (fun γ => ⟨rfl, fun w' _ => ex_shr32 (k := 10) (by decide) rfl rfl rfl⟩) (ak (fun γ => ⟨rfl, fun w' _ => ex_xor32 rfl rfl rfl⟩) (ak (fun _ => ⟨rfl, fun _ _ => rfl⟩) trivial)))))))))))))))))
      intro _ w18 H18
      clear H17
      refine rest0 rfl (then_normal ?_)
      refine walk_anyB 15 [.quiet (.int .i64 ((k : Nat) : Int)), .quiet (W32 (xo (xo (ro ((dw P ap k) (k - 2)) 17) (ro ((dw P ap k) (k - 2)) 19)) (sr ((dw P ap k) (k - 2)) 10))), .quiet (.int .i64 ((k : Nat) : Int)), .quiet (.int .i64 ((k - 7 : Nat) : Int)), .quiet (PT γ2_0 (k - 7)), .quiet (W32 ((dw P ap k) (k - 7))), .quiet (W32 (ad (xo (xo (ro ((dw P ap k) (k - 2)) 17) (ro ((dw P ap k) (k - 2)) 19)) (sr ((dw P ap k) (k - 2)) 10)) ((dw P ap k) (k - 7)))), .quiet (W32 (xo (xo (ro ((dw P ap k) (k - 15)) 7) (ro ((dw P ap k) (k - 15)) 18)) (sr ((dw P ap k) (k - 15)) 3))), .quiet (W32 (ad (ad (xo (xo (ro ((dw P ap k) (k - 2)) 17) (ro ((dw P ap k) (k - 2)) 19)) (sr ((dw P ap k) (k - 2)) 10)) ((dw P ap k) (k - 7))) (xo (xo (ro ((dw P ap k) (k - 15)) 7) (ro ((dw P ap k) (k - 15)) 18)) (sr ((dw P ap k) (k - 15)) 3)))), .quiet (.int .i64 ((k : Nat) : Int)), .quiet (.int .i64 ((k - 16 : Nat) : Int)), .quiet (PT γ2_0 (k - 16)), .quiet (W32 ((dw P ap k) (k - 16))), .quiet (W32 (ad (ad (ad (xo (xo (ro ((dw P ap k) (k - 2)) 17) (ro ((dw P ap k) (k - 2)) 19)) (sr ((dw P ap k) (k - 2)) 10)) ((dw P ap k) (k - 7))) (xo (xo (ro ((dw P ap k) (k - 15)) 7) (ro ((dw P ap k) (k - 15)) 18)) (sr ((dw P ap k) (k - 15)) 3))) ((dw P ap k) (k - 16)))), .quiet (PT γ2_0 k)] H18 ?ho16 ?he16
      case ho16 => exact ak (fun _ => ⟨rfl, fun _ _ => rfl⟩) (ak (fun _ => ⟨rfl, fun _ _ => rfl⟩) (ak (fun _ => ⟨rfl, fun _ _ => rfl⟩) (ak (by refine fun γ => ⟨rfl, fun w' h => ?_⟩; clear h; go_simp; rw [IntKind.wrap_i64]; omega) (ak (fun γ => ⟨rfl, fun w' _ => ex_ix0_78 (j := k - 7) rfl rfl rfl (by omega)⟩) (ak (fun γ => ⟨rfl, fun w' h => ex_loadC h 0 rfl rfl rfl Tryd.isAgg51 (ints_get _ _ (by omega))⟩) (ak (fun γ => ⟨rfl, fun w' _ => ex_add32 rfl rfl rfl⟩) (ak (fun _ => ⟨rfl, fun _ _ => rfl⟩) (ak (fun γ => ⟨rfl, fun w' _ => ex_add32 rfl rfl rfl⟩) (ak (fun _ => ⟨rfl, fun _ _ => rfl⟩) (ak (by refine fun γ => ⟨rfl, fun w' h => ?_⟩; clear h; go_simp; rw [IntKind.wrap_i64]; omega) (ak (fun γ => ⟨rfl, fun w' _ => ex_ix0_78 (j := k - 16) rfl rfl rfl (by omega)⟩) (ak (fun γ => ⟨rfl, fun w' h => ex_loadC h 0 rfl rfl rfl Tryd.isAgg51 (ints_get _ _ (by omega))⟩) (ak (fun γ => ⟨rfl, fun w' _ => ex_add32 rfl rfl rfl⟩) (ak (fun γ => ⟨rfl, fun w' _ => ex_ix0_78 (j := k) rfl rfl rfl (by omega)⟩) trivial))))))))))))))
      intro _ w19 H19
      clear H18
      refine rest_at (l := [15]) rfl ?_
      refine rest_store rfl rfl rfl (ex_storeI H19.out.1 0 rfl rfl Tryd.sizeOf51 rfl rfl (by rw [ints_len]; omega)) ?_
      have H20 : Hid (Mm (w19.setCells γ2_0 k ([W32 (ad (ad (ad (xo (xo (ro ((dw P ap k) (k - 2)) 17) (ro ((dw P ap k) (k - 2)) 19)) (sr ((dw P ap k) (k - 2)) 10)) ((dw P ap k) (k - 7))) (xo (xo (ro ((dw P ap k) (k - 15)) 7) (ro ((dw P ap k) (k - 15)) 18)) (sr ((dw P ap k) (k - 15)) 3))) ((dw P ap k) (k - 16)))])) [(γ2_0, ints .u32 (up (dw P ap k) k (ad (ad (ad (xo (xo (ro ((dw P ap k) (k - 2)) 17) (ro ((dw P ap k) (k - 2)) 19)) (sr ((dw P ap k) (k - 2)) 10)) ((dw P ap k) (k - 7))) (xo (xo (ro ((dw P ap k) (k - 15)) 7) (ro ((dw P ap k) (k - 15)) 18)) (sr ((dw P ap k) (k - 15)) 3))) ((dw P ap k) (k - 16)))) 64), (γ1_0, ints .u32 hq 8), (γ1_1, ints .u32 K 64), (γ1_2, ints .u32 (fun _ => 0) 8)] ∧ Below w.heap.size w (w19.setCells γ2_0 k ([W32 (ad (ad (ad (xo (xo (ro ((dw P ap k) (k - 2)) 17) (ro ((dw P ap k) (k - 2)) 19)) (sr ((dw P ap k) (k - 2)) 10)) ((dw P ap k) (k - 7))) (xo (xo (ro ((dw P ap k) (k - 15)) 7) (ro ((dw P ap k) (k - 15)) 18)) (sr ((dw P ap k) (k - 15)) 3))) ((dw P ap k) (k - 16)))]))) := ⟨by
        have h := H19.out.1.put 0 (off := k) (vs := [W32 (ad (ad (ad (xo (xo (ro ((dw P ap k) (k - 2)) 17) (ro ((dw P ap k) (k - 2)) 19)) (sr ((dw P ap k) (k - 2)) 10)) ((dw P ap k) (k - 7))) (xo (xo (ro ((dw P ap k) (k - 15)) 7) (ro ((dw P ap k) (k - 15)) 18)) (sr ((dw P ap k) (k - 15)) 3))) ((dw P ap k) (k - 16)))]) rfl (by rw [ints_len]; simp only [List.length_cons, List.length_nil]; omega)
        rw [ints_patch _ _ _ _ (by omega)] at h
        exact h, below_setCells _ o2_0.out _ _ _ H19.out.2⟩
      clear H19
      generalize hgw : World.setCells _ _ _ _ = w20 at H20 ⊢
      clear hgw
      refine rest_nil (block_normal (then_normal ?_))
      refine walk_seqB 2 [.quiet (.int .i64 ((k : Nat) : Int)), .quiet (.int .i64 ((k + 1 : Nat) : Int))] H20 ?ho17 ?he17
      case ho17 => exact ak (fun _ => ⟨rfl, fun _ _ => rfl⟩) (ak (by refine fun γ => ⟨rfl, fun w' h => ?_⟩; clear h; go_simp; rw [IntKind.wrap_i64]; omega) trivial)
      intro _ w21 H21
      clear H20
      refine rest_at (l := [2]) rfl ?_
      refine rest_set (d := 10) rfl rfl rfl rfl ?_
      simp only [Act.put, sa, sz, ss]
      refine rest_nil (then_normal ?_)
      exact ⟨k + 1, ⟨(slotfn [undef, undef, undef, undef, undef, undef, undef, undef, undef, undef, undef, s0 11, W32 (xo (xo (ro ((dw P ap k) (k - 15)) 7) (ro ((dw P ap k) (k - 15)) 18)) (sr ((dw P ap k) (k - 15)) 3)), W32 (xo (xo (ro ((dw P ap k) (k - 2)) 17) (ro ((dw P ap k) (k - 2)) 19)) (sr ((dw P ap k) (k - 2)) 10)), undef, undef, undef, undef, undef, .int .i64 ((k : Nat) : Int), .bool true, .int .i64 ((k : Nat) : Int), .int .i64 ((k + 1 : Nat) : Int), .int .i64 ((k : Nat) : Int), .bool false, s0 25, s0 26, s0 27, s0 28, s0 29, s0 30, s0 31, s0 32, s0 33, s0 34, s0 35, s0 36, s0 37, s0 38, s0 39, s0 40, s0 41, s0 42, s0 43, s0 44, s0 45, .int .i64 ((k : Nat) : Int), .int .i64 ((k - 15 : Nat) : Int), PT γ2_0 (k - 15), W32 ((dw P ap k) (k - 15)), W32 (ro ((dw P ap k) (k - 15)) 7), .int .i64 ((k : Nat) : Int), .int .i64 ((k - 15 : Nat) : Int), PT γ2_0 (k - 15), W32 ((dw P ap k) (k - 15)), W32 (ro ((dw P ap k) (k - 15)) 18), W32 (xo (ro ((dw P ap k) (k - 15)) 7) (ro ((dw P ap k) (k - 15)) 18)), .int .i64 ((k : Nat) : Int), .int .i64 ((k - 15 : Nat) : Int), PT γ2_0 (k - 15), W32 ((dw P ap k) (k - 15)), W32 (sr ((dw P ap k) (k - 15)) 3), W32 (xo (xo (ro ((dw P ap k) (k - 15)) 7) (ro ((dw P ap k) (k - 15)) 18)) (sr ((dw P ap k) (k - 15)) 3)), .int .i64 ((k : Nat) : Int), .int .i64 ((k - 2 : Nat) : Int), PT γ2_0 (k - 2), W32 ((dw P ap k) (k - 2)), W32 (ro ((dw P ap k) (k - 2)) 17), .int .i64 ((k : Nat) : Int), .int .i64 ((k - 2 : Nat) : Int), PT γ2_0 (k - 2), W32 ((dw P ap k) (k - 2)), W32 (ro ((dw P ap k) (k - 2)) 19), W32 (xo (ro ((dw P ap k) (k - 2)) 17) (ro ((dw P ap k) (k - 2)) 19)), .int .i64 ((k : Nat) : Int), .int .i64 ((k - 2 : Nat) : Int), PT γ2_0 (k - 2), W32 ((dw P ap k) (k - 2)), W32 (sr ((dw P ap k) (k - 2)) 10), W32 (xo (xo (ro ((dw P ap k) (k - 2)) 17) (ro ((dw P ap k) (k - 2)) 19)) (sr ((dw P ap k) (k - 2)) 10)), .int .i64 ((k : Nat) : Int), W32 (xo (xo (ro ((dw P ap k) (k - 2)) 17) (ro ((dw P ap k) (k - 2)) 19)) (sr ((dw P ap k) (k - 2)) 10)), .int .i64 ((k : Nat) : Int), .int .i64 ((k - 7 : Nat) : Int), PT γ2_0 (k - 7), W32 ((dw P ap k) (k - 7)), W32 (ad (xo (xo (ro ((dw P ap k) (k - 2)) 17) (ro ((dw P ap k) (k - 2)) 19)) (sr ((dw P ap k) (k - 2)) 10)) ((dw P ap k) (k - 7))), W32 (xo (xo (ro ((dw P ap k) (k - 15)) 7) (ro ((dw P ap k) (k - 15)) 18)) (sr ((dw P ap k) (k - 15)) 3)), W32 (ad (ad (xo (xo (ro ((dw P ap k) (k - 2)) 17) (ro ((dw P ap k) (k - 2)) 19)) (sr ((dw P ap k) (k - 2)) 10)) ((dw P ap k) (k - 7))) (xo (xo (ro ((dw P ap k) (k - 15)) 7) (ro ((dw P ap k) (k - 15)) 18)) (sr ((dw P ap k) (k - 15)) 3))), .int .i64 ((k : Nat) : Int), .int .i64 ((k - 16 : Nat) : Int), PT γ2_0 (k - 16), W32 ((dw P ap k) (k - 16)), W32 (ad (ad (ad (xo (xo (ro ((dw P ap k) (k - 2)) 17) (ro ((dw P ap k) (k - 2)) 19)) (sr ((dw P ap k) (k - 2)) 10)) ((dw P ap k) (k - 7))) (xo (xo (ro ((dw P ap k) (k - 15)) 7) (ro ((dw P ap k) (k - 15)) 18)) (sr ((dw P ap k) (k - 15)) 3))) ((dw P ap k) (k - 16))), PT γ2_0 k]), rfl, ⟨by rw [dw_hi P ap h16]; exact H21.out.1, H21.out.2⟩, by omega⟩, by omega⟩
  have hkN : k = 64 := by omega
  subst hkN
  refine wp_seq (wp_seq ?_)
  refine walk_seqB 2 [.quiet (.int .i64 ((64 : Nat) : Int)), .quiet (.bool false)] H4 ?ho18 ?he18
  case ho18 => exact ak (fun _ => ⟨rfl, fun _ _ => rfl⟩) (ak (by refine fun γ => ⟨rfl, fun w' h => ?_⟩; clear h; go_simp <;> omega) trivial)
  intro _ w22 H22
  clear H4
  refine rest0 rfl (then_normal (wp_cond_false rfl ?_))
  refine wp_exit ?_
  repeat refine then_exit ?_
  refine block_exit ?_
  refine then_normal (wp_seq ?_)
  refine walk_seqA 3 [.quiet (.agg (ints .u32 hq 8).toArray), .made (ints .u32 (fun _ => 0) 8) 52, .laid 1 (ints .u32 (fun _ => 0) 8) (ints .u32 hq 8)] (sB H22) ?ho19 ?he19 (hL := ?hL19)
  case hL19 => exact ⟨⟨_, rfl⟩, trivial⟩
  case ho19 => exact ak (fun γ => ⟨rfl, fun w' h => ex_loadT h 1 rfl rfl rfl Tryd.isAgg52 Tryd.sizeOf52 (ints_whole _ _ _) (ints_len _ _ _)⟩) (ak (fun γ => ⟨rfl, fun w' => ex_mk52 rfl⟩) (ak (fun γ => ⟨rfl, rfl, (ints_len _ _ _).trans (ints_len _ _ _).symm, fun w' h => ex_laidI h Tryd.sizeOf52 rfl rfl rfl⟩) trivial))
  intro γ w23 l hM hl
  have H23 : Hid (Mm w23 [(γ 1, ints .u32 hq 8), (γ2_0, ints .u32 (dw P ap 64) 64), (γ1_0, ints .u32 hq 8), (γ1_1, ints .u32 K 64), (γ1_2, ints .u32 (fun _ => 0) 8)] ∧ _) := growB H22 hM (Nat.le_refl _) hl [1] rfl (by decide)
  have o19_1 := ownB H22 hM (Nat.le_refl _) hl (i := 1) rfl
  clear hM hl l H22
  generalize γ 1 = γ19_1 at H23 o19_1 ⊢
  clear γ
  refine rest0 rfl (then_normal (wp_seq (wp_seq ?_)))
  refine walk_seqB 1 [.quiet (.int .i64 0)] H23 ?ho20 ?he20
  case ho20 => exact ak (fun _ => ⟨rfl, fun _ _ => rfl⟩) trivial
  intro _ w24 H24
  clear H23
  refine rest0 rfl (then_normal (wp_block ?_))
  refine loop_ghost (α := Nat) (fun t a' w' => ∃ s4 : Nat → Value, a' = ⟨#[.agg (ints .u32 hq 8).toArray, .agg (ints .u32 K 64).toArray, .slice (some ⟨gp, 0, none⟩) np cpp, .int .i64 ((ap : Nat) : Int), PT γ1_0 0, PT γ1_1 0, undef, undef, PT γ1_2 0, PT γ2_0 0, .int .i64 ((64 : Nat) : Int), s0 11, s0 12, s0 13, PT γ19_1 0, .int .i64 ((t : Nat) : Int), s4 16, s4 17, undef, .int .i64 ((64 : Nat) : Int), .bool false, s0 21, s0 22, s0 23, s0 24, s0 25, s0 26, s0 27, s0 28, s0 29, s0 30, s0 31, s0 32, s0 33, s0 34, s0 35, s0 36, s0 37, s0 38, s0 39, s0 40, s0 41, s0 42, s0 43, s0 44, s0 45, s0 46, s0 47, s0 48, s0 49, s0 50, s0 51, s0 52, s0 53, s0 54, s0 55, s0 56, s0 57, s0 58, s0 59, s0 60, s0 61, s0 62, s0 63, s0 64, s0 65, s0 66, s0 67, s0 68, s0 69, s0 70, s0 71, s0 72, s0 73, s0 74, s0 75, s0 76, s0 77, s0 78, s0 79, s0 80, s0 81, s0 82, s0 83, s0 84, s0 85, s0 86, s0 87, s0 88, s0 89, s0 90, s0 91, s0 92, s0 93, s0 94, .agg (ints .u32 hq 8).toArray, s4 96, s4 97, s4 98, s4 99, s4 100, s4 101, s4 102, s4 103, s4 104, s4 105, s4 106, s4 107, s4 108, s4 109, s4 110, s4 111, s4 112, s4 113, s4 114, s4 115, s4 116, s4 117, s4 118, s4 119, s4 120, s4 121, s4 122, s4 123, s4 124, s4 125, s4 126, s4 127, s4 128, s4 129, s4 130, s4 131, s4 132, s4 133, s4 134, s4 135, s4 136, s4 137, s4 138, s4 139, s4 140, s4 141, s4 142, s4 143, s4 144, s4 145, s4 146, s4 147, s4 148, s4 149, s4 150, s4 151, s4 152, s4 153, s4 154, s4 155, s4 156, s4 157, s4 158, s4 159, s4 160, s4 161, s4 162, s4 163, s4 164, s4 165, s4 166, s4 167, s4 168, s4 169, s4 170, s4 171, s4 172, s4 173, s4 174, s4 175, s4 176, s4 177, s4 178, s4 179, s4 180, s4 181, s4 182, s4 183, undef, undef, undef, undef, undef, undef, undef, undef, undef, undef, undef, undef, undef, undef], []⟩ ∧ (Mm w' [(γ19_1, ints .u32 (xs hq K (dw P ap 64) t) 8), (γ2_0, ints .u32 (dw P ap 64) 64), (γ1_0, ints .u32 hq 8), (γ1_1, ints .u32 K 64), (γ1_2, ints .u32 (fun _ => 0) 8)] ∧ Below w.heap.size w w') ∧ t ≤ 64) (fun t => 64 - t) 0 ?st4 ?rd4
  case st4 => exact ⟨(slotfn [undef, undef, undef, undef, undef, undef, undef, undef, undef, undef, undef, undef, undef, undef, undef, undef, undef, undef, undef, undef, undef, undef, undef, undef, undef, undef, undef, undef, undef, undef, undef, undef, undef, undef, undef, undef, undef, undef, undef, undef, undef, undef, undef, undef, undef, undef, undef, undef, undef, undef, undef, undef, undef, undef, undef, undef, undef, undef, undef, undef, undef, undef, undef, undef, undef, undef, undef, undef, undef, undef, undef, undef, undef, undef, undef, undef, undef, undef, undef, undef, undef, undef, undef, undef, undef, undef, undef, undef, undef, undef, undef, undef, undef, undef, undef, undef, undef, undef, undef, undef, undef, undef, undef, undef, undef, undef, undef, undef, undef, undef, undef, undef, undef, undef, undef, undef, undef, undef, undef, undef, undef, undef, undef, undef, undef, undef, undef, undef, undef, undef, undef, undef, undef, undef, undef, undef, undef, undef, undef, undef, undef, undef, undef, undef, undef, undef, undef, undef, undef, undef, undef, undef, undef, undef, undef, undef, undef, undef, undef, undef, undef, undef, undef, undef, undef, undef, undef, undef, undef, undef, undef, undef, undef, undef, undef, undef, undef, undef, undef, undef, undef, undef, undef, undef]), rfl, ⟨H24.out.1, H24.out.2⟩, by omega⟩
  intro t a' w25 hI
  obtain ⟨s4, rfl, hMB, hk4⟩ := hI
  have H25 : Hid (_ ∧ _) := hMB
  clear hMB H24
  by_cases hltt : t < 64
  · have hrd : True := trivial
    clear hrd
    refine wp_seq (wp_seq ?_)
    refine walk_seqB 2 [.quiet (.int .i64 ((t : Nat) : Int)), .quiet (.bool true)] H25 ?ho21 ?he21
    case ho21 => exact ak (fun _ => ⟨rfl, fun _ _ => rfl⟩) (ak (by refine fun γ => ⟨rfl, fun w' h => ?_⟩; clear h; go_simp <;> omega) trivial)
    intro _ w26 H26
    clear H25
    refine rest0 rfl (then_normal (wp_cond_true rfl ?_))
    refine wp_skip (then_normal ?_)
    refine wp_seq (wp_block (wp_seq ?_))
    refine walk_anyB 36 [.quiet (PT γ19_1 7), .quiet (W32 ((xs hq K (dw P ap 64) t) 7)), .quiet (PT γ19_1 4), .quiet (W32 ((xs hq K (dw P ap 64) t) 4)), .call (W32 (ro ((xs hq K (dw P ap 64) t) 4) 6)), .quiet (PT γ19_1 4), .quiet (W32 ((xs hq K (dw P ap 64) t) 4)), .call (W32 (ro ((xs hq K (dw P ap 64) t) 4) 11)), .quiet (W32 (xo (ro ((xs hq K (dw P ap 64) t) 4) 6) (ro ((xs hq K (dw P ap 64) t) 4) 11))), .quiet (PT γ19_1 4), .quiet (W32 ((xs hq K (dw P ap 64) t) 4)), .call (W32 (ro ((xs hq K (dw P ap 64) t) 4) 25)), .quiet (W32 (xo (xo (ro ((xs hq K (dw P ap 64) t) 4) 6) (ro ((xs hq K (dw P ap 64) t) 4) 11)) (ro ((xs hq K (dw P ap 64) t) 4) 25))), .quiet (W32 (ad ((xs hq K (dw P ap 64) t) 7) (xo (xo (ro ((xs hq K (dw P ap 64) t) 4) 6) (ro ((xs hq K (dw P ap 64) t) 4) 11)) (ro ((xs hq K (dw P ap 64) t) 4) 25)))), .quiet (PT γ19_1 4), .quiet (W32 ((xs hq K (dw P ap 64) t) 4)), .quiet (PT γ19_1 5), .quiet (W32 ((xs hq K (dw P ap 64) t) 5)), .quiet (W32 (an ((xs hq K (dw P ap 64) t) 4) ((xs hq K (dw P ap 64) t) 5))), .quiet (PT γ19_1 4), .quiet (W32 ((xs hq K (dw P ap 64) t) 4)), .quiet (W32 (nt ((xs hq K (dw P ap 64) t) 4))), .quiet (PT γ19_1 6), .quiet (W32 ((xs hq K (dw P ap 64) t) 6)), .quiet (W32 (an (nt ((xs hq K (dw P ap 64) t) 4)) ((xs hq K (dw P ap 64) t) 6))), .quiet (W32 (xo (an ((xs hq K (dw P ap 64) t) 4) ((xs hq K (dw P ap 64) t) 5)) (an (nt ((xs hq K (dw P ap 64) t) 4)) ((xs hq K (dw P ap 64) t) 6)))), .quiet (W32 (ad (ad ((xs hq K (dw P ap 64) t) 7) (xo (xo (ro ((xs hq K (dw P ap 64) t) 4) 6) (ro ((xs hq K (dw P ap 64) t) 4) 11)) (ro ((xs hq K (dw P ap 64) t) 4) 25))) (xo (an ((xs hq K (dw P ap 64) t) 4) ((xs hq K (dw P ap 64) t) 5)) (an (nt ((xs hq K (dw P ap 64) t) 4)) ((xs hq K (dw P ap 64) t) 6))))), .quiet (.int .i64 ((t : Nat) : Int)), .quiet (PT γ1_1 t), .quiet (W32 (K t)), .quiet (W32 (ad (ad (ad ((xs hq K (dw P ap 64) t) 7) (xo (xo (ro ((xs hq K (dw P ap 64) t) 4) 6) (ro ((xs hq K (dw P ap 64) t) 4) 11)) (ro ((xs hq K (dw P ap 64) t) 4) 25))) (xo (an ((xs hq K (dw P ap 64) t) 4) ((xs hq K (dw P ap 64) t) 5)) (an (nt ((xs hq K (dw P ap 64) t) 4)) ((xs hq K (dw P ap 64) t) 6)))) (K t))), .quiet (.int .i64 ((t : Nat) : Int)), .quiet (PT γ2_0 t), .quiet (W32 ((dw P ap 64) t)), .quiet (W32 (ad (ad (ad (ad ((xs hq K (dw P ap 64) t) 7) (xo (xo (ro ((xs hq K (dw P ap 64) t) 4) 6) (ro ((xs hq K (dw P ap 64) t) 4) 11)) (ro ((xs hq K (dw P ap 64) t) 4) 25))) (xo (an ((xs hq K (dw P ap 64) t) 4) ((xs hq K (dw P ap 64) t) 5)) (an (nt ((xs hq K (dw P ap 64) t) 4)) ((xs hq K (dw P ap 64) t) 6)))) (K t)) ((dw P ap 64) t))), .quiet (W32 (ad (ad (ad (ad ((xs hq K (dw P ap 64) t) 7) (xo (xo (ro ((xs hq K (dw P ap 64) t) 4) 6) (ro ((xs hq K (dw P ap 64) t) 4) 11)) (ro ((xs hq K (dw P ap 64) t) 4) 25))) (xo (an ((xs hq K (dw P ap 64) t) 4) ((xs hq K (dw P ap 64) t) 5)) (an (nt ((xs hq K (dw P ap 64) t) 4)) ((xs hq K (dw P ap 64) t) 6)))) (K t)) ((dw P ap 64) t)))] H26 ?ho22 ?he22 (hL := ?hL22)
    case hL22 => exact trivial
    case ho22 => exact ak (fun γ => ⟨rfl, fun w' _ => ex_ix0_52 (j := 7) rfl rfl rfl (by decide)⟩) (ak (fun γ => ⟨rfl, fun w' h => ex_loadC h 0 rfl rfl rfl Tryd.isAgg51 (ints_get _ _ (by decide))⟩) (ak (fun γ => ⟨rfl, fun w' _ => ex_ix0_52 (j := 4) rfl rfl rfl (by decide)⟩) (ak (fun γ => ⟨rfl, fun w' h => ex_loadC h 0 rfl rfl rfl Tryd.isAgg51 (ints_get _ _ (by decide))⟩) (ak (fun γ => ⟨rfl, fun w' h => ⟨60, #[W32 ((xs hq K (dw P ap 64) t) 4), .int .i64 6], exec_call rfl call60 rfl (mpn rfl), right_ro ((xs hq K (dw P ap 64) t) 4) 6 (by decide) (by decide) w'⟩⟩) (ak (fun γ => ⟨rfl, fun w' _ => ex_ix0_52 (j := 4) rfl rfl rfl (by decide)⟩) (ak (fun γ => ⟨rfl, fun w' h => ex_loadC h 0 rfl rfl rfl Tryd.isAgg51 (ints_get _ _ (by decide))⟩) (ak (fun γ => ⟨rfl, fun w' h => ⟨60, #[W32 ((xs hq K (dw P ap 64) t) 4), .int .i64 11], exec_call rfl call60 rfl (mpn rfl), right_ro ((xs hq K (dw P ap 64) t) 4) 11 (by decide) (by decide) w'⟩⟩) (ak (fun γ => ⟨rfl, fun w' _ => ex_xor32 rfl rfl rfl⟩) (ak (fun γ => ⟨rfl, fun w' _ => ex_ix0_52 (j := 4) rfl rfl rfl (by decide)⟩) (ak (fun γ => ⟨rfl, fun w' h => ex_loadC h 0 rfl rfl rfl Tryd.isAgg51 (ints_get _ _ (by decide))⟩) (ak (fun γ => ⟨rfl, fun w' h => ⟨60, #[W32 ((xs hq K (dw P ap 64) t) 4), .int .i64 25], exec_call rfl call60 rfl (mpn rfl), right_ro ((xs hq K (dw P ap 64) t) 4) 25 (by decide) (by decide) w'⟩⟩) (ak (fun γ => ⟨rfl, fun w' _ => ex_xor32 rfl rfl rfl⟩) (ak (fun γ => ⟨rfl, fun w' _ => ex_add32 rfl rfl rfl⟩) (ak (fun γ => ⟨rfl, fun w' _ => ex_ix0_52 (j := 4) rfl rfl rfl (by decide)⟩) (ak (fun γ => ⟨rfl, fun w' h => ex_loadC h 0 rfl rfl rfl Tryd.isAgg51 (ints_get _ _ (by decide))⟩) (ak (fun γ => ⟨rfl, fun w' _ => ex_ix0_52 (j := 5) rfl rfl rfl (by decide)⟩) (ak (fun γ => ⟨rfl, fun w' h => ex_loadC h 0 rfl rfl rfl Tryd.isAgg51 (ints_get _ _ (by decide))⟩) (ak (fun γ => ⟨rfl, fun w' _ => ex_and32 rfl rfl rfl⟩) (ak (fun γ => ⟨rfl, fun w' _ => ex_ix0_52 (j := 4) rfl rfl rfl (by decide)⟩) (ak (fun γ => ⟨rfl, fun w' h => ex_loadC h 0 rfl rfl rfl Tryd.isAgg51 (ints_get _ _ (by decide))⟩) (ak (fun γ => ⟨rfl, fun w' _ => ex_not32 rfl rfl⟩) (ak (fun γ => ⟨rfl, fun w' _ => ex_ix0_52 (j := 6) rfl rfl rfl (by decide)⟩) (ak (fun γ => ⟨rfl, fun w' h => ex_loadC h 0 rfl rfl rfl Tryd.isAgg51 (ints_get _ _ (by decide))⟩) (ak (fun γ => ⟨rfl, fun w' _ => ex_and32 rfl rfl rfl⟩) (ak (fun γ => ⟨rfl, fun w' _ => ex_xor32 rfl rfl rfl⟩) (ak (fun γ => ⟨rfl, fun w' _ => ex_add32 rfl rfl rfl⟩) (ak (fun _ => ⟨rfl, fun _ _ => rfl⟩) (ak (fun γ => ⟨rfl, fun w' _ => ex_ix0_78 (j := t) rfl rfl rfl (by omega)⟩) (ak (fun γ => ⟨rfl, fun w' h => ex_loadC h 3 rfl rfl rfl Tryd.isAgg51 (ints_get _ _ (by omega))⟩) (ak (fun γ => ⟨rfl, fun w' _ => ex_add32 rfl rfl rfl⟩) (ak (fun _ => ⟨rfl, fun _ _ => rfl⟩) (ak (fun γ => ⟨rfl, fun w' _ => ex_ix0_78 (j := t) rfl rfl rfl (by omega)⟩) (ak (fun γ => ⟨rfl, fun w' h => ex_loadC h 1 rfl rfl rfl Tryd.isAgg51 (ints_get _ _ (by omega))⟩) (ak (fun γ => ⟨rfl, fun w' _ => ex_add32 rfl rfl rfl⟩) (ak (fun _ => ⟨rfl, fun _ _ => rfl⟩) trivial)))))))))))))))))))))))))))))))))))
    intro _ w27 H27
    clear H26
    refine rest0 rfl (then_normal (wp_seq ?_))
    refine walk_anyB 30 [.quiet (PT γ19_1 0), .quiet (W32 ((xs hq K (dw P ap 64) t) 0)), .call (W32 (ro ((xs hq K (dw P ap 64) t) 0) 2)), .quiet (PT γ19_1 0), .quiet (W32 ((xs hq K (dw P ap 64) t) 0)), .call (W32 (ro ((xs hq K (dw P ap 64) t) 0) 13)), .quiet (W32 (xo (ro ((xs hq K (dw P ap 64) t) 0) 2) (ro ((xs hq K (dw P ap 64) t) 0) 13))), .quiet (PT γ19_1 0), .quiet (W32 ((xs hq K (dw P ap 64) t) 0)), .call (W32 (ro ((xs hq K (dw P ap 64) t) 0) 22)), .quiet (W32 (xo (xo (ro ((xs hq K (dw P ap 64) t) 0) 2) (ro ((xs hq K (dw P ap 64) t) 0) 13)) (ro ((xs hq K (dw P ap 64) t) 0) 22))), .quiet (PT γ19_1 0), .quiet (W32 ((xs hq K (dw P ap 64) t) 0)), .quiet (PT γ19_1 1), .quiet (W32 ((xs hq K (dw P ap 64) t) 1)), .quiet (W32 (an ((xs hq K (dw P ap 64) t) 0) ((xs hq K (dw P ap 64) t) 1))), .quiet (PT γ19_1 0), .quiet (W32 ((xs hq K (dw P ap 64) t) 0)), .quiet (PT γ19_1 2), .quiet (W32 ((xs hq K (dw P ap 64) t) 2)), .quiet (W32 (an ((xs hq K (dw P ap 64) t) 0) ((xs hq K (dw P ap 64) t) 2))), .quiet (W32 (xo (an ((xs hq K (dw P ap 64) t) 0) ((xs hq K (dw P ap 64) t) 1)) (an ((xs hq K (dw P ap 64) t) 0) ((xs hq K (dw P ap 64) t) 2)))), .quiet (PT γ19_1 1), .quiet (W32 ((xs hq K (dw P ap 64) t) 1)), .quiet (PT γ19_1 2), .quiet (W32 ((xs hq K (dw P ap 64) t) 2)), .quiet (W32 (an ((xs hq K (dw P ap 64) t) 1) ((xs hq K (dw P ap 64) t) 2))), .quiet (W32 (xo (xo (an ((xs hq K (dw P ap 64) t) 0) ((xs hq K (dw P ap 64) t) 1)) (an ((xs hq K (dw P ap 64) t) 0) ((xs hq K (dw P ap 64) t) 2))) (an ((xs hq K (dw P ap 64) t) 1) ((xs hq K (dw P ap 64) t) 2)))), .quiet (W32 (ad (xo (xo (ro ((xs hq K (dw P ap 64) t) 0) 2) (ro ((xs hq K (dw P ap 64) t) 0) 13)) (ro ((xs hq K (dw P ap 64) t) 0) 22)) (xo (xo (an ((xs hq K (dw P ap 64) t) 0) ((xs hq K (dw P ap 64) t) 1)) (an ((xs hq K (dw P ap 64) t) 0) ((xs hq K (dw P ap 64) t) 2))) (an ((xs hq K (dw P ap 64) t) 1) ((xs hq K (dw P ap 64) t) 2))))), .quiet (W32 (ad (xo (xo (ro ((xs hq K (dw P ap 64) t) 0) 2) (ro ((xs hq K (dw P ap 64) t) 0) 13)) (ro ((xs hq K (dw P ap 64) t) 0) 22)) (xo (xo (an ((xs hq K (dw P ap 64) t) 0) ((xs hq K (dw P ap 64) t) 1)) (an ((xs hq K (dw P ap 64) t) 0) ((xs hq K (dw P ap 64) t) 2))) (an ((xs hq K (dw P ap 64) t) 1) ((xs hq K (dw P ap 64) t) 2)))))] H27 ?ho23 ?he23 (hL := ?hL23)
    case hL23 => exact trivial
    case ho23 => exact ak (fun γ => ⟨rfl, fun w' _ => ex_ix0_52 (j := 0) rfl rfl rfl (by decide)⟩) (ak (fun γ => ⟨rfl, fun w' h => ex_loadC h 0 rfl rfl rfl Tryd.isAgg51 (ints_get _ _ (by decide))⟩) (ak (fun γ => ⟨rfl, fun w' h => ⟨60, #[W32 ((xs hq K (dw P ap 64) t) 0), .int .i64 2], exec_call rfl call60 rfl (mpn rfl), right_ro ((xs hq K (dw P ap 64) t) 0) 2 (by decide) (by decide) w'⟩⟩) (ak (fun γ => ⟨rfl, fun w' _ => ex_ix0_52 (j := 0) rfl rfl rfl (by decide)⟩) (ak (fun γ => ⟨rfl, fun w' h => ex_loadC h 0 rfl rfl rfl Tryd.isAgg51 (ints_get _ _ (by decide))⟩) (ak (fun γ => ⟨rfl, fun w' h => ⟨60, #[W32 ((xs hq K (dw P ap 64) t) 0), .int .i64 13], exec_call rfl call60 rfl (mpn rfl), right_ro ((xs hq K (dw P ap 64) t) 0) 13 (by decide) (by decide) w'⟩⟩) (ak (fun γ => ⟨rfl, fun w' _ => ex_xor32 rfl rfl rfl⟩) (ak (fun γ => ⟨rfl, fun w' _ => ex_ix0_52 (j := 0) rfl rfl rfl (by decide)⟩) (ak (fun γ => ⟨rfl, fun w' h => ex_loadC h 0 rfl rfl rfl Tryd.isAgg51 (ints_get _ _ (by decide))⟩) (ak (fun γ => ⟨rfl, fun w' h => ⟨60, #[W32 ((xs hq K (dw P ap 64) t) 0), .int .i64 22], exec_call rfl call60 rfl (mpn rfl), right_ro ((xs hq K (dw P ap 64) t) 0) 22 (by decide) (by decide) w'⟩⟩) (ak (fun γ => ⟨rfl, fun w' _ => ex_xor32 rfl rfl rfl⟩) (ak (fun γ => ⟨rfl, fun w' _ => ex_ix0_52 (j := 0) rfl rfl rfl (by decide)⟩) (ak (fun γ => ⟨rfl, fun w' h => ex_loadC h 0 rfl rfl rfl Tryd.isAgg51 (ints_get _ _ (by decide))⟩) (ak (fun γ => ⟨rfl, fun w' _ => ex_ix0_52 (j := 1) rfl rfl rfl (by decide)⟩) (ak (fun γ => ⟨rfl, fun w' h => ex_loadC h 0 rfl rfl rfl Tryd.isAgg51 (ints_get _ _ (by decide))⟩) (ak (fun γ => ⟨rfl, fun w' _ => ex_and32 rfl rfl rfl⟩) (ak (fun γ => ⟨rfl, fun w' _ => ex_ix0_52 (j := 0) rfl rfl rfl (by decide)⟩) (ak (fun γ => ⟨rfl, fun w' h => ex_loadC h 0 rfl rfl rfl Tryd.isAgg51 (ints_get _ _ (by decide))⟩) (ak (fun γ => ⟨rfl, fun w' _ => ex_ix0_52 (j := 2) rfl rfl rfl (by decide)⟩) (ak (fun γ => ⟨rfl, fun w' h => ex_loadC h 0 rfl rfl rfl Tryd.isAgg51 (ints_get _ _ (by decide))⟩) (ak (fun γ => ⟨rfl, fun w' _ => ex_and32 rfl rfl rfl⟩) (ak (fun γ => ⟨rfl, fun w' _ => ex_xor32 rfl rfl rfl⟩) (ak (fun γ => ⟨rfl, fun w' _ => ex_ix0_52 (j := 1) rfl rfl rfl (by decide)⟩) (ak (fun γ => ⟨rfl, fun w' h => ex_loadC h 0 rfl rfl rfl Tryd.isAgg51 (ints_get _ _ (by decide))⟩) (ak (fun γ => ⟨rfl, fun w' _ => ex_ix0_52 (j := 2) rfl rfl rfl (by decide)⟩) (ak (fun γ => ⟨rfl, fun w' h => ex_loadC h 0 rfl rfl rfl Tryd.isAgg51 (ints_get _ _ (by decide))⟩) (ak (fun γ => ⟨rfl, fun w' _ => ex_and32 rfl rfl rfl⟩) (ak (fun γ => ⟨rfl, fun w' _ => ex_xor32 rfl rfl rfl⟩) (ak (fun γ => ⟨rfl, fun w' _ => ex_add32 rfl rfl rfl⟩) (ak (fun _ => ⟨rfl, fun _ _ => rfl⟩) trivial)))))))))))))))))))))))))))))
    intro _ w28 H28
    clear H27
    refine rest0 rfl (then_normal ?_)
    refine walk_seqB 20 [.quiet (W32 (ad (ad (ad (ad ((xs hq K (dw P ap 64) t) 7) (xo (xo (ro ((xs hq K (dw P ap 64) t) 4) 6) (ro ((xs hq K (dw P ap 64) t) 4) 11)) (ro ((xs hq K (dw P ap 64) t) 4) 25))) (xo (an ((xs hq K (dw P ap 64) t) 4) ((xs hq K (dw P ap 64) t) 5)) (an (nt ((xs hq K (dw P ap 64) t) 4)) ((xs hq K (dw P ap 64) t) 6)))) (K t)) ((dw P ap 64) t))), .quiet (W32 (ad (xo (xo (ro ((xs hq K (dw P ap 64) t) 0) 2) (ro ((xs hq K (dw P ap 64) t) 0) 13)) (ro ((xs hq K (dw P ap 64) t) 0) 22)) (xo (xo (an ((xs hq K (dw P ap 64) t) 0) ((xs hq K (dw P ap 64) t) 1)) (an ((xs hq K (dw P ap 64) t) 0) ((xs hq K (dw P ap 64) t) 2))) (an ((xs hq K (dw P ap 64) t) 1) ((xs hq K (dw P ap 64) t) 2))))), .quiet (W32 (ad (ad (ad (ad (ad ((xs hq K (dw P ap 64) t) 7) (xo (xo (ro ((xs hq K (dw P ap 64) t) 4) 6) (ro ((xs hq K (dw P ap 64) t) 4) 11)) (ro ((xs hq K (dw P ap 64) t) 4) 25))) (xo (an ((xs hq K (dw P ap 64) t) 4) ((xs hq K (dw P ap 64) t) 5)) (an (nt ((xs hq K (dw P ap 64) t) 4)) ((xs hq K (dw P ap 64) t) 6)))) (K t)) ((dw P ap 64) t)) (ad (xo (xo (ro ((xs hq K (dw P ap 64) t) 0) 2) (ro ((xs hq K (dw P ap 64) t) 0) 13)) (ro ((xs hq K (dw P ap 64) t) 0) 22)) (xo (xo (an ((xs hq K (dw P ap 64) t) 0) ((xs hq K (dw P ap 64) t) 1)) (an ((xs hq K (dw P ap 64) t) 0) ((xs hq K (dw P ap 64) t) 2))) (an ((xs hq K (dw P ap 64) t) 1) ((xs hq K (dw P ap 64) t) 2)))))), .quiet (PT γ19_1 0), .quiet (W32 ((xs hq K (dw P ap 64) t) 0)), .quiet (PT γ19_1 1), .quiet (W32 ((xs hq K (dw P ap 64) t) 1)), .quiet (PT γ19_1 2), .quiet (W32 ((xs hq K (dw P ap 64) t) 2)), .quiet (PT γ19_1 3), .quiet (W32 ((xs hq K (dw P ap 64) t) 3)), .quiet (W32 (ad (ad (ad (ad ((xs hq K (dw P ap 64) t) 7) (xo (xo (ro ((xs hq K (dw P ap 64) t) 4) 6) (ro ((xs hq K (dw P ap 64) t) 4) 11)) (ro ((xs hq K (dw P ap 64) t) 4) 25))) (xo (an ((xs hq K (dw P ap 64) t) 4) ((xs hq K (dw P ap 64) t) 5)) (an (nt ((xs hq K (dw P ap 64) t) 4)) ((xs hq K (dw P ap 64) t) 6)))) (K t)) ((dw P ap 64) t))), .quiet (W32 (ad ((xs hq K (dw P ap 64) t) 3) (ad (ad (ad (ad ((xs hq K (dw P ap 64) t) 7) (xo (xo (ro ((xs hq K (dw P ap 64) t) 4) 6) (ro ((xs hq K (dw P ap 64) t) 4) 11)) (ro ((xs hq K (dw P ap 64) t) 4) 25))) (xo (an ((xs hq K (dw P ap 64) t) 4) ((xs hq K (dw P ap 64) t) 5)) (an (nt ((xs hq K (dw P ap 64) t) 4)) ((xs hq K (dw P ap 64) t) 6)))) (K t)) ((dw P ap 64) t)))), .quiet (PT γ19_1 4), .quiet (W32 ((xs hq K (dw P ap 64) t) 4)), .quiet (PT γ19_1 5), .quiet (W32 ((xs hq K (dw P ap 64) t) 5)), .quiet (PT γ19_1 6), .quiet (W32 ((xs hq K (dw P ap 64) t) 6)), .quiet (.agg (ints .u32 (ei (ad (ad (ad (ad (ad ((xs hq K (dw P ap 64) t) 7) (xo (xo (ro ((xs hq K (dw P ap 64) t) 4) 6) (ro ((xs hq K (dw P ap 64) t) 4) 11)) (ro ((xs hq K (dw P ap 64) t) 4) 25))) (xo (an ((xs hq K (dw P ap 64) t) 4) ((xs hq K (dw P ap 64) t) 5)) (an (nt ((xs hq K (dw P ap 64) t) 4)) ((xs hq K (dw P ap 64) t) 6)))) (K t)) ((dw P ap 64) t)) (ad (xo (xo (ro ((xs hq K (dw P ap 64) t) 0) 2) (ro ((xs hq K (dw P ap 64) t) 0) 13)) (ro ((xs hq K (dw P ap 64) t) 0) 22)) (xo (xo (an ((xs hq K (dw P ap 64) t) 0) ((xs hq K (dw P ap 64) t) 1)) (an ((xs hq K (dw P ap 64) t) 0) ((xs hq K (dw P ap 64) t) 2))) (an ((xs hq K (dw P ap 64) t) 1) ((xs hq K (dw P ap 64) t) 2))))) ((xs hq K (dw P ap 64) t) 0) ((xs hq K (dw P ap 64) t) 1) ((xs hq K (dw P ap 64) t) 2) (ad ((xs hq K (dw P ap 64) t) 3) (ad (ad (ad (ad ((xs hq K (dw P ap 64) t) 7) (xo (xo (ro ((xs hq K (dw P ap 64) t) 4) 6) (ro ((xs hq K (dw P ap 64) t) 4) 11)) (ro ((xs hq K (dw P ap 64) t) 4) 25))) (xo (an ((xs hq K (dw P ap 64) t) 4) ((xs hq K (dw P ap 64) t) 5)) (an (nt ((xs hq K (dw P ap 64) t) 4)) ((xs hq K (dw P ap 64) t) 6)))) (K t)) ((dw P ap 64) t))) ((xs hq K (dw P ap 64) t) 4) ((xs hq K (dw P ap 64) t) 5) ((xs hq K (dw P ap 64) t) 6)) 8).toArray)] H28 ?ho24 ?he24
    case ho24 => exact ak (fun _ => ⟨rfl, fun _ _ => rfl⟩) (ak (fun _ => ⟨rfl, fun _ _ => rfl⟩) (ak (fun γ => ⟨rfl, fun w' _ => ex_add32 rfl rfl rfl⟩) (ak (fun γ => ⟨rfl, fun w' _ => ex_ix0_52 (j := 0) rfl rfl rfl (by decide)⟩) (ak (fun γ => ⟨rfl, fun w' h => ex_loadC h 0 rfl rfl rfl Tryd.isAgg51 (ints_get _ _ (by decide))⟩) (ak (fun γ => ⟨rfl, fun w' _ => ex_ix0_52 (j := 1) rfl rfl rfl (by decide)⟩) (ak (fun γ => ⟨rfl, fun w' h => ex_loadC h 0 rfl rfl rfl Tryd.isAgg51 (ints_get _ _ (by decide))⟩) (ak (fun γ => ⟨rfl, fun w' _ => ex_ix0_52 (j := 2) rfl rfl rfl (by decide)⟩) (ak (fun γ => ⟨rfl, fun w' h => ex_loadC h 0 rfl rfl rfl Tryd.isAgg51 (ints_get _ _ (by decide))⟩) (ak (fun γ => ⟨rfl, fun w' _ => ex_ix0_52 (j := 3) rfl rfl rfl (by decide)⟩) (ak (fun γ => ⟨rfl, fun w' h => ex_loadC h 0 rfl rfl rfl Tryd.isAgg51 (ints_get _ _ (by decide))⟩) (ak (fun _ => ⟨rfl, fun _ _ => rfl⟩) (ak (fun γ => ⟨rfl, fun w' _ => ex_add32 rfl rfl rfl⟩) (ak (fun γ => ⟨rfl, fun w' _ => ex_ix0_52 (j := 4) rfl rfl rfl (by decide)⟩) (ak (fun γ => ⟨rfl, fun w' h => ex_loadC h 0 rfl rfl rfl Tryd.isAgg51 (ints_get _ _ (by decide))⟩) (ak (fun γ => ⟨rfl, fun w' _ => ex_ix0_52 (j := 5) rfl rfl rfl (by decide)⟩) (ak (fun γ => ⟨rfl, fun w' h => ex_loadC h 0 rfl rfl rfl Tryd.isAgg51 (ints_get _ _ (by decide))⟩) (ak (fun γ => ⟨rfl, fun w' _ => ex_ix0_52 (j := 6) rfl rfl rfl (by decide)⟩) (ak (fun γ => ⟨rfl, fun w' h => ex_loadC h 0 rfl rfl rfl Tryd.isAgg51 (ints_get _ _ (by decide))⟩) (ak (fun γ => ⟨rfl, fun w' _ => ex_b8_52 rfl rfl rfl rfl rfl rfl rfl rfl rfl⟩) trivial)))))))))))))))))))
    intro _ w29 H29
    clear H28
    refine rest_at (l := [20]) rfl ?_
    refine rest_store rfl rfl rfl (ex_storeT (vs := ints .u32 (ei (ad (ad (ad (ad (ad ((xs hq K (dw P ap 64) t) 7) (xo (xo (ro ((xs hq K (dw P ap 64) t) 4) 6) (ro ((xs hq K (dw P ap 64) t) 4) 11)) (ro ((xs hq K (dw P ap 64) t) 4) 25))) (xo (an ((xs hq K (dw P ap 64) t) 4) ((xs hq K (dw P ap 64) t) 5)) (an (nt ((xs hq K (dw P ap 64) t) 4)) ((xs hq K (dw P ap 64) t) 6)))) (K t)) ((dw P ap 64) t)) (ad (xo (xo (ro ((xs hq K (dw P ap 64) t) 0) 2) (ro ((xs hq K (dw P ap 64) t) 0) 13)) (ro ((xs hq K (dw P ap 64) t) 0) 22)) (xo (xo (an ((xs hq K (dw P ap 64) t) 0) ((xs hq K (dw P ap 64) t) 1)) (an ((xs hq K (dw P ap 64) t) 0) ((xs hq K (dw P ap 64) t) 2))) (an ((xs hq K (dw P ap 64) t) 1) ((xs hq K (dw P ap 64) t) 2))))) ((xs hq K (dw P ap 64) t) 0) ((xs hq K (dw P ap 64) t) 1) ((xs hq K (dw P ap 64) t) 2) (ad ((xs hq K (dw P ap 64) t) 3) (ad (ad (ad (ad ((xs hq K (dw P ap 64) t) 7) (xo (xo (ro ((xs hq K (dw P ap 64) t) 4) 6) (ro ((xs hq K (dw P ap 64) t) 4) 11)) (ro ((xs hq K (dw P ap 64) t) 4) 25))) (xo (an ((xs hq K (dw P ap 64) t) 4) ((xs hq K (dw P ap 64) t) 5)) (an (nt ((xs hq K (dw P ap 64) t) 4)) ((xs hq K (dw P ap 64) t) 6)))) (K t)) ((dw P ap 64) t))) ((xs hq K (dw P ap 64) t) 4) ((xs hq K (dw P ap 64) t) 5) ((xs hq K (dw P ap 64) t) 6)) 8) H29.out.1 0 rfl rfl rfl rfl (by rw [ints_len]; exact Tryd.sizeOf52) (ints_all _ _ _) (by simp [ints_len])) ?_
    have H30 : Hid (Mm (w29.setCells γ19_1 0 (ints .u32 (ei (ad (ad (ad (ad (ad ((xs hq K (dw P ap 64) t) 7) (xo (xo (ro ((xs hq K (dw P ap 64) t) 4) 6) (ro ((xs hq K (dw P ap 64) t) 4) 11)) (ro ((xs hq K (dw P ap 64) t) 4) 25))) (xo (an ((xs hq K (dw P ap 64) t) 4) ((xs hq K (dw P ap 64) t) 5)) (an (nt ((xs hq K (dw P ap 64) t) 4)) ((xs hq K (dw P ap 64) t) 6)))) (K t)) ((dw P ap 64) t)) (ad (xo (xo (ro ((xs hq K (dw P ap 64) t) 0) 2) (ro ((xs hq K (dw P ap 64) t) 0) 13)) (ro ((xs hq K (dw P ap 64) t) 0) 22)) (xo (xo (an ((xs hq K (dw P ap 64) t) 0) ((xs hq K (dw P ap 64) t) 1)) (an ((xs hq K (dw P ap 64) t) 0) ((xs hq K (dw P ap 64) t) 2))) (an ((xs hq K (dw P ap 64) t) 1) ((xs hq K (dw P ap 64) t) 2))))) ((xs hq K (dw P ap 64) t) 0) ((xs hq K (dw P ap 64) t) 1) ((xs hq K (dw P ap 64) t) 2) (ad ((xs hq K (dw P ap 64) t) 3) (ad (ad (ad (ad ((xs hq K (dw P ap 64) t) 7) (xo (xo (ro ((xs hq K (dw P ap 64) t) 4) 6) (ro ((xs hq K (dw P ap 64) t) 4) 11)) (ro ((xs hq K (dw P ap 64) t) 4) 25))) (xo (an ((xs hq K (dw P ap 64) t) 4) ((xs hq K (dw P ap 64) t) 5)) (an (nt ((xs hq K (dw P ap 64) t) 4)) ((xs hq K (dw P ap 64) t) 6)))) (K t)) ((dw P ap 64) t))) ((xs hq K (dw P ap 64) t) 4) ((xs hq K (dw P ap 64) t) 5) ((xs hq K (dw P ap 64) t) 6)) 8)) [(γ19_1, ints .u32 (ei (ad (ad (ad (ad (ad ((xs hq K (dw P ap 64) t) 7) (xo (xo (ro ((xs hq K (dw P ap 64) t) 4) 6) (ro ((xs hq K (dw P ap 64) t) 4) 11)) (ro ((xs hq K (dw P ap 64) t) 4) 25))) (xo (an ((xs hq K (dw P ap 64) t) 4) ((xs hq K (dw P ap 64) t) 5)) (an (nt ((xs hq K (dw P ap 64) t) 4)) ((xs hq K (dw P ap 64) t) 6)))) (K t)) ((dw P ap 64) t)) (ad (xo (xo (ro ((xs hq K (dw P ap 64) t) 0) 2) (ro ((xs hq K (dw P ap 64) t) 0) 13)) (ro ((xs hq K (dw P ap 64) t) 0) 22)) (xo (xo (an ((xs hq K (dw P ap 64) t) 0) ((xs hq K (dw P ap 64) t) 1)) (an ((xs hq K (dw P ap 64) t) 0) ((xs hq K (dw P ap 64) t) 2))) (an ((xs hq K (dw P ap 64) t) 1) ((xs hq K (dw P ap 64) t) 2))))) ((xs hq K (dw P ap 64) t) 0) ((xs hq K (dw P ap 64) t) 1) ((xs hq K (dw P ap 64) t) 2) (ad ((xs hq K (dw P ap 64) t) 3) (ad (ad (ad (ad ((xs hq K (dw P ap 64) t) 7) (xo (xo (ro ((xs hq K (dw P ap 64) t) 4) 6) (ro ((xs hq K (dw P ap 64) t) 4) 11)) (ro ((xs hq K (dw P ap 64) t) 4) 25))) (xo (an ((xs hq K (dw P ap 64) t) 4) ((xs hq K (dw P ap 64) t) 5)) (an (nt ((xs hq K (dw P ap 64) t) 4)) ((xs hq K (dw P ap 64) t) 6)))) (K t)) ((dw P ap 64) t))) ((xs hq K (dw P ap 64) t) 4) ((xs hq K (dw P ap 64) t) 5) ((xs hq K (dw P ap 64) t) 6)) 8), (γ2_0, ints .u32 (dw P ap 64) 64), (γ1_0, ints .u32 hq 8), (γ1_1, ints .u32 K 64), (γ1_2, ints .u32 (fun _ => 0) 8)] ∧ Below w.heap.size w (w29.setCells γ19_1 0 (ints .u32 (ei (ad (ad (ad (ad (ad ((xs hq K (dw P ap 64) t) 7) (xo (xo (ro ((xs hq K (dw P ap 64) t) 4) 6) (ro ((xs hq K (dw P ap 64) t) 4) 11)) (ro ((xs hq K (dw P ap 64) t) 4) 25))) (xo (an ((xs hq K (dw P ap 64) t) 4) ((xs hq K (dw P ap 64) t) 5)) (an (nt ((xs hq K (dw P ap 64) t) 4)) ((xs hq K (dw P ap 64) t) 6)))) (K t)) ((dw P ap 64) t)) (ad (xo (xo (ro ((xs hq K (dw P ap 64) t) 0) 2) (ro ((xs hq K (dw P ap 64) t) 0) 13)) (ro ((xs hq K (dw P ap 64) t) 0) 22)) (xo (xo (an ((xs hq K (dw P ap 64) t) 0) ((xs hq K (dw P ap 64) t) 1)) (an ((xs hq K (dw P ap 64) t) 0) ((xs hq K (dw P ap 64) t) 2))) (an ((xs hq K (dw P ap 64) t) 1) ((xs hq K (dw P ap 64) t) 2))))) ((xs hq K (dw P ap 64) t) 0) ((xs hq K (dw P ap 64) t) 1) ((xs hq K (dw P ap 64) t) 2) (ad ((xs hq K (dw P ap 64) t) 3) (ad (ad (ad (ad ((xs hq K (dw P ap 64) t) 7) (xo (xo (ro ((xs hq K (dw P ap 64) t) 4) 6) (ro ((xs hq K (dw P ap 64) t) 4) 11)) (ro ((xs hq K (dw P ap 64) t) 4) 25))) (xo (an ((xs hq K (dw P ap 64) t) 4) ((xs hq K (dw P ap 64) t) 5)) (an (nt ((xs hq K (dw P ap 64) t) 4)) ((xs hq K (dw P ap 64) t) 6)))) (K t)) ((dw P ap 64) t))) ((xs hq K (dw P ap 64) t) 4) ((xs hq K (dw P ap 64) t) 5) ((xs hq K (dw P ap 64) t) 6)) 8))) := ⟨by
      have h := H29.out.1.put 0 (off := 0) (vs := ints .u32 (ei (ad (ad (ad (ad (ad ((xs hq K (dw P ap 64) t) 7) (xo (xo (ro ((xs hq K (dw P ap 64) t) 4) 6) (ro ((xs hq K (dw P ap 64) t) 4) 11)) (ro ((xs hq K (dw P ap 64) t) 4) 25))) (xo (an ((xs hq K (dw P ap 64) t) 4) ((xs hq K (dw P ap 64) t) 5)) (an (nt ((xs hq K (dw P ap 64) t) 4)) ((xs hq K (dw P ap 64) t) 6)))) (K t)) ((dw P ap 64) t)) (ad (xo (xo (ro ((xs hq K (dw P ap 64) t) 0) 2) (ro ((xs hq K (dw P ap 64) t) 0) 13)) (ro ((xs hq K (dw P ap 64) t) 0) 22)) (xo (xo (an ((xs hq K (dw P ap 64) t) 0) ((xs hq K (dw P ap 64) t) 1)) (an ((xs hq K (dw P ap 64) t) 0) ((xs hq K (dw P ap 64) t) 2))) (an ((xs hq K (dw P ap 64) t) 1) ((xs hq K (dw P ap 64) t) 2))))) ((xs hq K (dw P ap 64) t) 0) ((xs hq K (dw P ap 64) t) 1) ((xs hq K (dw P ap 64) t) 2) (ad ((xs hq K (dw P ap 64) t) 3) (ad (ad (ad (ad ((xs hq K (dw P ap 64) t) 7) (xo (xo (ro ((xs hq K (dw P ap 64) t) 4) 6) (ro ((xs hq K (dw P ap 64) t) 4) 11)) (ro ((xs hq K (dw P ap 64) t) 4) 25))) (xo (an ((xs hq K (dw P ap 64) t) 4) ((xs hq K (dw P ap 64) t) 5)) (an (nt ((xs hq K (dw P ap 64) t) 4)) ((xs hq K (dw P ap 64) t) 6)))) (K t)) ((dw P ap 64) t))) ((xs hq K (dw P ap 64) t) 4) ((xs hq K (dw P ap 64) t) 5) ((xs hq K (dw P ap 64) t) 6)) 8) rfl (by simp [ints_len])
      rw [ints_patch0 _ _ _ _] at h
      exact h, below_setCells _ o19_1.out _ _ _ H29.out.2⟩
    clear H29
    generalize hgw : World.setCells _ _ _ _ = w30 at H30 ⊢
    clear hgw
    refine rest_nil (block_normal (then_normal ?_))
    refine walk_seqB 2 [.quiet (.int .i64 ((t : Nat) : Int)), .quiet (.int .i64 ((t + 1 : Nat) : Int))] H30 ?ho25 ?he25
    case ho25 => exact ak (fun _ => ⟨rfl, fun _ _ => rfl⟩) (ak (by refine fun γ => ⟨rfl, fun w' h => ?_⟩; clear h; go_simp; rw [IntKind.wrap_i64]; omega) trivial)
    intro _ w31 H31
    clear H30
    refine rest_at (l := [2]) rfl ?_
    refine rest_set (d := 15) rfl rfl rfl rfl ?_
    simp only [Act.put, sa, sz, ss]
    refine rest_nil (then_normal ?_)
    exact ⟨t + 1, ⟨(slotfn [undef, undef, undef, undef, undef, undef, undef, undef, undef, undef, undef, undef, undef, undef, undef, undef, W32 (ad (ad (ad (ad ((xs hq K (dw P ap 64) t) 7) (xo (xo (ro ((xs hq K (dw P ap 64) t) 4) 6) (ro ((xs hq K (dw P ap 64) t) 4) 11)) (ro ((xs hq K (dw P ap 64) t) 4) 25))) (xo (an ((xs hq K (dw P ap 64) t) 4) ((xs hq K (dw P ap 64) t) 5)) (an (nt ((xs hq K (dw P ap 64) t) 4)) ((xs hq K (dw P ap 64) t) 6)))) (K t)) ((dw P ap 64) t)), W32 (ad (xo (xo (ro ((xs hq K (dw P ap 64) t) 0) 2) (ro ((xs hq K (dw P ap 64) t) 0) 13)) (ro ((xs hq K (dw P ap 64) t) 0) 22)) (xo (xo (an ((xs hq K (dw P ap 64) t) 0) ((xs hq K (dw P ap 64) t) 1)) (an ((xs hq K (dw P ap 64) t) 0) ((xs hq K (dw P ap 64) t) 2))) (an ((xs hq K (dw P ap 64) t) 1) ((xs hq K (dw P ap 64) t) 2)))), undef, undef, undef, undef, undef, undef, undef, undef, undef, undef, undef, undef, undef, undef, undef, undef, undef, undef, undef, undef, undef, undef, undef, undef, undef, undef, undef, undef, undef, undef, undef, undef, undef, undef, undef, undef, undef, undef, undef, undef, undef, undef, undef, undef, undef, undef, undef, undef, undef, undef, undef, undef, undef, undef, undef, undef, undef, undef, undef, undef, undef, undef, undef, undef, undef, undef, undef, undef, undef, undef, undef, undef, undef, undef, undef, undef, undef, undef, .int .i64 ((t : Nat) : Int), .bool true, .int .i64 ((t : Nat) : Int), .int .i64 ((t + 1 : Nat) : Int), PT γ19_1 7, W32 ((xs hq K (dw P ap 64) t) 7), PT γ19_1 4, W32 ((xs hq K (dw P ap 64) t) 4), W32 (ro ((xs hq K (dw P ap 64) t) 4) 6), PT γ19_1 4, W32 ((xs hq K (dw P ap 64) t) 4), W32 (ro ((xs hq K (dw P ap 64) t) 4) 11), W32 (xo (ro ((xs hq K (dw P ap 64) t) 4) 6) (ro ((xs hq K (dw P ap 64) t) 4) 11)), PT γ19_1 4, W32 ((xs hq K (dw P ap 64) t) 4), W32 (ro ((xs hq K (dw P ap 64) t) 4) 25), W32 (xo (xo (ro ((xs hq K (dw P ap 64) t) 4) 6) (ro ((xs hq K (dw P ap 64) t) 4) 11)) (ro ((xs hq K (dw P ap 64) t) 4) 25)), W32 (ad ((xs hq K (dw P ap 64) t) 7) (xo (xo (ro ((xs hq K (dw P ap 64) t) 4) 6) (ro ((xs hq K (dw P ap 64) t) 4) 11)) (ro ((xs hq K (dw P ap 64) t) 4) 25))), PT γ19_1 4, W32 ((xs hq K (dw P ap 64) t) 4), PT γ19_1 5, W32 ((xs hq K (dw P ap 64) t) 5), W32 (an ((xs hq K (dw P ap 64) t) 4) ((xs hq K (dw P ap 64) t) 5)), PT γ19_1 4, W32 ((xs hq K (dw P ap 64) t) 4), W32 (nt ((xs hq K (dw P ap 64) t) 4)), PT γ19_1 6, W32 ((xs hq K (dw P ap 64) t) 6), W32 (an (nt ((xs hq K (dw P ap 64) t) 4)) ((xs hq K (dw P ap 64) t) 6)), W32 (xo (an ((xs hq K (dw P ap 64) t) 4) ((xs hq K (dw P ap 64) t) 5)) (an (nt ((xs hq K (dw P ap 64) t) 4)) ((xs hq K (dw P ap 64) t) 6))), W32 (ad (ad ((xs hq K (dw P ap 64) t) 7) (xo (xo (ro ((xs hq K (dw P ap 64) t) 4) 6) (ro ((xs hq K (dw P ap 64) t) 4) 11)) (ro ((xs hq K (dw P ap 64) t) 4) 25))) (xo (an ((xs hq K (dw P ap 64) t) 4) ((xs hq K (dw P ap 64) t) 5)) (an (nt ((xs hq K (dw P ap 64) t) 4)) ((xs hq K (dw P ap 64) t) 6)))), .int .i64 ((t : Nat) : Int), PT γ1_1 t, W32 (K t), W32 (ad (ad (ad ((xs hq K (dw P ap 64) t) 7) (xo (xo (ro ((xs hq K (dw P ap 64) t) 4) 6) (ro ((xs hq K (dw P ap 64) t) 4) 11)) (ro ((xs hq K (dw P ap 64) t) 4) 25))) (xo (an ((xs hq K (dw P ap 64) t) 4) ((xs hq K (dw P ap 64) t) 5)) (an (nt ((xs hq K (dw P ap 64) t) 4)) ((xs hq K (dw P ap 64) t) 6)))) (K t)), .int .i64 ((t : Nat) : Int), PT γ2_0 t, W32 ((dw P ap 64) t), W32 (ad (ad (ad (ad ((xs hq K (dw P ap 64) t) 7) (xo (xo (ro ((xs hq K (dw P ap 64) t) 4) 6) (ro ((xs hq K (dw P ap 64) t) 4) 11)) (ro ((xs hq K (dw P ap 64) t) 4) 25))) (xo (an ((xs hq K (dw P ap 64) t) 4) ((xs hq K (dw P ap 64) t) 5)) (an (nt ((xs hq K (dw P ap 64) t) 4)) ((xs hq K (dw P ap 64) t) 6)))) (K t)) ((dw P ap 64) t)), PT γ19_1 0, W32 ((xs hq K (dw P ap 64) t) 0), W32 (ro ((xs hq K (dw P ap 64) t) 0) 2), PT γ19_1 0, W32 ((xs hq K (dw P ap 64) t) 0), W32 (ro ((xs hq K (dw P ap 64) t) 0) 13), W32 (xo (ro ((xs hq K (dw P ap 64) t) 0) 2) (ro ((xs hq K (dw P ap 64) t) 0) 13)), PT γ19_1 0, W32 ((xs hq K (dw P ap 64) t) 0), W32 (ro ((xs hq K (dw P ap 64) t) 0) 22), W32 (xo (xo (ro ((xs hq K (dw P ap 64) t) 0) 2) (ro ((xs hq K (dw P ap 64) t) 0) 13)) (ro ((xs hq K (dw P ap 64) t) 0) 22)), PT γ19_1 0, W32 ((xs hq K (dw P ap 64) t) 0), PT γ19_1 1, W32 ((xs hq K (dw P ap 64) t) 1), W32 (an ((xs hq K (dw P ap 64) t) 0) ((xs hq K (dw P ap 64) t) 1)), PT γ19_1 0, W32 ((xs hq K (dw P ap 64) t) 0), PT γ19_1 2, W32 ((xs hq K (dw P ap 64) t) 2), W32 (an ((xs hq K (dw P ap 64) t) 0) ((xs hq K (dw P ap 64) t) 2)), W32 (xo (an ((xs hq K (dw P ap 64) t) 0) ((xs hq K (dw P ap 64) t) 1)) (an ((xs hq K (dw P ap 64) t) 0) ((xs hq K (dw P ap 64) t) 2))), PT γ19_1 1, W32 ((xs hq K (dw P ap 64) t) 1), PT γ19_1 2, W32 ((xs hq K (dw P ap 64) t) 2), W32 (an ((xs hq K (dw P ap 64) t) 1) ((xs hq K (dw P ap 64) t) 2)), W32 (xo (xo (an ((xs hq K (dw P ap 64) t) 0) ((xs hq K (dw P ap 64) t) 1)) (an ((xs hq K (dw P ap 64) t) 0) ((xs hq K (dw P ap 64) t) 2))) (an ((xs hq K (dw P ap 64) t) 1) ((xs hq K (dw P ap 64) t) 2))), W32 (ad (xo (xo (ro ((xs hq K (dw P ap 64) t) 0) 2) (ro ((xs hq K (dw P ap 64) t) 0) 13)) (ro ((xs hq K (dw P ap 64) t) 0) 22)) (xo (xo (an ((xs hq K (dw P ap 64) t) 0) ((xs hq K (dw P ap 64) t) 1)) (an ((xs hq K (dw P ap 64) t) 0) ((xs hq K (dw P ap 64) t) 2))) (an ((xs hq K (dw P ap 64) t) 1) ((xs hq K (dw P ap 64) t) 2)))), W32 (ad (ad (ad (ad ((xs hq K (dw P ap 64) t) 7) (xo (xo (ro ((xs hq K (dw P ap 64) t) 4) 6) (ro ((xs hq K (dw P ap 64) t) 4) 11)) (ro ((xs hq K (dw P ap 64) t) 4) 25))) (xo (an ((xs hq K (dw P ap 64) t) 4) ((xs hq K (dw P ap 64) t) 5)) (an (nt ((xs hq K (dw P ap 64) t) 4)) ((xs hq K (dw P ap 64) t) 6)))) (K t)) ((dw P ap 64) t)), W32 (ad (xo (xo (ro ((xs hq K (dw P ap 64) t) 0) 2) (ro ((xs hq K (dw P ap 64) t) 0) 13)) (ro ((xs hq K (dw P ap 64) t) 0) 22)) (xo (xo (an ((xs hq K (dw P ap 64) t) 0) ((xs hq K (dw P ap 64) t) 1)) (an ((xs hq K (dw P ap 64) t) 0) ((xs hq K (dw P ap 64) t) 2))) (an ((xs hq K (dw P ap 64) t) 1) ((xs hq K (dw P ap 64) t) 2)))), W32 (ad (ad (ad (ad (ad ((xs hq K (dw P ap 64) t) 7) (xo (xo (ro ((xs hq K (dw P ap 64) t) 4) 6) (ro ((xs hq K (dw P ap 64) t) 4) 11)) (ro ((xs hq K (dw P ap 64) t) 4) 25))) (xo (an ((xs hq K (dw P ap 64) t) 4) ((xs hq K (dw P ap 64) t) 5)) (an (nt ((xs hq K (dw P ap 64) t) 4)) ((xs hq K (dw P ap 64) t) 6)))) (K t)) ((dw P ap 64) t)) (ad (xo (xo (ro ((xs hq K (dw P ap 64) t) 0) 2) (ro ((xs hq K (dw P ap 64) t) 0) 13)) (ro ((xs hq K (dw P ap 64) t) 0) 22)) (xo (xo (an ((xs hq K (dw P ap 64) t) 0) ((xs hq K (dw P ap 64) t) 1)) (an ((xs hq K (dw P ap 64) t) 0) ((xs hq K (dw P ap 64) t) 2))) (an ((xs hq K (dw P ap 64) t) 1) ((xs hq K (dw P ap 64) t) 2))))), PT γ19_1 0, W32 ((xs hq K (dw P ap 64) t) 0), PT γ19_1 1, W32 ((xs hq K (dw P ap 64) t) 1), PT γ19_1 2, W32 ((xs hq K (dw P ap 64) t) 2), PT γ19_1 3, W32 ((xs hq K (dw P ap 64) t) 3), W32 (ad (ad (ad (ad ((xs hq K (dw P ap 64) t) 7) (xo (xo (ro ((xs hq K (dw P ap 64) t) 4) 6) (ro ((xs hq K (dw P ap 64) t) 4) 11)) (ro ((xs hq K (dw P ap 64) t) 4) 25))) (xo (an ((xs hq K (dw P ap 64) t) 4) ((xs hq K (dw P ap 64) t) 5)) (an (nt ((xs hq K (dw P ap 64) t) 4)) ((xs hq K (dw P ap 64) t) 6)))) (K t)) ((dw P ap 64) t)), W32 (ad ((xs hq K (dw P ap 64) t) 3) (ad (ad (ad (ad ((xs hq K (dw P ap 64) t) 7) (xo (xo (ro ((xs hq K (dw P ap 64) t) 4) 6) (ro ((xs hq K (dw P ap 64) t) 4) 11)) (ro ((xs hq K (dw P ap 64) t) 4) 25))) (xo (an ((xs hq K (dw P ap 64) t) 4) ((xs hq K (dw P ap 64) t) 5)) (an (nt ((xs hq K (dw P ap 64) t) 4)) ((xs hq K (dw P ap 64) t) 6)))) (K t)) ((dw P ap 64) t))), PT γ19_1 4, W32 ((xs hq K (dw P ap 64) t) 4), PT γ19_1 5, W32 ((xs hq K (dw P ap 64) t) 5), PT γ19_1 6, W32 ((xs hq K (dw P ap 64) t) 6), .agg (ints .u32 (ei (ad (ad (ad (ad (ad ((xs hq K (dw P ap 64) t) 7) (xo (xo (ro ((xs hq K (dw P ap 64) t) 4) 6) (ro ((xs hq K (dw P ap 64) t) 4) 11)) (ro ((xs hq K (dw P ap 64) t) 4) 25))) (xo (an ((xs hq K (dw P ap 64) t) 4) ((xs hq K (dw P ap 64) t) 5)) (an (nt ((xs hq K (dw P ap 64) t) 4)) ((xs hq K (dw P ap 64) t) 6)))) (K t)) ((dw P ap 64) t)) (ad (xo (xo (ro ((xs hq K (dw P ap 64) t) 0) 2) (ro ((xs hq K (dw P ap 64) t) 0) 13)) (ro ((xs hq K (dw P ap 64) t) 0) 22)) (xo (xo (an ((xs hq K (dw P ap 64) t) 0) ((xs hq K (dw P ap 64) t) 1)) (an ((xs hq K (dw P ap 64) t) 0) ((xs hq K (dw P ap 64) t) 2))) (an ((xs hq K (dw P ap 64) t) 1) ((xs hq K (dw P ap 64) t) 2))))) ((xs hq K (dw P ap 64) t) 0) ((xs hq K (dw P ap 64) t) 1) ((xs hq K (dw P ap 64) t) 2) (ad ((xs hq K (dw P ap 64) t) 3) (ad (ad (ad (ad ((xs hq K (dw P ap 64) t) 7) (xo (xo (ro ((xs hq K (dw P ap 64) t) 4) 6) (ro ((xs hq K (dw P ap 64) t) 4) 11)) (ro ((xs hq K (dw P ap 64) t) 4) 25))) (xo (an ((xs hq K (dw P ap 64) t) 4) ((xs hq K (dw P ap 64) t) 5)) (an (nt ((xs hq K (dw P ap 64) t) 4)) ((xs hq K (dw P ap 64) t) 6)))) (K t)) ((dw P ap 64) t))) ((xs hq K (dw P ap 64) t) 4) ((xs hq K (dw P ap 64) t) 5) ((xs hq K (dw P ap 64) t) 6)) 8).toArray]), rfl, ⟨H31.out.1, H31.out.2⟩, by omega⟩, by omega⟩
  have htN : t = 64 := by omega
  subst htN
  refine wp_seq (wp_seq ?_)
  refine walk_seqB 2 [.quiet (.int .i64 ((64 : Nat) : Int)), .quiet (.bool false)] H25 ?ho26 ?he26
  case ho26 => exact ak (fun _ => ⟨rfl, fun _ _ => rfl⟩) (ak (by refine fun γ => ⟨rfl, fun w' h => ?_⟩; clear h; go_simp <;> omega) trivial)
  intro _ w32 H32
  clear H25
  refine rest0 rfl (then_normal (wp_cond_false rfl ?_))
  refine wp_exit ?_
  repeat refine then_exit ?_
  refine block_exit ?_
  refine then_normal (wp_seq (wp_seq ?_))
  refine walk_seqB 1 [.quiet (.int .i64 0)] H32 ?ho27 ?he27
  case ho27 => exact ak (fun _ => ⟨rfl, fun _ _ => rfl⟩) trivial
  intro _ w33 H33
  clear H32
  refine rest0 rfl (then_normal (wp_block ?_))
  refine loop_ghost (α := Nat) (fun j a' w' => ∃ s6 : Nat → Value, a' = ⟨#[.agg (ints .u32 hq 8).toArray, .agg (ints .u32 K 64).toArray, .slice (some ⟨gp, 0, none⟩) np cpp, .int .i64 ((ap : Nat) : Int), PT γ1_0 0, PT γ1_1 0, undef, undef, PT γ1_2 0, PT γ2_0 0, .int .i64 ((64 : Nat) : Int), s0 11, s0 12, s0 13, PT γ19_1 0, .int .i64 ((64 : Nat) : Int), s4 16, s4 17, .int .i64 ((j : Nat) : Int), .int .i64 ((64 : Nat) : Int), .bool false, s0 21, s0 22, s0 23, s0 24, s0 25, s0 26, s0 27, s0 28, s0 29, s0 30, s0 31, s0 32, s0 33, s0 34, s0 35, s0 36, s0 37, s0 38, s0 39, s0 40, s0 41, s0 42, s0 43, s0 44, s0 45, s0 46, s0 47, s0 48, s0 49, s0 50, s0 51, s0 52, s0 53, s0 54, s0 55, s0 56, s0 57, s0 58, s0 59, s0 60, s0 61, s0 62, s0 63, s0 64, s0 65, s0 66, s0 67, s0 68, s0 69, s0 70, s0 71, s0 72, s0 73, s0 74, s0 75, s0 76, s0 77, s0 78, s0 79, s0 80, s0 81, s0 82, s0 83, s0 84, s0 85, s0 86, s0 87, s0 88, s0 89, s0 90, s0 91, s0 92, s0 93, s0 94, .agg (ints .u32 hq 8).toArray, .int .i64 ((64 : Nat) : Int), .bool false, s4 98, s4 99, s4 100, s4 101, s4 102, s4 103, s4 104, s4 105, s4 106, s4 107, s4 108, s4 109, s4 110, s4 111, s4 112, s4 113, s4 114, s4 115, s4 116, s4 117, s4 118, s4 119, s4 120, s4 121, s4 122, s4 123, s4 124, s4 125, s4 126, s4 127, s4 128, s4 129, s4 130, s4 131, s4 132, s4 133, s4 134, s4 135, s4 136, s4 137, s4 138, s4 139, s4 140, s4 141, s4 142, s4 143, s4 144, s4 145, s4 146, s4 147, s4 148, s4 149, s4 150, s4 151, s4 152, s4 153, s4 154, s4 155, s4 156, s4 157, s4 158, s4 159, s4 160, s4 161, s4 162, s4 163, s4 164, s4 165, s4 166, s4 167, s4 168, s4 169, s4 170, s4 171, s4 172, s4 173, s4 174, s4 175, s4 176, s4 177, s4 178, s4 179, s4 180, s4 181, s4 182, s4 183, s6 184, s6 185, s6 186, s6 187, s6 188, s6 189, s6 190, s6 191, s6 192, s6 193, s6 194, s6 195, s6 196, undef], []⟩ ∧ (Mm w' [(γ19_1, ints .u32 (xs hq K (dw P ap 64) 64) 8), (γ2_0, ints .u32 (dw P ap 64) 64), (γ1_0, ints .u32 (hv hq (xs hq K (dw P ap 64) 64) j) 8), (γ1_1, ints .u32 K 64), (γ1_2, ints .u32 (fun _ => 0) 8)] ∧ Below w.heap.size w w') ∧ j ≤ 8) (fun j => 8 - j) 0 ?st6 ?rd6
  case st6 => exact ⟨(slotfn [undef, undef, undef, undef, undef, undef, undef, undef, undef, undef, undef, undef, undef, undef, undef, undef, undef, undef, undef, undef, undef, undef, undef, undef, undef, undef, undef, undef, undef, undef, undef, undef, undef, undef, undef, undef, undef, undef, undef, undef, undef, undef, undef, undef, undef, undef, undef, undef, undef, undef, undef, undef, undef, undef, undef, undef, undef, undef, undef, undef, undef, undef, undef, undef, undef, undef, undef, undef, undef, undef, undef, undef, undef, undef, undef, undef, undef, undef, undef, undef, undef, undef, undef, undef, undef, undef, undef, undef, undef, undef, undef, undef, undef, undef, undef, undef, undef, undef, undef, undef, undef, undef, undef, undef, undef, undef, undef, undef, undef, undef, undef, undef, undef, undef, undef, undef, undef, undef, undef, undef, undef, undef, undef, undef, undef, undef, undef, undef, undef, undef, undef, undef, undef, undef, undef, undef, undef, undef, undef, undef, undef, undef, undef, undef, undef, undef, undef, undef, undef, undef, undef, undef, undef, undef, undef, undef, undef, undef, undef, undef, undef, undef, undef, undef, undef, undef, undef, undef, undef, undef, undef, undef, undef, undef, undef, undef, undef, undef, undef, undef, undef, undef, undef, undef, undef, undef, undef, undef, undef, undef, undef, undef, undef, undef, undef, undef, undef]), rfl, ⟨H33.out.1, H33.out.2⟩, by omega⟩
  intro j a' w34 hI
  obtain ⟨s6, rfl, hMB, hk6⟩ := hI
  have H34 : Hid (_ ∧ _) := hMB
  clear hMB H33
  by_cases hltj : j < 8
  · have hrd : True := trivial
    clear hrd
    refine wp_seq (wp_seq ?_)
    refine walk_seqB 2 [.quiet (.int .i64 ((j : Nat) : Int)), .quiet (.bool true)] H34 ?ho28 ?he28
    case ho28 => exact ak (fun _ => ⟨rfl, fun _ _ => rfl⟩) (ak (by refine fun γ => ⟨rfl, fun w' h => ?_⟩; clear h; go_simp <;> omega) trivial)
    intro _ w35 H35
    clear H34
    refine rest0 rfl (then_normal (wp_cond_true rfl ?_))
    refine wp_skip (then_normal ?_)
    refine wp_seq (wp_block ?_)
    refine walk_anyB 9 [.quiet (.int .i64 ((j : Nat) : Int)), .quiet (.int .i64 ((j : Nat) : Int)), .quiet (PT γ1_0 j), .quiet (W32 ((hv hq (xs hq K (dw P ap 64) 64) j) j)), .quiet (.int .i64 ((j : Nat) : Int)), .quiet (PT γ19_1 j), .quiet (W32 ((xs hq K (dw P ap 64) 64) j)), .quiet (W32 (ad ((hv hq (xs hq K (dw P ap 64) 64) j) j) ((xs hq K (dw P ap 64) 64) j))), .quiet (PT γ1_0 j)] H35 ?ho29 ?he29
    case ho29 => exact ak (fun _ => ⟨rfl, fun _ _ => rfl⟩) (ak (fun _ => ⟨rfl, fun _ _ => rfl⟩) (ak (fun γ => ⟨rfl, fun w' _ => ex_ix0_52 (j := j) rfl rfl rfl (by omega)⟩) (ak (fun γ => ⟨rfl, fun w' h => ex_loadC h 2 rfl rfl rfl Tryd.isAgg51 (ints_get _ _ (by omega))⟩) (ak (fun _ => ⟨rfl, fun _ _ => rfl⟩) (ak (fun γ => ⟨rfl, fun w' _ => ex_ix0_52 (j := j) rfl rfl rfl (by omega)⟩) (ak (fun γ => ⟨rfl, fun w' h => ex_loadC h 0 rfl rfl rfl Tryd.isAgg51 (ints_get _ _ (by omega))⟩) (ak (fun γ => ⟨rfl, fun w' _ => ex_add32 rfl rfl rfl⟩) (ak (fun γ => ⟨rfl, fun w' _ => ex_ix0_52 (j := j) rfl rfl rfl (by omega)⟩) trivial))))))))
    intro _ w36 H36
    clear H35
    refine rest_at (l := [9]) rfl ?_
    refine rest_store rfl rfl rfl (ex_storeI H36.out.1 2 rfl rfl Tryd.sizeOf51 rfl rfl (by rw [ints_len]; omega)) ?_
    have H37 : Hid (Mm (w36.setCells γ1_0 j ([W32 (ad ((hv hq (xs hq K (dw P ap 64) 64) j) j) ((xs hq K (dw P ap 64) 64) j))])) [(γ19_1, ints .u32 (xs hq K (dw P ap 64) 64) 8), (γ2_0, ints .u32 (dw P ap 64) 64), (γ1_0, ints .u32 (up (hv hq (xs hq K (dw P ap 64) 64) j) j (ad ((hv hq (xs hq K (dw P ap 64) 64) j) j) ((xs hq K (dw P ap 64) 64) j))) 8), (γ1_1, ints .u32 K 64), (γ1_2, ints .u32 (fun _ => 0) 8)] ∧ Below w.heap.size w (w36.setCells γ1_0 j ([W32 (ad ((hv hq (xs hq K (dw P ap 64) 64) j) j) ((xs hq K (dw P ap 64) 64) j))]))) := ⟨by
      have h := H36.out.1.put 2 (off := j) (vs := [W32 (ad ((hv hq (xs hq K (dw P ap 64) 64) j) j) ((xs hq K (dw P ap 64) 64) j))]) rfl (by rw [ints_len]; simp only [List.length_cons, List.length_nil]; omega)
      rw [ints_patch _ _ _ _ (by omega)] at h
      exact h, below_setCells _ o1_0.out _ _ _ H36.out.2⟩
    clear H36
    generalize hgw : World.setCells _ _ _ _ = w37 at H37 ⊢
    clear hgw
    refine rest_nil (block_normal (then_normal ?_))
    refine walk_seqB 2 [.quiet (.int .i64 ((j : Nat) : Int)), .quiet (.int .i64 ((j + 1 : Nat) : Int))] H37 ?ho30 ?he30
    case ho30 => exact ak (fun _ => ⟨rfl, fun _ _ => rfl⟩) (ak (by refine fun γ => ⟨rfl, fun w' h => ?_⟩; clear h; go_simp; rw [IntKind.wrap_i64]; omega) trivial)
    intro _ w38 H38
    clear H37
    refine rest_at (l := [2]) rfl ?_
    refine rest_set (d := 18) rfl rfl rfl rfl ?_
    simp only [Act.put, sa, sz, ss]
    refine rest_nil (then_normal ?_)
    exact ⟨j + 1, ⟨(slotfn [undef, undef, undef, undef, undef, undef, undef, undef, undef, undef, undef, undef, undef, undef, undef, undef, undef, undef, undef, undef, undef, undef, undef, undef, undef, undef, undef, undef, undef, undef, undef, undef, undef, undef, undef, undef, undef, undef, undef, undef, undef, undef, undef, undef, undef, undef, undef, undef, undef, undef, undef, undef, undef, undef, undef, undef, undef, undef, undef, undef, undef, undef, undef, undef, undef, undef, undef, undef, undef, undef, undef, undef, undef, undef, undef, undef, undef, undef, undef, undef, undef, undef, undef, undef, undef, undef, undef, undef, undef, undef, undef, undef, undef, undef, undef, undef, undef, undef, undef, undef, undef, undef, undef, undef, undef, undef, undef, undef, undef, undef, undef, undef, undef, undef, undef, undef, undef, undef, undef, undef, undef, undef, undef, undef, undef, undef, undef, undef, undef, undef, undef, undef, undef, undef, undef, undef, undef, undef, undef, undef, undef, undef, undef, undef, undef, undef, undef, undef, undef, undef, undef, undef, undef, undef, undef, undef, undef, undef, undef, undef, undef, undef, undef, undef, undef, undef, undef, undef, undef, undef, undef, undef, undef, undef, undef, undef, undef, undef, undef, undef, undef, undef, undef, undef, .int .i64 ((j : Nat) : Int), .bool true, .int .i64 ((j : Nat) : Int), .int .i64 ((j + 1 : Nat) : Int), .int .i64 ((j : Nat) : Int), .int .i64 ((j : Nat) : Int), PT γ1_0 j, W32 ((hv hq (xs hq K (dw P ap 64) 64) j) j), .int .i64 ((j : Nat) : Int), PT γ19_1 j, W32 ((xs hq K (dw P ap 64) 64) j), W32 (ad ((hv hq (xs hq K (dw P ap 64) 64) j) j) ((xs hq K (dw P ap 64) 64) j)), PT γ1_0 j]), rfl, ⟨H38.out.1, H38.out.2⟩, by omega⟩, by omega⟩
  have hjN : j = 8 := by omega
  subst hjN
  refine wp_seq (wp_seq ?_)
  refine walk_seqB 2 [.quiet (.int .i64 ((8 : Nat) : Int)), .quiet (.bool false)] H34 ?ho31 ?he31
  case ho31 => exact ak (fun _ => ⟨rfl, fun _ _ => rfl⟩) (ak (by refine fun γ => ⟨rfl, fun w' h => ?_⟩; clear h; go_simp <;> omega) trivial)
  intro _ w39 H39
  clear H34
  refine rest0 rfl (then_normal (wp_cond_false rfl ?_))
  refine wp_exit ?_
  repeat refine then_exit ?_
  refine block_exit ?_
  refine then_normal (wp_seq ?_)
  refine walk_seqB 1 [.quiet (.agg (ints .u32 (hv hq (xs hq K (dw P ap 64) 64) 8) 8).toArray)] H39 ?ho32 ?he32
  case ho32 => exact ak (fun γ => ⟨rfl, fun w' h => ex_loadT h 2 rfl rfl rfl Tryd.isAgg52 Tryd.sizeOf52 (ints_whole _ _ _) (ints_len _ _ _)⟩) trivial
  intro _ w40 H40
  clear H39
  refine rest_at (l := [1]) rfl ?_
  refine rest_store rfl rfl rfl (ex_storeT (vs := ints .u32 (hv hq (xs hq K (dw P ap 64) 64) 8) 8) H40.out.1 4 rfl rfl rfl rfl (by rw [ints_len]; exact Tryd.sizeOf52) (ints_all _ _ _) (by simp [ints_len])) ?_
  have H41 : Hid (Mm (w40.setCells γ1_2 0 (ints .u32 (hv hq (xs hq K (dw P ap 64) 64) 8) 8)) [(γ19_1, ints .u32 (xs hq K (dw P ap 64) 64) 8), (γ2_0, ints .u32 (dw P ap 64) 64), (γ1_0, ints .u32 (hv hq (xs hq K (dw P ap 64) 64) 8) 8), (γ1_1, ints .u32 K 64), (γ1_2, ints .u32 (hv hq (xs hq K (dw P ap 64) 64) 8) 8)] ∧ Below w.heap.size w (w40.setCells γ1_2 0 (ints .u32 (hv hq (xs hq K (dw P ap 64) 64) 8) 8))) := ⟨by
    have h := H40.out.1.put 4 (off := 0) (vs := ints .u32 (hv hq (xs hq K (dw P ap 64) 64) 8) 8) rfl (by simp [ints_len])
    rw [ints_patch0 _ _ _ _] at h
    exact h, below_setCells _ o1_2.out _ _ _ H40.out.2⟩
  clear H40
  generalize hgw : World.setCells _ _ _ _ = w41 at H41 ⊢
  clear hgw
  refine rest_nil (then_normal (wp_ret ?_))
  repeat (first | refine then_ret ?_ | refine block_ret ?_)
  have hf0 := var_T H41.out.1 4 rfl Tryd.isAgg52 Tryd.sizeOf52 (ints_len _ _ _)
  refine bodyPost_ret (v := .agg (ints .u32 (hv hq (xs hq K (dw P ap 64) 64) 8) 8).toArray) (by simp [results, Tryd.results50, asAddr, hf0]) rfl ?_
  exact ⟨rfl, H41.out.2⟩
end Rg
end Go.Proofs.YtolflfjfegngnaaDoor
end
section
namespace Go.Proofs.YtolflfjfegngnaaDoor
open Go.RowKit
namespace Rg
set_option maxRecDepth 100000
theorem info_byte : ∃ i, Tryd.prog.info? 5 = some i ∧ i.zero = some (.int .u8 0) ∧ i.size = 1 ∧ i.bytes = 1 := by
  have h : (Tryd.prog.info? 5).map (fun i => (i.zero, i.size, i.bytes)) = some (some (.int .u8 0), 1, 1) := by kernel_rfl
  cases hi : Tryd.prog.info? 5 with
  | none => rw [hi] at h; simp at h
  | some i =>
    rw [hi] at h
    simp at h
    exact ⟨i, rfl, h.1, h.2.1, h.2.2⟩
/-- A row, and another behind its first n. -/
def ct (P : Nat → Nat) (n : Nat) (Q : Nat → Nat) : Nat → Nat := fun j => if j < n then P j else Q (j - n)
theorem ints_cat (P Q : Nat → Nat) (n m : Nat) : ints .u8 P n ++ ints .u8 Q m = ints .u8 (ct P n Q) (n + m) := by
  apply List.ext_getElem?
  intro j
  unfold ct
  by_cases h : j < n
  · rw [List.getElem?_append_left (by rw [ints_len]; exact h), ints_get _ _ h, ints_get _ _ (by omega), if_pos h]
  · rw [List.getElem?_append_right (by rw [ints_len]; omega), ints_len]
    by_cases h2 : j < n + m
    · rw [ints_get _ _ (by omega), ints_get _ _ h2, if_neg h]
    · rw [ints_none _ _ (by omega), ints_none _ _ (by omega)]
theorem ct_snoc {P P' Q : Nat → Nat} {n : Nat} (h : Q 0 = P' n) (e : ∀ j, j < n → P j = P' j := by intro j _; rfl) (j : Nat) (hj : j < n + 1) : ct P n Q j = P' j := by
  unfold ct
  by_cases hn : j < n
  · rw [if_pos hn, e j hn]
  · rw [if_neg hn, show j = n by omega, Nat.sub_self, h]
/-- A slice of the call's own, n bytes long, beside blocks l. -/
structure Zo (w : World) (B : Nat) (l : List (Nat × List Value)) (vv : Value) (n : Nat) (P : Nat → Nat) (w' : World) : Prop where
  b : Below w.heap.size w w'
  lo : w.heap.size ≤ B
  hi : B ≤ w'.heap.size
  m : Mm w' l
  lt : ∀ p ∈ l, p.1 < B
  own : w'.ownsRow B 5 1 vv n (ints .u8 P n)
section
variable {w w1 w2 : World} {B n : Nat} {l : List (Nat × List Value)} {vv : Value} {P P' : Nat → Nat}
theorem Zo.size (h : Zo w B l vv n P w1) : w.heap.size ≤ w1.heap.size := h.b.size
theorem Zo.step (h : Zo w B l vv n P w1) (hb : Below w1.heap.size w1 w2) : Zo w B l vv n P w2 := by
  refine ⟨h.b.trans (hb.mono h.b.size), h.lo, Nat.le_trans h.hi hb.size, h.m.below hb, h.lt, h.own.1, ?_⟩
  rcases h.own.2 with ⟨h1, h2⟩ | ⟨g, cap, cur, h1, h2, h3, h4⟩
  · exact .inl ⟨h1, h2⟩
  · refine .inr ⟨g, cap, cur, h1, h2, ?_, h4⟩
    rw [hb.block g (Array.getElem?_eq_some_iff.1 h3).1]
    exact h3
theorem Zo.cg (h : Zo w B l vv n P w1) (e : ∀ j, j < n → P j = P' j) : Zo w B l vv n P' w1 := by
  have := h.own
  rw [ints_congr e] at this
  exact ⟨h.b, h.lo, h.hi, h.m, h.lt, this⟩
theorem Zo.form (h : Zo w B l vv n P w1) (hn : 0 < n) : ∃ g cap, vv = .slice (some ⟨g, 0, none⟩) n cap := by
  rcases h.own.2 with ⟨_, h2⟩ | ⟨g, cap, cur, h1, _⟩
  · omega
  · exact ⟨g, cap, h1⟩
theorem Zo.nil (P : Nat → Nat) (w : World) : Zo w w.heap.size [] (.slice none 0 0) 0 P w := ⟨Below.refl _ _, Nat.le_refl _, Nat.le_refl _, Mm.nil w, fun p hp => (by cases hp), World.ownsRow_nil _ _ _ _⟩
theorem Zo.made (P : Nat → Nat) (hm : Mm w1 l) (hb : Below w.heap.size w w1) : Zo w w1.heap.size l (.slice (some ⟨w1.heap.size, 0, none⟩) 0 0) 0 P (w1.alloc (.cells #[] 5)) :=
  ⟨hb.alloc hb.size _, hb.size, by simp, hm.below ((Below.refl _ _).alloc (Nat.le_refl _) _), fun p hp => (hm.blk p hp).1, by simp [ints], .inr ⟨w1.heap.size, 0, #[], rfl, Nat.le_refl _, heap_alloc_new _ _, Nat.le_refl _, by unfold maxLen; omega, rfl, rfl⟩⟩
theorem Zo.app (h : Zo w B l vv n P w1) {a : Addr} (m c : Nat) (Q : Nat → Nat) (hr : ∀ j, j < m → w1.cell? (a.add j) = some (Z8 (Q j))) (hb : n + m ≤ 2097152) (ty : TypeId) :
    ∃ v' w2, (Builtin.append_ #[22, 22] ty #[vv, .slice (some a) m c]).run Tryd.prog w1 = .ok v' w2 ∧ Zo w B l v' (n + m) (ct P n Q) w2 := by
  obtain ⟨i0, hi, hz0, hz1, hz2⟩ := info_byte
  obtain ⟨v', w2, h1, h2, h3, _⟩ := run_append_own (P := Tryd.prog) w1 B 22 ty 5 i0 (.int .u8 0) 1 1 Tryd.underlying22 hi hz0 hz1 hz2 rfl (by decide) vv n _ h.own a m c (ints .u8 Q m) (by rw [ints_len]; omega)
    (fun j u hj => by
      have hjm : j < m := by
        have := (List.getElem?_eq_some_iff.1 hj).1
        rwa [ints_len] at this
      rw [ints_get _ _ hjm] at hj
      rw [hr j hjm]
      exact hj) (List.all_eq_true.1 (ints_all _ _ _)) (by unfold maxLen; omega) (by omega) h.hi
  have hb2 : Below B w1 w2 := (Below.refl _ _).grown h3 h.hi (fun k hk => (World.ownsRow.lt h.own k hk).1)
  rw [ints_cat] at h2
  exact ⟨v', w2, h1, h.b.trans (hb2.mono h.lo), h.lo, Nat.le_trans h.hi hb2.size, ⟨fun p hp => ⟨Nat.lt_of_lt_of_le (h.m.blk p hp).1 hb2.size, (h.m.blk p hp).2.below hb2 (h.lt p hp)⟩, h.m.nd⟩, h.lt, h2⟩
theorem Zo.app0 (h : Zo w B l vv n P w1) (ty : TypeId) : (Builtin.append_ #[22, 22] ty #[vv, .slice none 0 0]).run Tryd.prog w1 = .ok vv w1 := by
  obtain ⟨i0, hi, _, _, _⟩ := info_byte
  exact run_append_owned_none (P := Tryd.prog) (w := w1) B 22 ty 5 i0 1 Tryd.underlying22 hi vv n _ h.own
theorem Zo.rs {g cap : Nat} (h : Zo w B l (.slice (some ⟨g, 0, none⟩) n cap) n P w1) : Rs g 0 n P w1 := by
  have hc := World.ownsRow.cells h.own (g := g) rfl
  refine ⟨fun _ => (World.ownsRow.lt h.own g rfl).2, fun i hi => ?_⟩
  have := hc i _ (ints_get .u8 P hi)
  rw [show (⟨g, 0, none⟩ : Addr).add i = ⟨g, 0 + i, none⟩ by unfold Addr.add; split <;> simp_all] at this
  exact this
end
section
variable {ρ : Operand → Value} {o : Oper} {x y : Operand} {a : Nat} {w w2 : World} {vv sv v' : Value}
theorem ex_app (ho : o.op = .call { callee := .builtin .append, args := #[x, y], argTypes := #[22, 22] }) (hx : ρ x = vv) (hy : ρ y = sv) (hr : (Builtin.append_ #[22, 22] o.type #[vv, sv]).run Tryd.prog w = .ok v' w2) : (execOp ρ o).run Tryd.prog w = .ok (.value v') w2 := by
  unfold execOp
  simp only [ho, resolve, invoke, builtin, Sem.run_bind, Sem.run_pure, Result.andThen_ok, List.map_toArray, List.map_cons, List.map_nil, hx, hy, hr]
theorem ex_bs1 (ho : o.op = .buildSlice 22 1 #[(0, x)]) (hx : ρ x = Z8 a) : (execOp ρ o).run Tryd.prog w = .ok (.value (.slice (some ⟨w.heap.size, 0, none⟩) 1 1)) (w.alloc (.cells ([Z8 a] : List Value).toArray 5)) := by
  simp only [execOp, ho, List.map_toArray, List.map_cons, List.map_nil, hx]
  kernel_rfl
theorem ex_bs0 (ho : o.op = .buildSlice 22 0 #[]) : (execOp ρ o).run Tryd.prog w = .ok (.value (.slice (some ⟨w.heap.size, 0, none⟩) 0 0)) (w.alloc (.cells #[] 5)) := by
  simp only [execOp, ho]
  kernel_rfl
end
theorem cell_one (w : World) (a : Nat) (j : Nat) (hj : j < 1) : (w.alloc (.cells ([Z8 a] : List Value).toArray 5)).cell? ((⟨w.heap.size, 0, none⟩ : Addr).add j) = some (Z8 ((fun _ => a) j)) := by
  obtain rfl : j = 0 := by omega
  show (w.alloc (.cells ([Z8 a] : List Value).toArray 5)).cell? ⟨w.heap.size, 0, none⟩ = _
  rw [World.cell?_alloc_at _ _ _ _ rfl]
  rfl
/-- A number's bytes, the highest first. -/
def b8 (x : Nat) (j : Nat) : Nat := sr x (56 - 8 * j) % 256
theorem ex_beg {ρ : Operand → Value} {o : Oper} {w : World} (ho : o.op = .build 52 #[(0, .const (.int .u32 1779033703)), (1, .const (.int .u32 3144134277)), (2, .const (.int .u32 1013904242)), (3, .const (.int .u32 2773480762)), (4, .const (.int .u32 1359893119)), (5, .const (.int .u32 2600822924)), (6, .const (.int .u32 528734635)), (7, .const (.int .u32 1541459225))]) (hc : ∀ v, ρ (.const v) = v) : (execOp ρ o).run Tryd.prog w = .ok (.value (V (ints .u32 fT 8))) w := by
  simp only [execOp, ho, List.map_toArray, List.map_cons, List.map_nil, hc]
  kernel_rfl
theorem ex_tab {ρ : Operand → Value} {o : Oper} {w : World} (ho : o.op = .build 78 #[(0, .const (.int .u32 1116352408)), (1, .const (.int .u32 1899447441)), (2, .const (.int .u32 3049323471)), (3, .const (.int .u32 3921009573)), (4, .const (.int .u32 961987163)), (5, .const (.int .u32 1508970993)), (6, .const (.int .u32 2453635748)), (7, .const (.int .u32 2870763221)), (8, .const (.int .u32 3624381080)), (9, .const (.int .u32 310598401)), (10, .const (.int .u32 607225278)), (11, .const (.int .u32 1426881987)), (12, .const (.int .u32 1925078388)), (13, .const (.int .u32 2162078206)), (14, .const (.int .u32 2614888103)), (15, .const (.int .u32 3248222580)), (16, .const (.int .u32 3835390401)), (17, .const (.int .u32 4022224774)), (18, .const (.int .u32 264347078)), (19, .const (.int .u32 604807628)), (20, .const (.int .u32 770255983)), (21, .const (.int .u32 1249150122)), (22, .const (.int .u32 1555081692)), (23, .const (.int .u32 1996064986)), (24, .const (.int .u32 2554220882)), (25, .const (.int .u32 2821834349)), (26, .const (.int .u32 2952996808)), (27, .const (.int .u32 3210313671)), (28, .const (.int .u32 3336571891)), (29, .const (.int .u32 3584528711)), (30, .const (.int .u32 113926993)), (31, .const (.int .u32 338241895)), (32, .const (.int .u32 666307205)), (33, .const (.int .u32 773529912)), (34, .const (.int .u32 1294757372)), (35, .const (.int .u32 1396182291)), (36, .const (.int .u32 1695183700)), (37, .const (.int .u32 1986661051)), (38, .const (.int .u32 2177026350)), (39, .const (.int .u32 2456956037)), (40, .const (.int .u32 2730485921)), (41, .const (.int .u32 2820302411)), (42, .const (.int .u32 3259730800)), (43, .const (.int .u32 3345764771)), (44, .const (.int .u32 3516065817)), (45, .const (.int .u32 3600352804)), (46, .const (.int .u32 4094571909)), (47, .const (.int .u32 275423344)), (48, .const (.int .u32 430227734)), (49, .const (.int .u32 506948616)), (50, .const (.int .u32 659060556)), (51, .const (.int .u32 883997877)), (52, .const (.int .u32 958139571)), (53, .const (.int .u32 1322822218)), (54, .const (.int .u32 1537002063)), (55, .const (.int .u32 1747873779)), (56, .const (.int .u32 1955562222)), (57, .const (.int .u32 2024104815)), (58, .const (.int .u32 2227730452)), (59, .const (.int .u32 2361852424)), (60, .const (.int .u32 2428436474)), (61, .const (.int .u32 2756734187)), (62, .const (.int .u32 3204031479)), (63, .const (.int .u32 3329325298))]) (hc : ∀ v, ρ (.const v) = v) : (execOp ρ o).run Tryd.prog w = .ok (.value (V (ints .u32 kT 64))) w := by
  simp only [execOp, ho, List.map_toArray, List.map_cons, List.map_nil, hc]
  kernel_rfl
set_option maxRecDepth 100000 in
theorem begin_any  (w : World) :
    Calls Tryd.prog 48 #[] w fun e w' => e = .returned (.agg (ints .u32 fT 8).toArray) ∧ Below w.heap.size w w' := by
  have H0 : Hid (_ ∧ _) := ⟨Mm.nil w, Below.refl w.heap.size w⟩
  go_enter Tryd.func48, Tryd.ntmps48
  refine wp_seq ?_
  refine walk_seqA 1 [.made (ints .u32 (fun _ => 0) 8) 52] (sB H0) ?ho1 ?he1
  case ho1 => exact ak (fun γ => ⟨rfl, fun w' => ex_mk52 rfl⟩) trivial
  intro γ w1 l hM hl
  have H1 : Hid (Mm w1 [(γ 0, ints .u32 (fun _ => 0) 8)] ∧ _) := growB H0 hM (Nat.le_refl _) hl [0] rfl (by decide)
  have o1_0 := ownB H0 hM (Nat.le_refl _) hl (i := 0) rfl
  clear hM hl l
  generalize γ 0 = γ1_0 at H1 o1_0 ⊢
  clear γ
  refine rest0 rfl (then_normal (wp_seq ?_))
  refine walk_seqB 1 [.quiet (.agg (ints .u32 fT 8).toArray)] H1 ?ho2 ?he2
  case ho2 => exact ak (fun γ => ⟨rfl, fun w' _ => ex_beg rfl (fun _ => rfl)⟩) trivial
  intro _ w2 H2
  clear H1
  refine rest_at (l := [1]) rfl ?_
  refine rest_store rfl rfl rfl (ex_storeT (vs := ints .u32 fT 8) H2.out.1 0 rfl rfl rfl rfl (by rw [ints_len]; exact Tryd.sizeOf52) (ints_all _ _ _) (by simp [ints_len])) ?_
  have H3 : Hid (Mm (w2.setCells γ1_0 0 (ints .u32 fT 8)) [(γ1_0, ints .u32 fT 8)] ∧ Below w.heap.size w (w2.setCells γ1_0 0 (ints .u32 fT 8))) := ⟨by
    have h := H2.out.1.put 0 (off := 0) (vs := ints .u32 fT 8) rfl (by simp [ints_len])
    rw [ints_patch0 _ _ _ _] at h
    exact h, below_setCells _ o1_0.out _ _ _ H2.out.2⟩
  clear H2
  generalize hgw : World.setCells _ _ _ _ = w3 at H3 ⊢
  clear hgw
  refine rest_nil (then_normal (wp_ret ?_))
  repeat (first | refine then_ret ?_ | refine block_ret ?_)
  have hf0 := var_T H3.out.1 0 rfl Tryd.isAgg52 Tryd.sizeOf52 (ints_len _ _ _)
  refine bodyPost_ret (v := .agg (ints .u32 fT 8).toArray) (by simp [results, Tryd.results48, asAddr, hf0]) rfl ?_
  exact ⟨rfl, H3.out.2⟩
set_option maxHeartbeats 1000000 in
set_option maxRecDepth 100000 in
theorem table_any  (w : World) :
    Calls Tryd.prog 49 #[] w fun e w' => e = .returned (.agg (ints .u32 kT 64).toArray) ∧ Below w.heap.size w w' := by
  have H0 : Hid (_ ∧ _) := ⟨Mm.nil w, Below.refl w.heap.size w⟩
  go_enter Tryd.func49, Tryd.ntmps49
  refine wp_seq ?_
  refine walk_seqA 1 [.made (ints .u32 (fun _ => 0) 64) 78] (sB H0) ?ho1 ?he1
  case ho1 => exact ak (fun γ => ⟨rfl, fun w' => ex_mk78 rfl⟩) trivial
  intro γ w1 l hM hl
  have H1 : Hid (Mm w1 [(γ 0, ints .u32 (fun _ => 0) 64)] ∧ _) := growB H0 hM (Nat.le_refl _) hl [0] rfl (by decide)
  have o1_0 := ownB H0 hM (Nat.le_refl _) hl (i := 0) rfl
  clear hM hl l
  generalize γ 0 = γ1_0 at H1 o1_0 ⊢
  clear γ
  refine rest0 rfl (then_normal (wp_seq ?_))
  refine walk_seqB 1 [.quiet (.agg (ints .u32 kT 64).toArray)] H1 ?ho2 ?he2
  case ho2 => exact ak (fun γ => ⟨rfl, fun w' _ => ex_tab rfl (fun _ => rfl)⟩) trivial
  intro _ w2 H2
  clear H1
  refine rest_at (l := [1]) rfl ?_
  refine rest_store rfl rfl rfl (ex_storeT (vs := ints .u32 kT 64) H2.out.1 0 rfl rfl rfl rfl (by rw [ints_len]; exact Tryd.sizeOf78) (ints_all _ _ _) (by simp [ints_len])) ?_
  have H3 : Hid (Mm (w2.setCells γ1_0 0 (ints .u32 kT 64)) [(γ1_0, ints .u32 kT 64)] ∧ Below w.heap.size w (w2.setCells γ1_0 0 (ints .u32 kT 64))) := ⟨by
    have h := H2.out.1.put 0 (off := 0) (vs := ints .u32 kT 64) rfl (by simp [ints_len])
    rw [ints_patch0 _ _ _ _] at h
    exact h, below_setCells _ o1_0.out _ _ _ H2.out.2⟩
  clear H2
  generalize hgw : World.setCells _ _ _ _ = w3 at H3 ⊢
  clear hgw
  refine rest_nil (then_normal (wp_ret ?_))
  repeat (first | refine then_ret ?_ | refine block_ret ?_)
  have hf0 := var_T H3.out.1 0 rfl Tryd.isAgg78 Tryd.sizeOf78 (ints_len _ _ _)
  refine bodyPost_ret (v := .agg (ints .u32 kT 64).toArray) (by simp [results, Tryd.results49, asAddr, hf0]) rfl ?_
  exact ⟨rfl, H3.out.2⟩
set_option maxHeartbeats 1000000 in
set_option maxRecDepth 100000 in
theorem Eight_any (x : Nat) (w : World) :
    Calls Tryd.prog 47 #[U x] w fun e w' => Below w.heap.size w w' ∧ ∃ g cap, e = .returned (.slice (some ⟨g, 0, none⟩) 8 cap) ∧ Rs g 0 8 (b8 x) w' := by
  have H0 : Hid (_ ∧ _) := ⟨Mm.nil w, Zo.nil (b8 x) w⟩
  go_enter Tryd.func47, Tryd.ntmps47
  refine wp_seq ?_
  refine walk_seqA 1 [.quiet (.slice none 0 0)] (sB H0) ?ho1 ?he1
  case ho1 => exact ak (fun _ => ⟨rfl, fun _ _ => rfl⟩) trivial
  intro γ w1 l hM hl
  have M1 : Mm w1 [] := H0.out.1.grow hM (Nat.le_refl _) hl [] rfl (by decide)
  have B1 : Zo w w.heap.size [] (.slice none 0 0) 0 (b8 x) w1 := Zo.step H0.out.2 (hM.below)
  clear hM hl l
  clear γ
  have H1 : Hid (_ ∧ _) := ⟨M1, B1⟩
  clear M1 B1
  refine rest0 rfl (then_normal (wp_seq ?_))
  refine walk_seqA 1 [.quiet (.slice none 0 0)] (sB H1) ?ho2 ?he2
  case ho2 => exact ak (fun _ => ⟨rfl, fun _ _ => rfl⟩) trivial
  intro γ w2 l hM hl
  have M2 : Mm w2 [] := H1.out.1.grow hM (Nat.le_refl _) hl [] rfl (by decide)
  have B2 : Zo w w.heap.size [] (.slice none 0 0) 0 (b8 x) w2 := Zo.step H1.out.2 (hM.below)
  clear hM hl l H1
  clear γ
  have H2 : Hid (_ ∧ _) := ⟨M2, B2⟩
  clear M2 B2
  refine rest0 rfl (then_normal (wp_seq (wp_seq ?_)))
  refine walk_seqA 1 [.quiet (.int .i64 0)] (sB H2) ?ho3 ?he3
  case ho3 => exact ak (fun _ => ⟨rfl, fun _ _ => rfl⟩) trivial
  intro γ w3 l hM hl
  have M3 : Mm w3 [] := H2.out.1.grow hM (Nat.le_refl _) hl [] rfl (by decide)
  have B3 : Zo w w.heap.size [] (.slice none 0 0) 0 (b8 x) w3 := Zo.step H2.out.2 (hM.below)
  clear hM hl l H2
  clear γ
  have H3 : Hid (_ ∧ _) := ⟨M3, B3⟩
  clear M3 B3
  refine rest0 rfl (then_normal (wp_block ?_))
  refine loop_ghost (α := Nat) (fun k a' w' => ∃ s0 : Nat → Value, a' = ⟨#[U x, undef, .slice none 0 0, s0 3, .int .i64 ((k : Nat) : Int), s0 5, s0 6, s0 7, s0 8, s0 9, s0 10, s0 11, s0 12, s0 13, s0 14, s0 15, s0 16, s0 17, undef], []⟩ ∧ (Mm w' [] ∧ Zo w w.heap.size [] (s0 3) k (b8 x) w') ∧ k ≤ 8) (fun k => 8 - k) 0 ?st0 ?rd0
  case st0 => exact ⟨(slotfn [undef, undef, undef, .slice none 0 0, undef, undef, undef, undef, undef, undef, undef, undef, undef, undef, undef, undef, undef, undef]), rfl, ⟨H3.out.1, H3.out.2⟩, by omega⟩
  intro k a' w4 hI
  obtain ⟨s0, rfl, hMB, hk0⟩ := hI
  have H4 : Hid (_ ∧ _) := hMB
  clear hMB H3
  by_cases hlt : k < 8
  · have hrd : True := trivial
    clear hrd
    refine wp_seq (wp_seq ?_)
    refine walk_seqA 2 [.quiet (.int .i64 ((k : Nat) : Int)), .quiet (.bool true)] (sB H4) ?ho4 ?he4
    case ho4 => exact ak (fun _ => ⟨rfl, fun _ _ => rfl⟩) (ak (by refine fun γ => ⟨rfl, fun w' h => ?_⟩; clear h; go_simp <;> omega) trivial)
    intro γ w5 l hM hl
    have M5 : Mm w5 [] := H4.out.1.grow hM (Nat.le_refl _) hl [] rfl (by decide)
    have B5 : Zo w w.heap.size [] (s0 3) k (b8 x) w5 := Zo.step H4.out.2 (hM.below)
    clear hM hl l H4
    clear γ
    have H5 : Hid (_ ∧ _) := ⟨M5, B5⟩
    clear M5 B5
    refine rest0 rfl (then_normal (wp_cond_true rfl ?_))
    refine wp_skip (then_normal ?_)
    refine wp_seq (wp_block ?_)
    refine walk_seqA 7 [.quiet (s0 3), .quiet (U x), .quiet (.int .i64 ((k : Nat) : Int)), .quiet (.int .i64 ((8 * k : Nat) : Int)), .quiet (.int .i64 ((56 - (8 * k) : Nat) : Int)), .quiet (U (sr x (56 - (8 * k)))), .quiet (Z8 ((sr x (56 - (8 * k))) % 256))] (sB H5) ?ho5 ?he5
    case ho5 => exact ak (fun _ => ⟨rfl, fun _ _ => rfl⟩) (ak (fun _ => ⟨rfl, fun _ _ => rfl⟩) (ak (fun _ => ⟨rfl, fun _ _ => rfl⟩) (ak (by refine fun γ => ⟨rfl, fun w' h => ?_⟩; clear h; go_simp; rw [IntKind.wrap_i64]; omega) (ak (by refine fun γ => ⟨rfl, fun w' h => ?_⟩; clear h; go_simp; rw [IntKind.wrap_i64]; omega) (ak (fun γ => ⟨rfl, fun w' _ => ex_shr64 (k := 56 - (8 * k)) (by omega) rfl rfl rfl⟩) (ak (fun γ => ⟨rfl, fun w' _ => ex_cv56_5 rfl rfl⟩) trivial))))))
    intro γ w6 l hM hl
    have M6 : Mm w6 [] := H5.out.1.grow hM (Nat.le_refl _) hl [] rfl (by decide)
    have B6 : Zo w w.heap.size [] (s0 3) k (b8 x) w6 := Zo.step H5.out.2 (hM.below)
    clear hM hl l H5
    clear γ
    have H6 : Hid (_ ∧ _) := ⟨M6, B6⟩
    clear M6 B6
    refine rest_at (l := [7, 8, 9]) rfl ?_
    refine rest_set (d := 16) (v := .slice (some ⟨w6.heap.size, 0, none⟩) 1 1) (w' := (w6.alloc (.cells ([Z8 ((sr x (56 - (8 * k))) % 256)] : List Value).toArray 5))) rfl rfl rfl (ex_bs1 (a := (sr x (56 - (8 * k))) % 256) rfl rfl) ?_
    simp only [Act.put, sa, sz, ss]
    have H7 : Hid (Mm (w6.alloc (.cells ([Z8 ((sr x (56 - (8 * k))) % 256)] : List Value).toArray 5)) [] ∧ Zo w w.heap.size [] (s0 3) k (b8 x) (w6.alloc (.cells ([Z8 ((sr x (56 - (8 * k))) % 256)] : List Value).toArray 5))) := ⟨Mm.nil _, Zo.step H6.out.2 ((Below.refl _ _).alloc (Nat.le_refl _) _)⟩
    have c7 := cell_one w6 ((sr x (56 - (8 * k))) % 256)
    have C7 : Hid _ := c7
    clear c7 H6
    generalize hgw : (w6.alloc (.cells ([Z8 ((sr x (56 - (8 * k))) % 256)] : List Value).toArray 5)) = w7 at H7 C7 ⊢
    clear hgw
    generalize w6.heap.size = γs7 at C7 ⊢
    obtain ⟨v8, w8, hr, hZ⟩ := H7.out.2.app (a := ⟨γs7, 0, none⟩) 1 1 (fun _ => (sr x (56 - (8 * k))) % 256) (C7.out) (by omega) 22
    refine rest_set (d := 17) (v := v8) (w' := w8) rfl rfl rfl (ex_app rfl rfl rfl hr) ?_
    simp only [Act.put, sa, sz, ss]
    have H8 : Hid (Mm w8 [] ∧ Zo w w.heap.size [] v8 (k + 1) (b8 x) w8) := ⟨Mm.nil _, hZ.cg (ct_snoc rfl)⟩
    clear hr hZ H7
    refine rest_set (d := 3) (v := v8) (w' := w8) rfl rfl rfl rfl ?_
    simp only [Act.put, sa, sz, ss]
    refine rest_nil (block_normal (then_normal ?_))
    refine walk_seqA 2 [.quiet (.int .i64 ((k : Nat) : Int)), .quiet (.int .i64 ((k + 1 : Nat) : Int))] (sB H8) ?ho6 ?he6
    case ho6 => exact ak (fun _ => ⟨rfl, fun _ _ => rfl⟩) (ak (by refine fun γ => ⟨rfl, fun w' h => ?_⟩; clear h; go_simp; rw [IntKind.wrap_i64]; omega) trivial)
    intro γ w9 l hM hl
    have M9 : Mm w9 [] := H8.out.1.grow hM (Nat.le_refl _) hl [] rfl (by decide)
    have B9 : Zo w w.heap.size [] v8 (k + 1) (b8 x) w9 := Zo.step H8.out.2 (hM.below)
    clear hM hl l H8
    clear γ
    have H9 : Hid (_ ∧ _) := ⟨M9, B9⟩
    clear M9 B9
    refine rest_at (l := [2]) rfl ?_
    refine rest_set (d := 4) (v := .int .i64 ((k + 1 : Nat) : Int)) (w' := w9) rfl rfl rfl rfl ?_
    simp only [Act.put, sa, sz, ss]
    refine rest_nil (then_normal ?_)
    exact ⟨k + 1, ⟨(slotfn [undef, undef, undef, v8, undef, .int .i64 ((k : Nat) : Int), .bool true, .int .i64 ((k : Nat) : Int), .int .i64 ((k + 1 : Nat) : Int), s0 3, U x, .int .i64 ((k : Nat) : Int), .int .i64 ((8 * k : Nat) : Int), .int .i64 ((56 - (8 * k) : Nat) : Int), U (sr x (56 - (8 * k))), Z8 ((sr x (56 - (8 * k))) % 256), .slice (some ⟨γs7, 0, none⟩) 1 1, v8]), rfl, ⟨H9.out.1, H9.out.2⟩, by omega⟩, by omega⟩
  have hkN : k = 8 := by omega
  subst hkN
  obtain ⟨g3, cap3, e3⟩ := H4.out.2.form (by decide)
  rw [e3] at H4 ⊢
  refine wp_seq (wp_seq ?_)
  refine walk_seqA 2 [.quiet (.int .i64 ((8 : Nat) : Int)), .quiet (.bool false)] (sB H4) ?ho7 ?he7
  case ho7 => exact ak (fun _ => ⟨rfl, fun _ _ => rfl⟩) (ak (by refine fun γ => ⟨rfl, fun w' h => ?_⟩; clear h; go_simp <;> omega) trivial)
  intro γ w10 l hM hl
  have M10 : Mm w10 [] := H4.out.1.grow hM (Nat.le_refl _) hl [] rfl (by decide)
  have B10 : Zo w w.heap.size [] (.slice (some ⟨g3, 0, none⟩) 8 cap3) 8 (b8 x) w10 := Zo.step H4.out.2 (hM.below)
  clear hM hl l H4
  clear γ
  have H10 : Hid (_ ∧ _) := ⟨M10, B10⟩
  clear M10 B10
  refine rest0 rfl (then_normal (wp_cond_false rfl ?_))
  refine wp_exit ?_
  repeat refine then_exit ?_
  refine block_exit ?_
  refine then_normal (wp_seq ?_)
  refine walk_seqA 2 [.quiet (.slice (some ⟨g3, 0, none⟩) 8 cap3), .quiet (.slice (some ⟨g3, 0, none⟩) 8 cap3)] (sB H10) ?ho8 ?he8
  case ho8 => exact ak (fun _ => ⟨rfl, fun _ _ => rfl⟩) (ak (fun _ => ⟨rfl, fun _ _ => rfl⟩) trivial)
  intro γ w11 l hM hl
  have M11 : Mm w11 [] := H10.out.1.grow hM (Nat.le_refl _) hl [] rfl (by decide)
  have B11 : Zo w w.heap.size [] (.slice (some ⟨g3, 0, none⟩) 8 cap3) 8 (b8 x) w11 := Zo.step H10.out.2 (hM.below)
  clear hM hl l H10
  clear γ
  have H11 : Hid (_ ∧ _) := ⟨M11, B11⟩
  clear M11 B11
  refine rest0 rfl (then_normal (wp_ret ?_))
  repeat (first | refine then_ret ?_ | refine block_ret ?_)
  refine bodyPost_ret (v := .slice (some ⟨g3, 0, none⟩) 8 cap3) (by simp [results, Tryd.results47, go_sem, *]) rfl ?_
  exact ⟨H11.out.2.b, g3, cap3, rfl, H11.out.2.rs⟩
end Rg
end Go.Proofs.YtolflfjfegngnaaDoor
end
