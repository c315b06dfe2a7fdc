/- Texts of the proof, joined. -/
import Derived.Test.YtolflfjfegngnaaDoorP2
import Derived.Lib.SliceRun
import Derived.Laws.AppendOwn
import Derived.Laws.OwnMore
section
namespace Go.Proofs.YtolflfjfegngnaaDoor
open Go.RowKit
namespace Rg
set_option maxRecDepth 100000
theorem rest_drop {P : Program} {Q : Exit → Act → World → Prop} {full : Array Oper} {a : Act} {w : World} {i : Nat} {r : List Nat} {o : Oper} {v : Value} {w' : World} (ho : full[i]? = some o) (hd : o.dst = none) (hw : Region.wanted o (yielded full a.tmps) = true) (hx : (execOp a.eval o).run P w = .ok (.value v) w') (h : wpOps P full Q r a w') : wpOps P full Q (i :: r) a w :=
  rest_value ho hw hx (by rw [hd]; exact h)
def cl (r : Nat → Nat) (k : Nat) : Nat → Nat := fun j => if k ≤ j then 0 else r j
theorem rep_ints (n : Nat) : List.replicate n (Value.int .u8 0) = ints .u8 (fun _ => 0) n := by
  apply List.ext_getElem?
  intro j
  by_cases h : j < n
  · rw [ints_get _ _ h, List.getElem?_replicate, if_pos h]; rfl
  · rw [ints_none _ _ (by omega), List.getElem?_eq_none (by simp; omega)]
theorem cl_part (r : Nat → Nat) (k : Nat) (m : Bool) (s : Nat → Nat) (c : Nat) : hs m s (fun j => if k ≤ j ∧ j < k + (64 - k) then (fun _ => 0) (j - k) else r j) c = hs m s (cl r k) c := by
  refine hs_ext (hs_len _ _ _ _) (hs_made _ _ _ _) (fun j hj => hs_word _ _ _ _ hj) (fun j hj => ?_) (hs_count _ _ _ _)
  rw [hs_rest _ _ _ _ hj]
  unfold cl
  by_cases h : k ≤ j
  · rw [if_pos h, if_pos (by omega)]
  · rw [if_neg h, if_neg (by omega)]
section
variable {ρ : Operand → Value} {o : Oper} {x : Operand} {g k c : Nat} {w : World}
theorem ex_slA64 {y : Operand} (ho : o.op = .slice 55 x (some y) none none) (hx : ρ x = PT g 9) (hy : ρ y = .int .i64 ((k : Nat) : Int)) (hk : k = 64) : (execOp ρ o).run Tryd.prog w = .ok (.value (.slice (some ⟨g, 9, none⟩) 0 0)) w := by
  subst hk
  simp only [execOp, ho, hx, hy, Option.map_some, Option.map_none]
  clear ho hx hy
  go_simp
theorem ex_sl56 (ho : o.op = .slice 55 x (some (.const (.int .i64 56))) none none) (hx : ρ x = PT g 9) (hy : ρ (.const (.int .i64 56)) = .int .i64 56) : (execOp ρ o).run Tryd.prog w = .ok (.value (.slice (some ⟨g, 65, none⟩) 8 8)) w := by
  simp only [execOp, ho, hx, hy, Option.map_some, Option.map_none]
  clear ho hx hy
  go_simp
theorem ex_sl81 (ho : o.op = .slice 81 x none none none) (hx : ρ x = PT g 0) : (execOp ρ o).run Tryd.prog w = .ok (.value (.slice (some ⟨g, 0, none⟩) 8 8)) w := by
  simp only [execOp, ho, hx, Option.map_none]
  clear ho hx
  go_simp
theorem ex_clear0 {p : Option Addr} (ho : o.op = .call { callee := .builtin .clear, args := #[x], argTypes := #[22] }) (hx : ρ x = .slice p 0 0) : (execOp ρ o).run Tryd.prog w = .ok (.value (.tuple #[])) w := by
  have hr : (Builtin.clear_ #[22] o.type #[.slice p 0 0]).run Tryd.prog w = .ok (.tuple #[]) w := by
    cases p <;> simp [Builtin.clear_, run_underlying Tryd.underlying22]
  unfold execOp
  simp only [ho, resolve, invoke, builtin, Sem.run_bind, Sem.run_pure, Result.andThen_ok, List.map_toArray, List.map_cons, List.map_nil, hx, hr]
theorem zero5 (w : World) : (zeroValue 5).run Tryd.prog w = .ok (.int .u8 0) w := by kernel_rfl
theorem ex_clear {m : Bool} {s r : Nat → Nat} {l : List (Nat × List Value)} (h : Mm w l) (q : Nat) (hk : l[q]? = some (g, hs m s r c)) (h64 : k < 64)
    (ho : o.op = .call { callee := .builtin .clear, args := #[x], argTypes := #[22] }) (hx : ρ x = .slice (some ⟨g, 9 + k, none⟩) (64 - k) (64 - k)) : (execOp ρ o).run Tryd.prog w = .ok (.value (.tuple #[])) (w.setCells g (9 + k) (ints .u8 (fun _ => 0) (64 - k))) := by
  have hmem := List.mem_of_getElem? hk
  have hcell : ∀ j, j < 64 - k → ∃ u, (hs m s r c)[9 + k + j]? = some u := fun j hj => ⟨_, List.getElem?_eq_getElem (by rw [hs_len]; omega)⟩
  have hr : (Builtin.clear_ #[22] o.type #[.slice (some ⟨g, 9 + k, none⟩) (64 - k) (64 - k)]).run Tryd.prog w = .ok (.tuple #[]) (w.setCells g (9 + k) (List.replicate (64 - k) (.int .u8 0))) :=
    Lib.run_clear_slice w 22 5 o.type (.int .u8 0) Tryd.underlying22 zero5 rfl rfl g (9 + k) (64 - k) (64 - k) (by omega)
      (fun j hj => by
        obtain ⟨u, hu⟩ := hcell j hj
        rw [h.cell hmem hu]; rfl)
      (fun j hj => by
        obtain ⟨u, hu⟩ := hcell j hj
        exact h.free hmem hu)
  rw [rep_ints] at hr
  clear h hk hcell hmem
  unfold execOp
  simp only [ho, resolve, invoke, builtin, Sem.run_bind, Sem.run_pure, Result.andThen_ok, List.map_toArray, List.map_cons, List.map_nil, hx, hr]
end
theorem call51 : ∀ args w, (callFunc 51 args).run Tryd.prog w = .ok (.enter 51 args) w := by intro args w; go_simp
theorem call59 : ∀ args w, (callFunc 59 args).run Tryd.prog w = .ok (.enter 59 args) w := by intro args w; go_simp
set_option maxHeartbeats 4000000 in
set_option maxRecDepth 100000 in
theorem finish_A (m : Bool) (s r : Nat → Nat) (c : Nat) (hc : c % 64 < 56) (w : World) (hm : Mm w [(1, ints .u32 kT 64)]) :
    Calls Tryd.prog 46 #[.agg (hs m s r c).toArray] w fun e w' => e = .returned (.agg (ints .u8 (bo (mx s (pr8 (cl (up r (c % 64) 128) ((c % 64) + 1)) 56 8 (e8 (c64 (8 * c)) 8))) 8) 32).toArray) ∧ Below w.heap.size w w' := by
  have H0 : Hid (_ ∧ _) := ⟨hm, Below.refl w.heap.size w⟩
  clear hm
  go_enter Tryd.func46, Tryd.ntmps46
  refine wp_seq ?_
  refine walk_seqA 2 [.made (hs m s r c) 58, .made (ints .u8 (fun _ => 0) 32) 25] (sB H0) ?ho1 ?he1
  case ho1 => exact ak (fun γ => ⟨rfl, fun w' => ex_boxT rfl rfl⟩) (ak (fun γ => ⟨rfl, fun w' => ex_mk25 rfl⟩) trivial)
  intro γ w1 l hM hl
  have H1 : Hid (Mm w1 [(γ 0, hs m s r c), (γ 1, ints .u8 (fun _ => 0) 32), (1, ints .u32 kT 64)] ∧ _) := growB H0 hM (Nat.le_refl _) hl [0, 1] rfl (by decide)
  have o1_0 := ownB H0 hM (Nat.le_refl _) hl (i := 0) rfl
  have o1_1 := ownB H0 hM (Nat.le_refl _) hl (i := 1) rfl
  clear hM hl l
  generalize γ 0 = γ1_0 at H1 o1_0 ⊢
  generalize γ 1 = γ1_1 at H1 o1_1 ⊢
  clear γ
  refine rest0 rfl (then_normal (wp_seq ?_))
  refine walk_seqA 6 [.quiet (PT γ1_0 73), .quiet (U c), .quiet (U (c64 (8 * c))), .call (.agg (ints .u8 (e8 (c64 (8 * c)) 8) 8).toArray), .made (ints .u8 (fun _ => 0) 8) 81, .laid 4 (ints .u8 (fun _ => 0) 8) (ints .u8 (e8 (c64 (8 * c)) 8) 8)] (sB H1) ?ho2 ?he2 (hL := ?hL2)
  case hL2 => exact ⟨⟨_, rfl⟩, trivial⟩
  case ho2 => exact ak (by refine fun γ => ⟨rfl, fun w' h => ?_⟩; clear h; go_simp) (ak (fun γ => ⟨rfl, fun w' h => ex_loadC h 0 rfl rfl rfl Tryd.isAgg56 (hs_count _ _ _ _)⟩) (ak (fun γ => ⟨rfl, fun w' _ => ex_mul64 rfl rfl rfl⟩) (ak (fun γ => ⟨rfl, fun w' h => ⟨51, #[U (c64 (8 * c))], exec_call rfl call51 rfl (mpn rfl), eight_any (c64 (8 * c)) w'⟩⟩) (ak (fun γ => ⟨rfl, fun w' => ex_mk81 rfl⟩) (ak (fun γ => ⟨rfl, rfl, (ints_len _ _ _).trans (ints_len _ _ _).symm, fun w' h => ex_laidI h Tryd.sizeOf81 rfl rfl rfl⟩) trivial)))))
  intro γ w2 l hM hl
  have H2 : Hid (Mm w2 [(γ 4, ints .u8 (e8 (c64 (8 * c)) 8) 8), (γ1_0, hs m s r c), (γ1_1, ints .u8 (fun _ => 0) 32), (1, ints .u32 kT 64)] ∧ _) := growB H1 hM (Nat.le_refl _) hl [4] rfl (by decide)
  have o2_4 := ownB H1 hM (Nat.le_refl _) hl (i := 4) rfl
  clear hM hl l H1
  generalize γ 4 = γ2_4 at H2 o2_4 ⊢
  clear γ
  refine rest0 rfl (then_normal (wp_seq ?_))
  refine walk_seqB 2 [.call (.int .i64 ((c % 64 : Nat) : Int)), .quiet (.int .i64 ((c % 64 : Nat) : Int))] H2 ?ho3 ?he3
  case ho3 => exact ak (fun γ => ⟨rfl, fun w' h => ⟨57, #[PT γ1_0 0], exec_call rfl call57 rfl (mpn rfl), filled_any _ _ _ _ _ w' (h.one 1 rfl)⟩⟩) (ak (fun _ => ⟨rfl, fun _ _ => rfl⟩) trivial)
  intro _ w3 H3
  clear H2
  refine rest0 rfl (then_normal (wp_seq ?_))
  refine walk_seqB 3 [.quiet (.int .i64 ((c % 64 : Nat) : Int)), .quiet (PT γ1_0 9), .quiet (PT γ1_0 (9 + c % 64))] H3 ?ho4 ?he4
  case ho4 => exact ak (fun _ => ⟨rfl, fun _ _ => rfl⟩) (ak (by refine fun γ => ⟨rfl, fun w' h => ?_⟩; clear h; go_simp) (ak (fun γ => ⟨rfl, fun w' _ => ex_ix_55 (j := c % 64) rfl rfl rfl (by omega)⟩) trivial))
  intro _ w4 H4
  clear H3
  refine rest_at (l := [3]) rfl ?_
  refine rest_store rfl rfl rfl (ex_storeI (v := ((128 : Nat) : Int)) H4.out.1 1 rfl rfl Tryd.sizeOf5 rfl rfl (by rw [hs_len]; omega)) ?_
  have H5 : Hid (Mm (w4.setCells γ1_0 (9 + c % 64) ([Z8 128])) [(γ2_4, ints .u8 (e8 (c64 (8 * c)) 8) 8), (γ1_0, hs m s (up r (c % 64) 128) c), (γ1_1, ints .u8 (fun _ => 0) 32), (1, ints .u32 kT 64)] ∧ Below w.heap.size w (w4.setCells γ1_0 (9 + c % 64) ([Z8 128]))) := ⟨by
    have h := H4.out.1.put 1 (off := (9 + c % 64)) (vs := [Z8 128]) rfl (by rw [hs_len]; simp only [List.length_cons, List.length_nil]; omega)
    rw [hs_put_byte _ _ _ _ _ _ (by omega)] at h
    exact h, below_setCells _ o1_0.out _ _ _ H4.out.2⟩
  clear H4
  generalize hgw : World.setCells _ _ _ _ = w5 at H5 ⊢
  clear hgw
  refine rest_nil (then_normal (wp_seq ?_))
  refine walk_seqB 4 [.quiet (PT γ1_0 9), .quiet (.int .i64 ((c % 64 : Nat) : Int)), .quiet (.int .i64 (((c % 64) + 1 : Nat) : Int)), .quiet (.slice (some ⟨γ1_0, (9 + ((c % 64) + 1)), none⟩) (64 - ((c % 64) + 1)) (64 - ((c % 64) + 1)))] H5 ?ho5 ?he5
  case ho5 => exact ak (by refine fun γ => ⟨rfl, fun w' h => ?_⟩; clear h; go_simp) (ak (fun _ => ⟨rfl, fun _ _ => rfl⟩) (ak (by refine fun γ => ⟨rfl, fun w' h => ?_⟩; clear h; go_simp; rw [IntKind.wrap_i64]; omega) (ak (fun γ => ⟨rfl, fun w' _ => ex_slA (k := (c % 64) + 1) rfl rfl rfl (by omega)⟩) trivial)))
  intro _ w6 H6
  clear H5
  refine rest_at (l := [4]) rfl ?_
  refine rest_drop rfl rfl rfl (ex_clear (k := (c % 64) + 1) H6.out.1 1 rfl (by omega) rfl rfl) ?_
  have H7 : Hid (Mm (w6.setCells γ1_0 (9 + ((c % 64) + 1)) (ints .u8 (fun _ => 0) (64 - ((c % 64) + 1)))) [(γ2_4, ints .u8 (e8 (c64 (8 * c)) 8) 8), (γ1_0, hs m s (cl (up r (c % 64) 128) ((c % 64) + 1)) c), (γ1_1, ints .u8 (fun _ => 0) 32), (1, ints .u32 kT 64)] ∧ Below w.heap.size w (w6.setCells γ1_0 (9 + ((c % 64) + 1)) (ints .u8 (fun _ => 0) (64 - ((c % 64) + 1))))) := ⟨by
    have h := H6.out.1.put 1 (off := (9 + ((c % 64) + 1))) (vs := (ints .u8 (fun _ => 0) (64 - ((c % 64) + 1)))) rfl (by rw [ints_len, hs_len]; omega)
    rw [hs_put_part _ _ _ _ _ _ _ (by omega), cl_part] at h
    exact h, below_setCells _ o1_0.out _ _ _ H6.out.2⟩
  clear H6
  generalize hgw : World.setCells _ _ _ _ = w7 at H7 ⊢
  clear hgw
  refine rest_nil (then_normal ?_)
  refine wp_seq (wp_seq ?_)
  refine walk_seqB 3 [.quiet (.int .i64 ((c % 64 : Nat) : Int)), .quiet (.int .i64 (((c % 64) + 1 : Nat) : Int)), .quiet (.bool false)] H7 ?ho6 ?he6
  case ho6 => exact ak (fun _ => ⟨rfl, fun _ _ => rfl⟩) (ak (by refine fun γ => ⟨rfl, fun w' h => ?_⟩; clear h; go_simp; rw [IntKind.wrap_i64]; omega) (ak (by refine fun γ => ⟨rfl, fun w' h => ?_⟩; clear h; go_simp <;> omega) trivial))
  intro _ w8 H8
  clear H7
  refine rest0 rfl (then_normal (wp_cond_false rfl ?_))
  refine wp_skip (then_normal (wp_seq ?_))
  refine walk_anyB 3 [.quiet (PT γ1_0 9), .quiet (.slice (some ⟨γ1_0, 65, none⟩) 8 8), .quiet (.slice (some ⟨γ2_4, 0, none⟩) 8 8)] H8 ?ho7 ?he7
  case ho7 => exact ak (by refine fun γ => ⟨rfl, fun w' h => ?_⟩; clear h; go_simp) (ak (fun γ => ⟨rfl, fun w' _ => ex_sl56 rfl rfl rfl⟩) (ak (fun γ => ⟨rfl, fun w' _ => ex_sl81 rfl rfl⟩) trivial))
  intro _ w9 H9
  clear H8
  refine rest_at (l := [3]) rfl ?_
  refine rest_set (d := 31) (v := .int .i64 ((8 : Nat) : Int)) (w' := w9.setCells γ1_0 (9 + 56) (ints .u8 (e8 (c64 (8 * c)) 8) 8)) rfl rfl rfl (ex_copy (kk := 56) H9.out.1 1 rfl (fun j hj => by have := H9.out.1.get 0 rfl j (ints_get .u8 (e8 (c64 (8 * c)) 8) hj); rwa [Nat.zero_add]) rfl (by decide) rfl rfl rfl) ?_
  simp only [Act.put, sa, sz, ss]
  have H10 : Hid (Mm (w9.setCells γ1_0 (9 + 56) (ints .u8 (e8 (c64 (8 * c)) 8) 8)) [(γ2_4, ints .u8 (e8 (c64 (8 * c)) 8) 8), (γ1_0, hs m s (pr8 (cl (up r (c % 64) 128) ((c % 64) + 1)) 56 8 (e8 (c64 (8 * c)) 8)) c), (γ1_1, ints .u8 (fun _ => 0) 32), (1, ints .u32 kT 64)] ∧ Below w.heap.size w (w9.setCells γ1_0 (9 + 56) (ints .u8 (e8 (c64 (8 * c)) 8) 8))) := ⟨by
    have h := H9.out.1.put 1 (off := (9 + 56)) (vs := (ints .u8 (e8 (c64 (8 * c)) 8) 8)) rfl (by rw [ints_len, hs_len]; omega)
    rw [hs_put_part _ _ _ _ _ _ _ (by decide)] at h
    exact h, below_setCells _ o1_0.out _ _ _ H9.out.2⟩
  clear H9
  generalize hgw : World.setCells _ _ _ _ = w10 at H10 ⊢
  clear hgw
  refine rest_nil (then_normal (wp_seq ?_))
  refine walk_seqB 6 [.quiet (PT γ1_0 1), .quiet (.agg (ints .u32 s 8).toArray), .quiet (PT γ1_0 9), .quiet (.agg (ints .u8 (pr8 (cl (up r (c % 64) 128) ((c % 64) + 1)) 56 8 (e8 (c64 (8 * c)) 8)) 64).toArray), .call (.agg (ints .u32 (mx s (pr8 (cl (up r (c % 64) 128) ((c % 64) + 1)) 56 8 (e8 (c64 (8 * c)) 8))) 8).toArray), .call (.agg (ints .u8 (bo (mx s (pr8 (cl (up r (c % 64) 128) ((c % 64) + 1)) 56 8 (e8 (c64 (8 * c)) 8))) 8) 32).toArray)] H10 ?ho8 ?he8
  case ho8 => exact ak (by refine fun γ => ⟨rfl, fun w' h => ?_⟩; clear h; go_simp) (ak (fun γ => ⟨rfl, fun w' h => ex_loadT h 1 rfl rfl rfl Tryd.isAgg53 Tryd.sizeOf53 (hs_words _ _ _ _) (ints_len _ _ _)⟩) (ak (by refine fun γ => ⟨rfl, fun w' h => ?_⟩; clear h; go_simp) (ak (fun γ => ⟨rfl, fun w' h => ex_loadT h 1 rfl rfl rfl Tryd.isAgg55 Tryd.sizeOf55 (hs_rests _ _ _ _) (ints_len _ _ _)⟩) (ak (fun γ => ⟨rfl, fun w' h => ⟨58, #[.agg (ints .u32 s 8).toArray, .agg (ints .u8 (pr8 (cl (up r (c % 64) 128) ((c % 64) + 1)) 56 8 (e8 (c64 (8 * c)) 8)) 64).toArray], exec_call rfl call58 rfl (mpn rfl), mix_any s (pr8 (cl (up r (c % 64) 128) ((c % 64) + 1)) 56 8 (e8 (c64 (8 * c)) 8)) w' (h.one 3 rfl)⟩⟩) (ak (fun γ => ⟨rfl, fun w' h => ⟨59, #[.agg (ints .u32 (mx s (pr8 (cl (up r (c % 64) 128) ((c % 64) + 1)) 56 8 (e8 (c64 (8 * c)) 8))) 8).toArray], exec_call rfl call59 rfl (mpn rfl), bytesOf_any (mx s (pr8 (cl (up r (c % 64) 128) ((c % 64) + 1)) 56 8 (e8 (c64 (8 * c)) 8))) w'⟩⟩) trivial)))))
  intro _ w11 H11
  clear H10
  refine rest_at (l := [6]) rfl ?_
  refine rest_store rfl rfl rfl (ex_storeT (vs := ints .u8 (bo (mx s (pr8 (cl (up r (c % 64) 128) ((c % 64) + 1)) 56 8 (e8 (c64 (8 * c)) 8))) 8) 32) H11.out.1 2 rfl rfl rfl rfl (by rw [ints_len]; exact Tryd.sizeOf25) (ints_all _ _ _) (by simp [ints_len])) ?_
  have H12 : Hid (Mm (w11.setCells γ1_1 0 (ints .u8 (bo (mx s (pr8 (cl (up r (c % 64) 128) ((c % 64) + 1)) 56 8 (e8 (c64 (8 * c)) 8))) 8) 32)) [(γ2_4, ints .u8 (e8 (c64 (8 * c)) 8) 8), (γ1_0, hs m s (pr8 (cl (up r (c % 64) 128) ((c % 64) + 1)) 56 8 (e8 (c64 (8 * c)) 8)) c), (γ1_1, ints .u8 (bo (mx s (pr8 (cl (up r (c % 64) 128) ((c % 64) + 1)) 56 8 (e8 (c64 (8 * c)) 8))) 8) 32), (1, ints .u32 kT 64)] ∧ Below w.heap.size w (w11.setCells γ1_1 0 (ints .u8 (bo (mx s (pr8 (cl (up r (c % 64) 128) ((c % 64) + 1)) 56 8 (e8 (c64 (8 * c)) 8))) 8) 32))) := ⟨by
    have h := H11.out.1.put 2 (off := 0) (vs := ints .u8 (bo (mx s (pr8 (cl (up r (c % 64) 128) ((c % 64) + 1)) 56 8 (e8 (c64 (8 * c)) 8))) 8) 32) rfl (by simp [ints_len])
    rw [ints_patch0 _ _ _ _] at h
    exact h, below_setCells _ o1_1.out _ _ _ H11.out.2⟩
  clear H11
  generalize hgw : World.setCells _ _ _ _ = w12 at H12 ⊢
  clear hgw
  refine rest_nil (then_normal (wp_ret ?_))
  repeat (first | refine then_ret ?_ | refine block_ret ?_)
  have hf0 := var_T H12.out.1 2 rfl Tryd.isAgg25 Tryd.sizeOf25 (ints_len _ _ _)
  refine bodyPost_ret (v := .agg (ints .u8 (bo (mx s (pr8 (cl (up r (c % 64) 128) ((c % 64) + 1)) 56 8 (e8 (c64 (8 * c)) 8))) 8) 32).toArray) (by simp [results, Tryd.results46, asAddr, hf0]) rfl ?_
  exact ⟨rfl, H12.out.2⟩
set_option maxHeartbeats 4000000 in
set_option maxRecDepth 100000 in
theorem finish_B (m : Bool) (s r : Nat → Nat) (c : Nat) (hc : 56 ≤ c % 64) (hd : c % 64 < 63) (w : World) (hm : Mm w [(1, ints .u32 kT 64)]) :
    Calls Tryd.prog 46 #[.agg (hs m s r c).toArray] w fun e w' => e = .returned (.agg (ints .u8 (bo (mx (mx s (cl (up r (c % 64) 128) ((c % 64) + 1))) (pr8 (fun _ => 0) 56 8 (e8 (c64 (8 * c)) 8))) 8) 32).toArray) ∧ Below w.heap.size w w' := by
  have H0 : Hid (_ ∧ _) := ⟨hm, Below.refl w.heap.size w⟩
  clear hm
  go_enter Tryd.func46, Tryd.ntmps46
  refine wp_seq ?_
  refine walk_seqA 2 [.made (hs m s r c) 58, .made (ints .u8 (fun _ => 0) 32) 25] (sB H0) ?ho1 ?he1
  case ho1 => exact ak (fun γ => ⟨rfl, fun w' => ex_boxT rfl rfl⟩) (ak (fun γ => ⟨rfl, fun w' => ex_mk25 rfl⟩) trivial)
  intro γ w1 l hM hl
  have H1 : Hid (Mm w1 [(γ 0, hs m s r c), (γ 1, ints .u8 (fun _ => 0) 32), (1, ints .u32 kT 64)] ∧ _) := growB H0 hM (Nat.le_refl _) hl [0, 1] rfl (by decide)
  have o1_0 := ownB H0 hM (Nat.le_refl _) hl (i := 0) rfl
  have o1_1 := ownB H0 hM (Nat.le_refl _) hl (i := 1) rfl
  clear hM hl l
  generalize γ 0 = γ1_0 at H1 o1_0 ⊢
  generalize γ 1 = γ1_1 at H1 o1_1 ⊢
  clear γ
  refine rest0 rfl (then_normal (wp_seq ?_))
  refine walk_seqA 6 [.quiet (PT γ1_0 73), .quiet (U c), .quiet (U (c64 (8 * c))), .call (.agg (ints .u8 (e8 (c64 (8 * c)) 8) 8).toArray), .made (ints .u8 (fun _ => 0) 8) 81, .laid 4 (ints .u8 (fun _ => 0) 8) (ints .u8 (e8 (c64 (8 * c)) 8) 8)] (sB H1) ?ho2 ?he2 (hL := ?hL2)
  case hL2 => exact ⟨⟨_, rfl⟩, trivial⟩
  case ho2 => exact ak (by refine fun γ => ⟨rfl, fun w' h => ?_⟩; clear h; go_simp) (ak (fun γ => ⟨rfl, fun w' h => ex_loadC h 0 rfl rfl rfl Tryd.isAgg56 (hs_count _ _ _ _)⟩) (ak (fun γ => ⟨rfl, fun w' _ => ex_mul64 rfl rfl rfl⟩) (ak (fun γ => ⟨rfl, fun w' h => ⟨51, #[U (c64 (8 * c))], exec_call rfl call51 rfl (mpn rfl), eight_any (c64 (8 * c)) w'⟩⟩) (ak (fun γ => ⟨rfl, fun w' => ex_mk81 rfl⟩) (ak (fun γ => ⟨rfl, rfl, (ints_len _ _ _).trans (ints_len _ _ _).symm, fun w' h => ex_laidI h Tryd.sizeOf81 rfl rfl rfl⟩) trivial)))))
  intro γ w2 l hM hl
  have H2 : Hid (Mm w2 [(γ 4, ints .u8 (e8 (c64 (8 * c)) 8) 8), (γ1_0, hs m s r c), (γ1_1, ints .u8 (fun _ => 0) 32), (1, ints .u32 kT 64)] ∧ _) := growB H1 hM (Nat.le_refl _) hl [4] rfl (by decide)
  have o2_4 := ownB H1 hM (Nat.le_refl _) hl (i := 4) rfl
  clear hM hl l H1
  generalize γ 4 = γ2_4 at H2 o2_4 ⊢
  clear γ
  refine rest0 rfl (then_normal (wp_seq ?_))
  refine walk_seqB 2 [.call (.int .i64 ((c % 64 : Nat) : Int)), .quiet (.int .i64 ((c % 64 : Nat) : Int))] H2 ?ho3 ?he3
  case ho3 => exact ak (fun γ => ⟨rfl, fun w' h => ⟨57, #[PT γ1_0 0], exec_call rfl call57 rfl (mpn rfl), filled_any _ _ _ _ _ w' (h.one 1 rfl)⟩⟩) (ak (fun _ => ⟨rfl, fun _ _ => rfl⟩) trivial)
  intro _ w3 H3
  clear H2
  refine rest0 rfl (then_normal (wp_seq ?_))
  refine walk_seqB 3 [.quiet (.int .i64 ((c % 64 : Nat) : Int)), .quiet (PT γ1_0 9), .quiet (PT γ1_0 (9 + c % 64))] H3 ?ho4 ?he4
  case ho4 => exact ak (fun _ => ⟨rfl, fun _ _ => rfl⟩) (ak (by refine fun γ => ⟨rfl, fun w' h => ?_⟩; clear h; go_simp) (ak (fun γ => ⟨rfl, fun w' _ => ex_ix_55 (j := c % 64) rfl rfl rfl (by omega)⟩) trivial))
  intro _ w4 H4
  clear H3
  refine rest_at (l := [3]) rfl ?_
  refine rest_store rfl rfl rfl (ex_storeI (v := ((128 : Nat) : Int)) H4.out.1 1 rfl rfl Tryd.sizeOf5 rfl rfl (by rw [hs_len]; omega)) ?_
  have H5 : Hid (Mm (w4.setCells γ1_0 (9 + c % 64) ([Z8 128])) [(γ2_4, ints .u8 (e8 (c64 (8 * c)) 8) 8), (γ1_0, hs m s (up r (c % 64) 128) c), (γ1_1, ints .u8 (fun _ => 0) 32), (1, ints .u32 kT 64)] ∧ Below w.heap.size w (w4.setCells γ1_0 (9 + c % 64) ([Z8 128]))) := ⟨by
    have h := H4.out.1.put 1 (off := (9 + c % 64)) (vs := [Z8 128]) rfl (by rw [hs_len]; simp only [List.length_cons, List.length_nil]; omega)
    rw [hs_put_byte _ _ _ _ _ _ (by omega)] at h
    exact h, below_setCells _ o1_0.out _ _ _ H4.out.2⟩
  clear H4
  generalize hgw : World.setCells _ _ _ _ = w5 at H5 ⊢
  clear hgw
  refine rest_nil (then_normal (wp_seq ?_))
  refine walk_seqB 4 [.quiet (PT γ1_0 9), .quiet (.int .i64 ((c % 64 : Nat) : Int)), .quiet (.int .i64 (((c % 64) + 1 : Nat) : Int)), .quiet (.slice (some ⟨γ1_0, (9 + ((c % 64) + 1)), none⟩) (64 - ((c % 64) + 1)) (64 - ((c % 64) + 1)))] H5 ?ho5 ?he5
  case ho5 => exact ak (by refine fun γ => ⟨rfl, fun w' h => ?_⟩; clear h; go_simp) (ak (fun _ => ⟨rfl, fun _ _ => rfl⟩) (ak (by refine fun γ => ⟨rfl, fun w' h => ?_⟩; clear h; go_simp; rw [IntKind.wrap_i64]; omega) (ak (fun γ => ⟨rfl, fun w' _ => ex_slA (k := (c % 64) + 1) rfl rfl rfl (by omega)⟩) trivial)))
  intro _ w6 H6
  clear H5
  refine rest_at (l := [4]) rfl ?_
  refine rest_drop rfl rfl rfl (ex_clear (k := (c % 64) + 1) H6.out.1 1 rfl (by omega) rfl rfl) ?_
  have H7 : Hid (Mm (w6.setCells γ1_0 (9 + ((c % 64) + 1)) (ints .u8 (fun _ => 0) (64 - ((c % 64) + 1)))) [(γ2_4, ints .u8 (e8 (c64 (8 * c)) 8) 8), (γ1_0, hs m s (cl (up r (c % 64) 128) ((c % 64) + 1)) c), (γ1_1, ints .u8 (fun _ => 0) 32), (1, ints .u32 kT 64)] ∧ Below w.heap.size w (w6.setCells γ1_0 (9 + ((c % 64) + 1)) (ints .u8 (fun _ => 0) (64 - ((c % 64) + 1))))) := ⟨by
    have h := H6.out.1.put 1 (off := (9 + ((c % 64) + 1))) (vs := (ints .u8 (fun _ => 0) (64 - ((c % 64) + 1)))) rfl (by rw [ints_len, hs_len]; omega)
    rw [hs_put_part _ _ _ _ _ _ _ (by omega), cl_part] at h
    exact h, below_setCells _ o1_0.out _ _ _ H6.out.2⟩
  clear H6
  generalize hgw : World.setCells _ _ _ _ = w7 at H7 ⊢
  clear hgw
  refine rest_nil (then_normal ?_)
  refine wp_seq (wp_seq ?_)
  refine walk_seqB 3 [.quiet (.int .i64 ((c % 64 : Nat) : Int)), .quiet (.int .i64 (((c % 64) + 1 : Nat) : Int)), .quiet (.bool true)] H7 ?ho6 ?he6
  case ho6 => exact ak (fun _ => ⟨rfl, fun _ _ => rfl⟩) (ak (by refine fun γ => ⟨rfl, fun w' h => ?_⟩; clear h; go_simp; rw [IntKind.wrap_i64]; omega) (ak (by refine fun γ => ⟨rfl, fun w' h => ?_⟩; clear h; go_simp <;> omega) trivial))
  intro _ w8 H8
  clear H7
  refine rest0 rfl (then_normal (wp_cond_true rfl (wp_seq ?_)))
  refine walk_seqB 6 [.quiet (PT γ1_0 1), .quiet (.agg (ints .u32 s 8).toArray), .quiet (PT γ1_0 9), .quiet (.agg (ints .u8 (cl (up r (c % 64) 128) ((c % 64) + 1)) 64).toArray), .call (.agg (ints .u32 (mx s (cl (up r (c % 64) 128) ((c % 64) + 1))) 8).toArray), .quiet (PT γ1_0 1)] H8 ?ho7 ?he7
  case ho7 => exact ak (by refine fun γ => ⟨rfl, fun w' h => ?_⟩; clear h; go_simp) (ak (fun γ => ⟨rfl, fun w' h => ex_loadT h 1 rfl rfl rfl Tryd.isAgg53 Tryd.sizeOf53 (hs_words _ _ _ _) (ints_len _ _ _)⟩) (ak (by refine fun γ => ⟨rfl, fun w' h => ?_⟩; clear h; go_simp) (ak (fun γ => ⟨rfl, fun w' h => ex_loadT h 1 rfl rfl rfl Tryd.isAgg55 Tryd.sizeOf55 (hs_rests _ _ _ _) (ints_len _ _ _)⟩) (ak (fun γ => ⟨rfl, fun w' h => ⟨58, #[.agg (ints .u32 s 8).toArray, .agg (ints .u8 (cl (up r (c % 64) 128) ((c % 64) + 1)) 64).toArray], exec_call rfl call58 rfl (mpn rfl), mix_any s (cl (up r (c % 64) 128) ((c % 64) + 1)) w' (h.one 3 rfl)⟩⟩) (ak (by refine fun γ => ⟨rfl, fun w' h => ?_⟩; clear h; go_simp) trivial)))))
  intro _ w9 H9
  clear H8
  refine rest_at (l := [6]) rfl ?_
  refine rest_store rfl rfl rfl (ex_storeT (vs := ints .u32 (mx s (cl (up r (c % 64) 128) ((c % 64) + 1))) 8) H9.out.1 1 rfl rfl rfl rfl (by rw [ints_len]; exact Tryd.sizeOf53) (ints_all _ _ _) (by simp [ints_len, hs_len])) ?_
  have H10 : Hid (Mm (w9.setCells γ1_0 1 (ints .u32 (mx s (cl (up r (c % 64) 128) ((c % 64) + 1))) 8)) [(γ2_4, ints .u8 (e8 (c64 (8 * c)) 8) 8), (γ1_0, hs m (mx s (cl (up r (c % 64) 128) ((c % 64) + 1))) (cl (up r (c % 64) 128) ((c % 64) + 1)) c), (γ1_1, ints .u8 (fun _ => 0) 32), (1, ints .u32 kT 64)] ∧ Below w.heap.size w (w9.setCells γ1_0 1 (ints .u32 (mx s (cl (up r (c % 64) 128) ((c % 64) + 1))) 8))) := ⟨by
    have h := H9.out.1.put 1 (off := 1) (vs := ints .u32 (mx s (cl (up r (c % 64) 128) ((c % 64) + 1))) 8) rfl (by simp [ints_len, hs_len])
    rw [hs_put_words _ _ _ _ _] at h
    exact h, below_setCells _ o1_0.out _ _ _ H9.out.2⟩
  clear H9
  generalize hgw : World.setCells _ _ _ _ = w10 at H10 ⊢
  clear hgw
  refine rest_nil (then_normal ?_)
  refine walk_seqB 2 [.quiet (.agg (ints .u8 (fun _ => 0) 64).toArray), .quiet (PT γ1_0 9)] H10 ?ho8 ?he8
  case ho8 => exact ak (fun γ => ⟨rfl, fun w' _ => ex_bz55 rfl⟩) (ak (by refine fun γ => ⟨rfl, fun w' h => ?_⟩; clear h; go_simp) trivial)
  intro _ w11 H11
  clear H10
  refine rest_at (l := [2]) rfl ?_
  refine rest_store rfl rfl rfl (ex_storeT (vs := ints .u8 (fun _ => 0) 64) H11.out.1 1 rfl rfl rfl rfl (by rw [ints_len]; exact Tryd.sizeOf55) (ints_all _ _ _) (by simp [ints_len, hs_len])) ?_
  have H12 : Hid (Mm (w11.setCells γ1_0 9 (ints .u8 (fun _ => 0) 64)) [(γ2_4, ints .u8 (e8 (c64 (8 * c)) 8) 8), (γ1_0, hs m (mx s (cl (up r (c % 64) 128) ((c % 64) + 1))) (fun _ => 0) c), (γ1_1, ints .u8 (fun _ => 0) 32), (1, ints .u32 kT 64)] ∧ Below w.heap.size w (w11.setCells γ1_0 9 (ints .u8 (fun _ => 0) 64))) := ⟨by
    have h := H11.out.1.put 1 (off := 9) (vs := ints .u8 (fun _ => 0) 64) rfl (by simp [ints_len, hs_len])
    rw [hs_put_rest _ _ _ _ _] at h
    exact h, below_setCells _ o1_0.out _ _ _ H11.out.2⟩
  clear H11
  generalize hgw : World.setCells _ _ _ _ = w12 at H12 ⊢
  clear hgw
  refine rest_nil (then_normal (wp_seq ?_))
  refine walk_anyB 3 [.quiet (PT γ1_0 9), .quiet (.slice (some ⟨γ1_0, 65, none⟩) 8 8), .quiet (.slice (some ⟨γ2_4, 0, none⟩) 8 8)] H12 ?ho9 ?he9
  case ho9 => exact ak (by refine fun γ => ⟨rfl, fun w' h => ?_⟩; clear h; go_simp) (ak (fun γ => ⟨rfl, fun w' _ => ex_sl56 rfl rfl rfl⟩) (ak (fun γ => ⟨rfl, fun w' _ => ex_sl81 rfl rfl⟩) trivial))
  intro _ w13 H13
  clear H12
  refine rest_at (l := [3]) rfl ?_
  refine rest_set (d := 31) (v := .int .i64 ((8 : Nat) : Int)) (w' := w13.setCells γ1_0 (9 + 56) (ints .u8 (e8 (c64 (8 * c)) 8) 8)) rfl rfl rfl (ex_copy (kk := 56) H13.out.1 1 rfl (fun j hj => by have := H13.out.1.get 0 rfl j (ints_get .u8 (e8 (c64 (8 * c)) 8) hj); rwa [Nat.zero_add]) rfl (by decide) rfl rfl rfl) ?_
  simp only [Act.put, sa, sz, ss]
  have H14 : Hid (Mm (w13.setCells γ1_0 (9 + 56) (ints .u8 (e8 (c64 (8 * c)) 8) 8)) [(γ2_4, ints .u8 (e8 (c64 (8 * c)) 8) 8), (γ1_0, hs m (mx s (cl (up r (c % 64) 128) ((c % 64) + 1))) (pr8 (fun _ => 0) 56 8 (e8 (c64 (8 * c)) 8)) c), (γ1_1, ints .u8 (fun _ => 0) 32), (1, ints .u32 kT 64)] ∧ Below w.heap.size w (w13.setCells γ1_0 (9 + 56) (ints .u8 (e8 (c64 (8 * c)) 8) 8))) := ⟨by
    have h := H13.out.1.put 1 (off := (9 + 56)) (vs := (ints .u8 (e8 (c64 (8 * c)) 8) 8)) rfl (by rw [ints_len, hs_len]; omega)
    rw [hs_put_part _ _ _ _ _ _ _ (by decide)] at h
    exact h, below_setCells _ o1_0.out _ _ _ H13.out.2⟩
  clear H13
  generalize hgw : World.setCells _ _ _ _ = w14 at H14 ⊢
  clear hgw
  refine rest_nil (then_normal (wp_seq ?_))
  refine walk_seqB 6 [.quiet (PT γ1_0 1), .quiet (.agg (ints .u32 (mx s (cl (up r (c % 64) 128) ((c % 64) + 1))) 8).toArray), .quiet (PT γ1_0 9), .quiet (.agg (ints .u8 (pr8 (fun _ => 0) 56 8 (e8 (c64 (8 * c)) 8)) 64).toArray), .call (.agg (ints .u32 (mx (mx s (cl (up r (c % 64) 128) ((c % 64) + 1))) (pr8 (fun _ => 0) 56 8 (e8 (c64 (8 * c)) 8))) 8).toArray), .call (.agg (ints .u8 (bo (mx (mx s (cl (up r (c % 64) 128) ((c % 64) + 1))) (pr8 (fun _ => 0) 56 8 (e8 (c64 (8 * c)) 8))) 8) 32).toArray)] H14 ?ho10 ?he10
  case ho10 => exact ak (by refine fun γ => ⟨rfl, fun w' h => ?_⟩; clear h; go_simp) (ak (fun γ => ⟨rfl, fun w' h => ex_loadT h 1 rfl rfl rfl Tryd.isAgg53 Tryd.sizeOf53 (hs_words _ _ _ _) (ints_len _ _ _)⟩) (ak (by refine fun γ => ⟨rfl, fun w' h => ?_⟩; clear h; go_simp) (ak (fun γ => ⟨rfl, fun w' h => ex_loadT h 1 rfl rfl rfl Tryd.isAgg55 Tryd.sizeOf55 (hs_rests _ _ _ _) (ints_len _ _ _)⟩) (ak (fun γ => ⟨rfl, fun w' h => ⟨58, #[.agg (ints .u32 (mx s (cl (up r (c % 64) 128) ((c % 64) + 1))) 8).toArray, .agg (ints .u8 (pr8 (fun _ => 0) 56 8 (e8 (c64 (8 * c)) 8)) 64).toArray], exec_call rfl call58 rfl (mpn rfl), mix_any (mx s (cl (up r (c % 64) 128) ((c % 64) + 1))) (pr8 (fun _ => 0) 56 8 (e8 (c64 (8 * c)) 8)) w' (h.one 3 rfl)⟩⟩) (ak (fun γ => ⟨rfl, fun w' h => ⟨59, #[.agg (ints .u32 (mx (mx s (cl (up r (c % 64) 128) ((c % 64) + 1))) (pr8 (fun _ => 0) 56 8 (e8 (c64 (8 * c)) 8))) 8).toArray], exec_call rfl call59 rfl (mpn rfl), bytesOf_any (mx (mx s (cl (up r (c % 64) 128) ((c % 64) + 1))) (pr8 (fun _ => 0) 56 8 (e8 (c64 (8 * c)) 8))) w'⟩⟩) trivial)))))
  intro _ w15 H15
  clear H14
  refine rest_at (l := [6]) rfl ?_
  refine rest_store rfl rfl rfl (ex_storeT (vs := ints .u8 (bo (mx (mx s (cl (up r (c % 64) 128) ((c % 64) + 1))) (pr8 (fun _ => 0) 56 8 (e8 (c64 (8 * c)) 8))) 8) 32) H15.out.1 2 rfl rfl rfl rfl (by rw [ints_len]; exact Tryd.sizeOf25) (ints_all _ _ _) (by simp [ints_len])) ?_
  have H16 : Hid (Mm (w15.setCells γ1_1 0 (ints .u8 (bo (mx (mx s (cl (up r (c % 64) 128) ((c % 64) + 1))) (pr8 (fun _ => 0) 56 8 (e8 (c64 (8 * c)) 8))) 8) 32)) [(γ2_4, ints .u8 (e8 (c64 (8 * c)) 8) 8), (γ1_0, hs m (mx s (cl (up r (c % 64) 128) ((c % 64) + 1))) (pr8 (fun _ => 0) 56 8 (e8 (c64 (8 * c)) 8)) c), (γ1_1, ints .u8 (bo (mx (mx s (cl (up r (c % 64) 128) ((c % 64) + 1))) (pr8 (fun _ => 0) 56 8 (e8 (c64 (8 * c)) 8))) 8) 32), (1, ints .u32 kT 64)] ∧ Below w.heap.size w (w15.setCells γ1_1 0 (ints .u8 (bo (mx (mx s (cl (up r (c % 64) 128) ((c % 64) + 1))) (pr8 (fun _ => 0) 56 8 (e8 (c64 (8 * c)) 8))) 8) 32))) := ⟨by
    have h := H15.out.1.put 2 (off := 0) (vs := ints .u8 (bo (mx (mx s (cl (up r (c % 64) 128) ((c % 64) + 1))) (pr8 (fun _ => 0) 56 8 (e8 (c64 (8 * c)) 8))) 8) 32) rfl (by simp [ints_len])
    rw [ints_patch0 _ _ _ _] at h
    exact h, below_setCells _ o1_1.out _ _ _ H15.out.2⟩
  clear H15
  generalize hgw : World.setCells _ _ _ _ = w16 at H16 ⊢
  clear hgw
  refine rest_nil (then_normal (wp_ret ?_))
  repeat (first | refine then_ret ?_ | refine block_ret ?_)
  have hf0 := var_T H16.out.1 2 rfl Tryd.isAgg25 Tryd.sizeOf25 (ints_len _ _ _)
  refine bodyPost_ret (v := .agg (ints .u8 (bo (mx (mx s (cl (up r (c % 64) 128) ((c % 64) + 1))) (pr8 (fun _ => 0) 56 8 (e8 (c64 (8 * c)) 8))) 8) 32).toArray) (by simp [results, Tryd.results46, asAddr, hf0]) rfl ?_
  exact ⟨rfl, H16.out.2⟩
set_option maxHeartbeats 4000000 in
set_option maxRecDepth 100000 in
theorem finish_C (m : Bool) (s r : Nat → Nat) (c : Nat) (hc : c % 64 = 63) (w : World) (hm : Mm w [(1, ints .u32 kT 64)]) :
    Calls Tryd.prog 46 #[.agg (hs m s r c).toArray] w fun e w' => e = .returned (.agg (ints .u8 (bo (mx (mx s (up r (c % 64) 128)) (pr8 (fun _ => 0) 56 8 (e8 (c64 (8 * c)) 8))) 8) 32).toArray) ∧ Below w.heap.size w w' := by
  have H0 : Hid (_ ∧ _) := ⟨hm, Below.refl w.heap.size w⟩
  clear hm
  go_enter Tryd.func46, Tryd.ntmps46
  refine wp_seq ?_
  refine walk_seqA 2 [.made (hs m s r c) 58, .made (ints .u8 (fun _ => 0) 32) 25] (sB H0) ?ho1 ?he1
  case ho1 => exact ak (fun γ => ⟨rfl, fun w' => ex_boxT rfl rfl⟩) (ak (fun γ => ⟨rfl, fun w' => ex_mk25 rfl⟩) trivial)
  intro γ w1 l hM hl
  have H1 : Hid (Mm w1 [(γ 0, hs m s r c), (γ 1, ints .u8 (fun _ => 0) 32), (1, ints .u32 kT 64)] ∧ _) := growB H0 hM (Nat.le_refl _) hl [0, 1] rfl (by decide)
  have o1_0 := ownB H0 hM (Nat.le_refl _) hl (i := 0) rfl
  have o1_1 := ownB H0 hM (Nat.le_refl _) hl (i := 1) rfl
  clear hM hl l
  generalize γ 0 = γ1_0 at H1 o1_0 ⊢
  generalize γ 1 = γ1_1 at H1 o1_1 ⊢
  clear γ
  refine rest0 rfl (then_normal (wp_seq ?_))
  refine walk_seqA 6 [.quiet (PT γ1_0 73), .quiet (U c), .quiet (U (c64 (8 * c))), .call (.agg (ints .u8 (e8 (c64 (8 * c)) 8) 8).toArray), .made (ints .u8 (fun _ => 0) 8) 81, .laid 4 (ints .u8 (fun _ => 0) 8) (ints .u8 (e8 (c64 (8 * c)) 8) 8)] (sB H1) ?ho2 ?he2 (hL := ?hL2)
  case hL2 => exact ⟨⟨_, rfl⟩, trivial⟩
  case ho2 => exact ak (by refine fun γ => ⟨rfl, fun w' h => ?_⟩; clear h; go_simp) (ak (fun γ => ⟨rfl, fun w' h => ex_loadC h 0 rfl rfl rfl Tryd.isAgg56 (hs_count _ _ _ _)⟩) (ak (fun γ => ⟨rfl, fun w' _ => ex_mul64 rfl rfl rfl⟩) (ak (fun γ => ⟨rfl, fun w' h => ⟨51, #[U (c64 (8 * c))], exec_call rfl call51 rfl (mpn rfl), eight_any (c64 (8 * c)) w'⟩⟩) (ak (fun γ => ⟨rfl, fun w' => ex_mk81 rfl⟩) (ak (fun γ => ⟨rfl, rfl, (ints_len _ _ _).trans (ints_len _ _ _).symm, fun w' h => ex_laidI h Tryd.sizeOf81 rfl rfl rfl⟩) trivial)))))
  intro γ w2 l hM hl
  have H2 : Hid (Mm w2 [(γ 4, ints .u8 (e8 (c64 (8 * c)) 8) 8), (γ1_0, hs m s r c), (γ1_1, ints .u8 (fun _ => 0) 32), (1, ints .u32 kT 64)] ∧ _) := growB H1 hM (Nat.le_refl _) hl [4] rfl (by decide)
  have o2_4 := ownB H1 hM (Nat.le_refl _) hl (i := 4) rfl
  clear hM hl l H1
  generalize γ 4 = γ2_4 at H2 o2_4 ⊢
  clear γ
  refine rest0 rfl (then_normal (wp_seq ?_))
  refine walk_seqB 2 [.call (.int .i64 ((c % 64 : Nat) : Int)), .quiet (.int .i64 ((c % 64 : Nat) : Int))] H2 ?ho3 ?he3
  case ho3 => exact ak (fun γ => ⟨rfl, fun w' h => ⟨57, #[PT γ1_0 0], exec_call rfl call57 rfl (mpn rfl), filled_any _ _ _ _ _ w' (h.one 1 rfl)⟩⟩) (ak (fun _ => ⟨rfl, fun _ _ => rfl⟩) trivial)
  intro _ w3 H3
  clear H2
  refine rest0 rfl (then_normal (wp_seq ?_))
  refine walk_seqB 3 [.quiet (.int .i64 ((c % 64 : Nat) : Int)), .quiet (PT γ1_0 9), .quiet (PT γ1_0 (9 + c % 64))] H3 ?ho4 ?he4
  case ho4 => exact ak (fun _ => ⟨rfl, fun _ _ => rfl⟩) (ak (by refine fun γ => ⟨rfl, fun w' h => ?_⟩; clear h; go_simp) (ak (fun γ => ⟨rfl, fun w' _ => ex_ix_55 (j := c % 64) rfl rfl rfl (by omega)⟩) trivial))
  intro _ w4 H4
  clear H3
  refine rest_at (l := [3]) rfl ?_
  refine rest_store rfl rfl rfl (ex_storeI (v := ((128 : Nat) : Int)) H4.out.1 1 rfl rfl Tryd.sizeOf5 rfl rfl (by rw [hs_len]; omega)) ?_
  have H5 : Hid (Mm (w4.setCells γ1_0 (9 + c % 64) ([Z8 128])) [(γ2_4, ints .u8 (e8 (c64 (8 * c)) 8) 8), (γ1_0, hs m s (up r (c % 64) 128) c), (γ1_1, ints .u8 (fun _ => 0) 32), (1, ints .u32 kT 64)] ∧ Below w.heap.size w (w4.setCells γ1_0 (9 + c % 64) ([Z8 128]))) := ⟨by
    have h := H4.out.1.put 1 (off := (9 + c % 64)) (vs := [Z8 128]) rfl (by rw [hs_len]; simp only [List.length_cons, List.length_nil]; omega)
    rw [hs_put_byte _ _ _ _ _ _ (by omega)] at h
    exact h, below_setCells _ o1_0.out _ _ _ H4.out.2⟩
  clear H4
  generalize hgw : World.setCells _ _ _ _ = w5 at H5 ⊢
  clear hgw
  refine rest_nil (then_normal (wp_seq ?_))
  refine walk_seqB 4 [.quiet (PT γ1_0 9), .quiet (.int .i64 ((c % 64 : Nat) : Int)), .quiet (.int .i64 (((c % 64) + 1 : Nat) : Int)), .quiet (.slice (some ⟨γ1_0, 9, none⟩) 0 0)] H5 ?ho5 ?he5
  case ho5 => exact ak (by refine fun γ => ⟨rfl, fun w' h => ?_⟩; clear h; go_simp) (ak (fun _ => ⟨rfl, fun _ _ => rfl⟩) (ak (by refine fun γ => ⟨rfl, fun w' h => ?_⟩; clear h; go_simp; rw [IntKind.wrap_i64]; omega) (ak (fun γ => ⟨rfl, fun w' _ => ex_slA64 (k := (c % 64) + 1) rfl rfl rfl (by omega)⟩) trivial)))
  intro _ w6 H6
  clear H5
  refine rest_at (l := [4]) rfl ?_
  refine rest_drop rfl rfl rfl (ex_clear0 rfl rfl) ?_
  refine rest_nil (then_normal ?_)
  refine wp_seq (wp_seq ?_)
  refine walk_seqB 3 [.quiet (.int .i64 ((c % 64 : Nat) : Int)), .quiet (.int .i64 (((c % 64) + 1 : Nat) : Int)), .quiet (.bool true)] H6 ?ho6 ?he6
  case ho6 => exact ak (fun _ => ⟨rfl, fun _ _ => rfl⟩) (ak (by refine fun γ => ⟨rfl, fun w' h => ?_⟩; clear h; go_simp; rw [IntKind.wrap_i64]; omega) (ak (by refine fun γ => ⟨rfl, fun w' h => ?_⟩; clear h; go_simp <;> omega) trivial))
  intro _ w7 H7
  clear H6
  refine rest0 rfl (then_normal (wp_cond_true rfl (wp_seq ?_)))
  refine walk_seqB 6 [.quiet (PT γ1_0 1), .quiet (.agg (ints .u32 s 8).toArray), .quiet (PT γ1_0 9), .quiet (.agg (ints .u8 (up r (c % 64) 128) 64).toArray), .call (.agg (ints .u32 (mx s (up r (c % 64) 128)) 8).toArray), .quiet (PT γ1_0 1)] H7 ?ho7 ?he7
  case ho7 => exact ak (by refine fun γ => ⟨rfl, fun w' h => ?_⟩; clear h; go_simp) (ak (fun γ => ⟨rfl, fun w' h => ex_loadT h 1 rfl rfl rfl Tryd.isAgg53 Tryd.sizeOf53 (hs_words _ _ _ _) (ints_len _ _ _)⟩) (ak (by refine fun γ => ⟨rfl, fun w' h => ?_⟩; clear h; go_simp) (ak (fun γ => ⟨rfl, fun w' h => ex_loadT h 1 rfl rfl rfl Tryd.isAgg55 Tryd.sizeOf55 (hs_rests _ _ _ _) (ints_len _ _ _)⟩) (ak (fun γ => ⟨rfl, fun w' h => ⟨58, #[.agg (ints .u32 s 8).toArray, .agg (ints .u8 (up r (c % 64) 128) 64).toArray], exec_call rfl call58 rfl (mpn rfl), mix_any s (up r (c % 64) 128) w' (h.one 3 rfl)⟩⟩) (ak (by refine fun γ => ⟨rfl, fun w' h => ?_⟩; clear h; go_simp) trivial)))))
  intro _ w8 H8
  clear H7
  refine rest_at (l := [6]) rfl ?_
  refine rest_store rfl rfl rfl (ex_storeT (vs := ints .u32 (mx s (up r (c % 64) 128)) 8) H8.out.1 1 rfl rfl rfl rfl (by rw [ints_len]; exact Tryd.sizeOf53) (ints_all _ _ _) (by simp [ints_len, hs_len])) ?_
  have H9 : Hid (Mm (w8.setCells γ1_0 1 (ints .u32 (mx s (up r (c % 64) 128)) 8)) [(γ2_4, ints .u8 (e8 (c64 (8 * c)) 8) 8), (γ1_0, hs m (mx s (up r (c % 64) 128)) (up r (c % 64) 128) c), (γ1_1, ints .u8 (fun _ => 0) 32), (1, ints .u32 kT 64)] ∧ Below w.heap.size w (w8.setCells γ1_0 1 (ints .u32 (mx s (up r (c % 64) 128)) 8))) := ⟨by
    have h := H8.out.1.put 1 (off := 1) (vs := ints .u32 (mx s (up r (c % 64) 128)) 8) rfl (by simp [ints_len, hs_len])
    rw [hs_put_words _ _ _ _ _] at h
    exact h, below_setCells _ o1_0.out _ _ _ H8.out.2⟩
  clear H8
  generalize hgw : World.setCells _ _ _ _ = w9 at H9 ⊢
  clear hgw
  refine rest_nil (then_normal ?_)
  refine walk_seqB 2 [.quiet (.agg (ints .u8 (fun _ => 0) 64).toArray), .quiet (PT γ1_0 9)] H9 ?ho8 ?he8
  case ho8 => exact ak (fun γ => ⟨rfl, fun w' _ => ex_bz55 rfl⟩) (ak (by refine fun γ => ⟨rfl, fun w' h => ?_⟩; clear h; go_simp) trivial)
  intro _ w10 H10
  clear H9
  refine rest_at (l := [2]) rfl ?_
  refine rest_store rfl rfl rfl (ex_storeT (vs := ints .u8 (fun _ => 0) 64) H10.out.1 1 rfl rfl rfl rfl (by rw [ints_len]; exact Tryd.sizeOf55) (ints_all _ _ _) (by simp [ints_len, hs_len])) ?_
  have H11 : Hid (Mm (w10.setCells γ1_0 9 (ints .u8 (fun _ => 0) 64)) [(γ2_4, ints .u8 (e8 (c64 (8 * c)) 8) 8), (γ1_0, hs m (mx s (up r (c % 64) 128)) (fun _ => 0) c), (γ1_1, ints .u8 (fun _ => 0) 32), (1, ints .u32 kT 64)] ∧ Below w.heap.size w (w10.setCells γ1_0 9 (ints .u8 (fun _ => 0) 64))) := ⟨by
    have h := H10.out.1.put 1 (off := 9) (vs := ints .u8 (fun _ => 0) 64) rfl (by simp [ints_len, hs_len])
    rw [hs_put_rest _ _ _ _ _] at h
    exact h, below_setCells _ o1_0.out _ _ _ H10.out.2⟩
  clear H10
  generalize hgw : World.setCells _ _ _ _ = w11 at H11 ⊢
  clear hgw
  refine rest_nil (then_normal (wp_seq ?_))
  refine walk_anyB 3 [.quiet (PT γ1_0 9), .quiet (.slice (some ⟨γ1_0, 65, none⟩) 8 8), .quiet (.slice (some ⟨γ2_4, 0, none⟩) 8 8)] H11 ?ho9 ?he9
  case ho9 => exact ak (by refine fun γ => ⟨rfl, fun w' h => ?_⟩; clear h; go_simp) (ak (fun γ => ⟨rfl, fun w' _ => ex_sl56 rfl rfl rfl⟩) (ak (fun γ => ⟨rfl, fun w' _ => ex_sl81 rfl rfl⟩) trivial))
  intro _ w12 H12
  clear H11
  refine rest_at (l := [3]) rfl ?_
  refine rest_set (d := 31) (v := .int .i64 ((8 : Nat) : Int)) (w' := w12.setCells γ1_0 (9 + 56) (ints .u8 (e8 (c64 (8 * c)) 8) 8)) rfl rfl rfl (ex_copy (kk := 56) H12.out.1 1 rfl (fun j hj => by have := H12.out.1.get 0 rfl j (ints_get .u8 (e8 (c64 (8 * c)) 8) hj); rwa [Nat.zero_add]) rfl (by decide) rfl rfl rfl) ?_
  simp only [Act.put, sa, sz, ss]
  have H13 : Hid (Mm (w12.setCells γ1_0 (9 + 56) (ints .u8 (e8 (c64 (8 * c)) 8) 8)) [(γ2_4, ints .u8 (e8 (c64 (8 * c)) 8) 8), (γ1_0, hs m (mx s (up r (c % 64) 128)) (pr8 (fun _ => 0) 56 8 (e8 (c64 (8 * c)) 8)) c), (γ1_1, ints .u8 (fun _ => 0) 32), (1, ints .u32 kT 64)] ∧ Below w.heap.size w (w12.setCells γ1_0 (9 + 56) (ints .u8 (e8 (c64 (8 * c)) 8) 8))) := ⟨by
    have h := H12.out.1.put 1 (off := (9 + 56)) (vs := (ints .u8 (e8 (c64 (8 * c)) 8) 8)) rfl (by rw [ints_len, hs_len]; omega)
    rw [hs_put_part _ _ _ _ _ _ _ (by decide)] at h
    exact h, below_setCells _ o1_0.out _ _ _ H12.out.2⟩
  clear H12
  generalize hgw : World.setCells _ _ _ _ = w13 at H13 ⊢
  clear hgw
  refine rest_nil (then_normal (wp_seq ?_))
  refine walk_seqB 6 [.quiet (PT γ1_0 1), .quiet (.agg (ints .u32 (mx s (up r (c % 64) 128)) 8).toArray), .quiet (PT γ1_0 9), .quiet (.agg (ints .u8 (pr8 (fun _ => 0) 56 8 (e8 (c64 (8 * c)) 8)) 64).toArray), .call (.agg (ints .u32 (mx (mx s (up r (c % 64) 128)) (pr8 (fun _ => 0) 56 8 (e8 (c64 (8 * c)) 8))) 8).toArray), .call (.agg (ints .u8 (bo (mx (mx s (up r (c % 64) 128)) (pr8 (fun _ => 0) 56 8 (e8 (c64 (8 * c)) 8))) 8) 32).toArray)] H13 ?ho10 ?he10
  case ho10 => exact ak (by refine fun γ => ⟨rfl, fun w' h => ?_⟩; clear h; go_simp) (ak (fun γ => ⟨rfl, fun w' h => ex_loadT h 1 rfl rfl rfl Tryd.isAgg53 Tryd.sizeOf53 (hs_words _ _ _ _) (ints_len _ _ _)⟩) (ak (by refine fun γ => ⟨rfl, fun w' h => ?_⟩; clear h; go_simp) (ak (fun γ => ⟨rfl, fun w' h => ex_loadT h 1 rfl rfl rfl Tryd.isAgg55 Tryd.sizeOf55 (hs_rests _ _ _ _) (ints_len _ _ _)⟩) (ak (fun γ => ⟨rfl, fun w' h => ⟨58, #[.agg (ints .u32 (mx s (up r (c % 64) 128)) 8).toArray, .agg (ints .u8 (pr8 (fun _ => 0) 56 8 (e8 (c64 (8 * c)) 8)) 64).toArray], exec_call rfl call58 rfl (mpn rfl), mix_any (mx s (up r (c % 64) 128)) (pr8 (fun _ => 0) 56 8 (e8 (c64 (8 * c)) 8)) w' (h.one 3 rfl)⟩⟩) (ak (fun γ => ⟨rfl, fun w' h => ⟨59, #[.agg (ints .u32 (mx (mx s (up r (c % 64) 128)) (pr8 (fun _ => 0) 56 8 (e8 (c64 (8 * c)) 8))) 8).toArray], exec_call rfl call59 rfl (mpn rfl), bytesOf_any (mx (mx s (up r (c % 64) 128)) (pr8 (fun _ => 0) 56 8 (e8 (c64 (8 * c)) 8))) w'⟩⟩) trivial)))))
  intro _ w14 H14
  clear H13
  refine rest_at (l := [6]) rfl ?_
  refine rest_store rfl rfl rfl (ex_storeT (vs := ints .u8 (bo (mx (mx s (up r (c % 64) 128)) (pr8 (fun _ => 0) 56 8 (e8 (c64 (8 * c)) 8))) 8) 32) H14.out.1 2 rfl rfl rfl rfl (by rw [ints_len]; exact Tryd.sizeOf25) (ints_all _ _ _) (by simp [ints_len])) ?_
  have H15 : Hid (Mm (w14.setCells γ1_1 0 (ints .u8 (bo (mx (mx s (up r (c % 64) 128)) (pr8 (fun _ => 0) 56 8 (e8 (c64 (8 * c)) 8))) 8) 32)) [(γ2_4, ints .u8 (e8 (c64 (8 * c)) 8) 8), (γ1_0, hs m (mx s (up r (c % 64) 128)) (pr8 (fun _ => 0) 56 8 (e8 (c64 (8 * c)) 8)) c), (γ1_1, ints .u8 (bo (mx (mx s (up r (c % 64) 128)) (pr8 (fun _ => 0) 56 8 (e8 (c64 (8 * c)) 8))) 8) 32), (1, ints .u32 kT 64)] ∧ Below w.heap.size w (w14.setCells γ1_1 0 (ints .u8 (bo (mx (mx s (up r (c % 64) 128)) (pr8 (fun _ => 0) 56 8 (e8 (c64 (8 * c)) 8))) 8) 32))) := ⟨by
    have h := H14.out.1.put 2 (off := 0) (vs := ints .u8 (bo (mx (mx s (up r (c % 64) 128)) (pr8 (fun _ => 0) 56 8 (e8 (c64 (8 * c)) 8))) 8) 32) rfl (by simp [ints_len])
    rw [ints_patch0 _ _ _ _] at h
    exact h, below_setCells _ o1_1.out _ _ _ H14.out.2⟩
  clear H14
  generalize hgw : World.setCells _ _ _ _ = w15 at H15 ⊢
  clear hgw
  refine rest_nil (then_normal (wp_ret ?_))
  repeat (first | refine then_ret ?_ | refine block_ret ?_)
  have hf0 := var_T H15.out.1 2 rfl Tryd.isAgg25 Tryd.sizeOf25 (ints_len _ _ _)
  refine bodyPost_ret (v := .agg (ints .u8 (bo (mx (mx s (up r (c % 64) 128)) (pr8 (fun _ => 0) 56 8 (e8 (c64 (8 * c)) 8))) 8) 32).toArray) (by simp [results, Tryd.results46, asAddr, hf0]) rfl ?_
  exact ⟨rfl, H15.out.2⟩
/-- The digest that a hash comes to. -/
def fz (s r : Nat → Nat) (c : Nat) : Nat → Nat := if c % 64 < 56 then bo (mx s (pr8 (cl (up r (c % 64) 128) ((c % 64) + 1)) 56 8 (e8 (c64 (8 * c)) 8))) 8 else if c % 64 < 63 then bo (mx (mx s (cl (up r (c % 64) 128) ((c % 64) + 1))) (pr8 (fun _ => 0) 56 8 (e8 (c64 (8 * c)) 8))) 8 else bo (mx (mx s (up r (c % 64) 128)) (pr8 (fun _ => 0) 56 8 (e8 (c64 (8 * c)) 8))) 8
theorem finish_any (m : Bool) (s r : Nat → Nat) (c : Nat) (w : World) (hm : Mm w [(1, ints .u32 kT 64)]) : Calls Tryd.prog 46 #[.agg (hs m s r c).toArray] w fun e w' => e = .returned (.agg (ints .u8 (fz s r c) 32).toArray) ∧ Below w.heap.size w w' := by
  unfold fz
  by_cases h : c % 64 < 56
  · rw [if_pos h]; exact finish_A m s r c h w hm
  · rw [if_neg h]
    by_cases h2 : c % 64 < 63
    · rw [if_pos h2]; exact finish_B m s r c (by omega) h2 w hm
    · rw [if_neg h2]; exact finish_C m s r c (by omega) w hm
set_option maxRecDepth 100000 in
theorem begun_any  (w : World) (hm : Mm w [(0, ints .u32 fT 8)]) :
    Calls Tryd.prog 44 #[] w fun e w' => e = .returned (.agg (hs true fT (fun _ => 0) 0).toArray) ∧ Below w.heap.size w w' := by
  have H0 : Hid (_ ∧ _) := ⟨hm, Below.refl w.heap.size w⟩
  clear hm
  go_enter Tryd.func44, Tryd.ntmps44
  refine wp_seq ?_
  refine walk_seqA 1 [.made (hs false (fun _ => 0) (fun _ => 0) 0) 58] (sB H0) ?ho1 ?he1
  case ho1 => exact ak (fun γ => ⟨rfl, fun w' => ex_mk58 rfl⟩) trivial
  intro γ w1 l hM hl
  have H1 : Hid (Mm w1 [(γ 0, hs false (fun _ => 0) (fun _ => 0) 0), (0, ints .u32 fT 8)] ∧ _) := growB H0 hM (Nat.le_refl _) hl [0] rfl (by decide)
  have o1_0 := ownB H0 hM (Nat.le_refl _) hl (i := 0) rfl
  clear hM hl l
  generalize γ 0 = γ1_0 at H1 o1_0 ⊢
  clear γ
  refine rest0 rfl (then_normal (wp_seq ?_))
  refine walk_seqB 2 [.quiet (.agg (ints .u32 fT 8).toArray), .quiet (.agg (hs true fT (fun _ => 0) 0).toArray)] H1 ?ho2 ?he2
  case ho2 => exact ak (fun γ => ⟨rfl, fun w' h => ex_loadT h 1 rfl rfl rfl Tryd.isAgg53 Tryd.sizeOf53 (ints_whole _ _ _) (ints_len _ _ _)⟩) (ak (fun γ => ⟨rfl, fun w' _ => ex_b58 rfl rfl rfl⟩) trivial)
  intro _ w2 H2
  clear H1
  refine rest_at (l := [2]) rfl ?_
  refine rest_store rfl rfl rfl (ex_storeT (vs := hs true fT (fun _ => 0) 0) H2.out.1 0 rfl rfl rfl rfl (by rw [hs_len]; exact Tryd.sizeOf58) (hs_all _ _ _ _) (by simp [hs_len])) ?_
  have H3 : Hid (Mm (w2.setCells γ1_0 0 (hs true fT (fun _ => 0) 0)) [(γ1_0, hs true fT (fun _ => 0) 0), (0, ints .u32 fT 8)] ∧ Below w.heap.size w (w2.setCells γ1_0 0 (hs true fT (fun _ => 0) 0))) := ⟨by
    have h := H2.out.1.put 0 (off := 0) (vs := hs true fT (fun _ => 0) 0) rfl (by simp [hs_len])
    rw [hs_put_all _ _ _ _ _ _ _ _] at h
    exact h, below_setCells _ o1_0.out _ _ _ H2.out.2⟩
  clear H2
  generalize hgw : World.setCells _ _ _ _ = w3 at H3 ⊢
  clear hgw
  refine rest_nil (then_normal (wp_ret ?_))
  repeat (first | refine then_ret ?_ | refine block_ret ?_)
  have hf0 := var_T H3.out.1 0 rfl Tryd.isAgg58 Tryd.sizeOf58 (hs_len _ _ _ _)
  refine bodyPost_ret (v := .agg (hs true fT (fun _ => 0) 0).toArray) (by simp [results, Tryd.results44, asAddr, hf0]) rfl ?_
  exact ⟨rfl, H3.out.2⟩
end Rg
end Go.Proofs.YtolflfjfegngnaaDoor
end
section
namespace Go.Proofs.YtolflfjfegngnaaDoor
open Go.RowKit
namespace Rg
/-- Bytes that can be read. -/
structure Rs (gb o n : Nat) (f : Nat → Nat) (w : World) : Prop where
  lt : 0 < n → gb < w.heap.size
  at_ : ∀ i, i < n → w.cell? ⟨gb, o + i, none⟩ = some (Z8 (f i))
theorem Rs.below {gb o n : Nat} {f : Nat → Nat} {w w' : World} (h : Rs gb o n f w) (hb : Below w.heap.size w w') : Rs gb o n f w' :=
  ⟨fun hn => Nat.lt_of_lt_of_le (h.lt hn) hb.size, fun i hi => by rw [hb.cell (p := ⟨gb, o + i, none⟩) (h.lt (by omega))]; exact h.at_ i hi⟩
theorem Rs.src {g gb o n : Nat} {f : Nat → Nat} {w w' : World} (h : Rs gb o n f w) (hb : Below w.heap.size w w') (hg : w.heap.size ≤ g) : Src g gb o n f w' :=
  ⟨(h.below hb).lt, fun hn e => by have := h.lt hn; omega, (h.below hb).at_⟩
/-- The digest of n bytes, as the program finds it. -/
def dg0 (f : Nat → Nat) (n : Nat) : Nat → Nat := fz (hby f ⟨fT, fun _ => 0, 0⟩ n).s (hby f ⟨fT, fun _ => 0, 0⟩ n).r (hby f ⟨fT, fun _ => 0, 0⟩ n).c
theorem call44 : ∀ args w, (callFunc 44 args).run Tryd.prog w = .ok (.enter 44 args) w := by intro args w; go_simp
theorem call45 : ∀ args w, (callFunc 45 args).run Tryd.prog w = .ok (.enter 45 args) w := by intro args w; go_simp
theorem call46 : ∀ args w, (callFunc 46 args).run Tryd.prog w = .ok (.enter 46 args) w := by intro args w; go_simp
set_option maxHeartbeats 1000000 in
set_option maxRecDepth 100000 in
theorem Sum_any (gb o n cp : Nat) (f : Nat → Nat) (v : Value) (hv : Bv gb o n cp 0 v) (hcp : n ≤ cp) (hb : n < 4611686018427387904) (w : World) (hm : Mm w [(0, ints .u32 fT 8), (1, ints .u32 kT 64)]) (hR : Rs gb o n f w) :
    Calls Tryd.prog 14 #[v] w fun e w' => e = .returned (.agg (ints .u8 (dg0 f n) 32).toArray) ∧ Below w.heap.size w w' := by
  have H0 : Hid (_ ∧ _) := ⟨hm, Below.refl w.heap.size w⟩
  clear hm
  have R0 : Hid (Rs gb o n f w) := hR
  clear hR
  go_enter Tryd.func14, Tryd.ntmps14
  refine wp_seq ?_
  refine walk_seqA 1 [.made (ints .u8 (fun _ => 0) 32) 25] (sB H0) ?ho1 ?he1
  case ho1 => exact ak (fun γ => ⟨rfl, fun w' => ex_mk25 rfl⟩) trivial
  intro γ w1 l hM hl
  have H1 : Hid (Mm w1 [(γ 0, ints .u8 (fun _ => 0) 32), (0, ints .u32 fT 8), (1, ints .u32 kT 64)] ∧ _) := growB H0 hM (Nat.le_refl _) hl [0] rfl (by decide)
  have o1_0 := ownB H0 hM (Nat.le_refl _) hl (i := 0) rfl
  clear hM hl l
  generalize γ 0 = γ1_0 at H1 o1_0 ⊢
  clear γ
  refine rest0 rfl (then_normal (wp_seq ?_))
  refine walk_seqA 3 [.call (.agg (hs true fT (fun _ => 0) 0).toArray), .made (hs false (fun _ => 0) (fun _ => 0) 0) 58, .laid 1 (hs false (fun _ => 0) (fun _ => 0) 0) (hs true fT (fun _ => 0) 0)] (sB H1) ?ho2 ?he2 (hL := ?hL2)
  case hL2 => exact ⟨⟨_, rfl⟩, trivial⟩
  case ho2 => exact ak (fun γ => ⟨rfl, fun w' h => ⟨44, #[], exec_call rfl call44 rfl (mpn rfl), begun_any w' (h.one 1 rfl)⟩⟩) (ak (fun γ => ⟨rfl, fun w' => ex_mk58 rfl⟩) (ak (fun γ => ⟨rfl, rfl, (hs_len _ _ _ _).trans (hs_len _ _ _ _).symm, fun w' h => ex_laidH h Tryd.sizeOf58 rfl rfl rfl⟩) trivial))
  intro γ w2 l hM hl
  have H2 : Hid (Mm w2 [(γ 1, hs true fT (fun _ => 0) 0), (γ1_0, ints .u8 (fun _ => 0) 32), (0, ints .u32 fT 8), (1, ints .u32 kT 64)] ∧ _) := growB H1 hM (Nat.le_refl _) hl [1] rfl (by decide)
  have o2_1 := ownB H1 hM (Nat.le_refl _) hl (i := 1) rfl
  clear hM hl l H1
  generalize γ 1 = γ2_1 at H2 o2_1 ⊢
  clear γ
  refine rest0 rfl (then_normal (wp_seq ?_))
  refine walk_seqB 1 [.quiet (v)] H2 ?ho3 ?he3
  case ho3 => exact ak (fun _ => ⟨rfl, fun _ _ => rfl⟩) trivial
  intro _ w3 H3
  clear H2
  refine rest_at (l := [1]) rfl ?_
  refine rest_enter (d := 6) (R := fun vv w' => vv = .tuple #[] ∧ Mm w' [(γ2_1, hs true ((hby f (⟨fT, (fun _ => 0), 0⟩ : Hq) n).s) ((hby f (⟨fT, (fun _ => 0), 0⟩ : Hq) n).r) ((hby f (⟨fT, (fun _ => 0), 0⟩ : Hq) n).c))] ∧ Kp γ2_1 w3 w') rfl rfl rfl (exec_call (args := #[PT γ2_1 0, v]) rfl call45 rfl (mpn rfl)) (Calls.mono (add_any γ2_1 gb o n cp true (⟨fT, (fun _ => 0), 0⟩ : Hq) f v hv hcp (by show 0 + n < _; omega) w3 (H3.out.1.two 0 3 rfl rfl (by decide)) (R0.out.src H3.out.2 o2_1.out)) (fun e w2 hh => ⟨_, hh.1, rfl, hh.2⟩)) ?_
  rintro _ w4 ⟨rfl, hn, hp⟩
  have H4 : Hid (Mm w4 [(γ2_1, hs true ((hby f (⟨fT, (fun _ => 0), 0⟩ : Hq) n).s) ((hby f (⟨fT, (fun _ => 0), 0⟩ : Hq) n).r) ((hby f (⟨fT, (fun _ => 0), 0⟩ : Hq) n).c)), (γ1_0, ints .u8 (fun _ => 0) 32), (0, ints .u32 fT 8), (1, ints .u32 kT 64)] ∧ Below w.heap.size w w4) := ⟨H3.out.1.change 0 rfl hp hn, Below.kp H3.out.2 hp o2_1.out H3.out.2.size⟩
  clear hn hp H3
  simp only [Act.put, sa, sz, ss]
  refine rest_nil (then_normal (wp_seq ?_))
  refine walk_seqB 2 [.quiet (.agg (hs true ((hby f (⟨fT, (fun _ => 0), 0⟩ : Hq) n).s) ((hby f (⟨fT, (fun _ => 0), 0⟩ : Hq) n).r) ((hby f (⟨fT, (fun _ => 0), 0⟩ : Hq) n).c)).toArray), .call (.agg (ints .u8 (fz ((hby f (⟨fT, (fun _ => 0), 0⟩ : Hq) n).s) ((hby f (⟨fT, (fun _ => 0), 0⟩ : Hq) n).r) ((hby f (⟨fT, (fun _ => 0), 0⟩ : Hq) n).c)) 32).toArray)] H4 ?ho4 ?he4
  case ho4 => exact ak (fun γ => ⟨rfl, fun w' h => ex_loadT h 0 rfl rfl rfl Tryd.isAgg58 Tryd.sizeOf58 (hs_whole _ _ _ _) (hs_len _ _ _ _)⟩) (ak (fun γ => ⟨rfl, fun w' h => ⟨46, #[.agg (hs true ((hby f (⟨fT, (fun _ => 0), 0⟩ : Hq) n).s) ((hby f (⟨fT, (fun _ => 0), 0⟩ : Hq) n).r) ((hby f (⟨fT, (fun _ => 0), 0⟩ : Hq) n).c)).toArray], exec_call rfl call46 rfl (mpn rfl), finish_any _ _ _ _ w' (h.one 3 rfl)⟩⟩) trivial)
  intro _ w5 H5
  clear H4
  refine rest_at (l := [2]) rfl ?_
  refine rest_store rfl rfl rfl (ex_storeT (vs := ints .u8 (fz ((hby f (⟨fT, (fun _ => 0), 0⟩ : Hq) n).s) ((hby f (⟨fT, (fun _ => 0), 0⟩ : Hq) n).r) ((hby f (⟨fT, (fun _ => 0), 0⟩ : Hq) n).c)) 32) H5.out.1 1 rfl rfl rfl rfl (by rw [ints_len]; exact Tryd.sizeOf25) (ints_all _ _ _) (by simp [ints_len])) ?_
  have H6 : Hid (Mm (w5.setCells γ1_0 0 (ints .u8 (fz ((hby f (⟨fT, (fun _ => 0), 0⟩ : Hq) n).s) ((hby f (⟨fT, (fun _ => 0), 0⟩ : Hq) n).r) ((hby f (⟨fT, (fun _ => 0), 0⟩ : Hq) n).c)) 32)) [(γ2_1, hs true ((hby f (⟨fT, (fun _ => 0), 0⟩ : Hq) n).s) ((hby f (⟨fT, (fun _ => 0), 0⟩ : Hq) n).r) ((hby f (⟨fT, (fun _ => 0), 0⟩ : Hq) n).c)), (γ1_0, ints .u8 (fz ((hby f (⟨fT, (fun _ => 0), 0⟩ : Hq) n).s) ((hby f (⟨fT, (fun _ => 0), 0⟩ : Hq) n).r) ((hby f (⟨fT, (fun _ => 0), 0⟩ : Hq) n).c)) 32), (0, ints .u32 fT 8), (1, ints .u32 kT 64)] ∧ Below w.heap.size w (w5.setCells γ1_0 0 (ints .u8 (fz ((hby f (⟨fT, (fun _ => 0), 0⟩ : Hq) n).s) ((hby f (⟨fT, (fun _ => 0), 0⟩ : Hq) n).r) ((hby f (⟨fT, (fun _ => 0), 0⟩ : Hq) n).c)) 32))) := ⟨by
    have h := H5.out.1.put 1 (off := 0) (vs := ints .u8 (fz ((hby f (⟨fT, (fun _ => 0), 0⟩ : Hq) n).s) ((hby f (⟨fT, (fun _ => 0), 0⟩ : Hq) n).r) ((hby f (⟨fT, (fun _ => 0), 0⟩ : Hq) n).c)) 32) rfl (by simp [ints_len])
    rw [ints_patch0 _ _ _ _] at h
    exact h, below_setCells _ o1_0.out _ _ _ H5.out.2⟩
  clear H5
  generalize hgw : World.setCells _ _ _ _ = w6 at H6 ⊢
  clear hgw
  refine rest_nil (then_normal (wp_ret ?_))
  repeat (first | refine then_ret ?_ | refine block_ret ?_)
  have hf0 := var_T H6.out.1 1 rfl Tryd.isAgg25 Tryd.sizeOf25 (ints_len _ _ _)
  refine bodyPost_ret (v := .agg (ints .u8 (fz ((hby f (⟨fT, (fun _ => 0), 0⟩ : Hq) n).s) ((hby f (⟨fT, (fun _ => 0), 0⟩ : Hq) n).r) ((hby f (⟨fT, (fun _ => 0), 0⟩ : Hq) n).c)) 32).toArray) (by simp [results, Tryd.results14, asAddr, hf0]) rfl ?_
  exact ⟨rfl, H6.out.2⟩
end Rg
end Go.Proofs.YtolflfjfegngnaaDoor
end
section
namespace Go.Proofs.YtolflfjfegngnaaDoor
open Go.RowKit
namespace Rg
set_option maxRecDepth 100000
/-- A text of n letters. -/
def st (f : Nat → Nat) (n : Nat) : ByteArray := strOfNums ((List.range n).map fun j => (f j : Int))
def dgt (k : Nat) : Nat := [48, 49, 50, 51, 52, 53, 54, 55, 56, 57, 97, 98, 99, 100, 101, 102].getD k 0
/-- The text of a digest, digit by digit. -/
def tx (d : Nat → Nat) : Nat → Nat → Nat
  | 0 => fun _ => 0
  | n + 1 => up (up (tx d n) (2 * n) (dgt (d n / 16))) (2 * n + 1) (dgt (d n % 16))
section
variable {ρ : Operand → Value} {o : Oper} {x y : Operand} {g j a b : Nat} {f : Nat → Nat} {w : World}
theorem ex_at25 {n : Nat} (ho : o.op = .index 25 x y) (hx : ρ x = V (ints .u8 f 32)) (hy : ρ y = .int .i64 ((j : Nat) : Int)) (hj : j < n) (hn : n = 32) : (execOp ρ o).run Tryd.prog w = .ok (.value (Z8 (f j))) w := by
  subst hn
  have e := ints_get .u8 f hj
  have h1 : (j : Int) < 32 := by omega
  simp only [execOp, ho, hx, hy]
  clear ho hx hy
  simp [Instr.index, run_underlying Tryd.underlying25, asIntOf, go_sem, hj, part, Tryd.isAgg5, e]
theorem ex_shr8 (ho : o.op = .binOp .shr 5 x y 84) (hx : ρ x = Z8 a) (hy : ρ y = U 4) : (execOp ρ o).run Tryd.prog w = .ok (.value (Z8 (a / 16))) w := by
  simp only [execOp, ho, hx, hy]
  clear ho hx hy
  have hs := shift_shr_any .u8 .u64 (a : Int) 4 (by omega)
  rw [show (2 : Int) ^ min (4 : Int).toNat IntKind.u8.bits = 16 by decide] at hs
  go_simp
theorem bits8 (a b : Nat) : bits .and .u8 (a : Int) (b : Int) = (((a &&& b) % 256 : Nat) : Int) := by
  have h1 : ∀ k : Nat, (BitVec.ofInt 8 (k : Int)).toNat = k % 256 := fun k => by rw [BitVec.ofInt_natCast, BitVec.toNat_ofNat]
  show IntKind.u8.wrap ((BitVec.ofInt 8 (a : Int) &&& BitVec.ofInt 8 (b : Int)).toNat : Int) = _
  rw [BitVec.toNat_and, h1, h1, ← Nat.and_mod_two_pow (n := 8)]
  simp [IntKind.wrap, IntKind.bits, IntKind.signed]
theorem ex_and15 (ho : o.op = .binOp .and 5 x y 5) (hx : ρ x = Z8 a) (hy : ρ y = .int .u8 15) : (execOp ρ o).run Tryd.prog w = .ok (.value (Z8 (a % 16))) w := by
  have e := bits8 a 15
  have e2 : (a &&& 15) % 256 = a % 16 := by
    have := Nat.and_two_pow_sub_one_eq_mod a 4
    rw [show 2 ^ 4 - 1 = 15 from rfl] at this
    rw [this]
    omega
  rw [e2] at e
  simp only [execOp, ho, hx, hy]
  clear ho hx hy
  go_simp
  first | done | exact e
theorem ex_dgt {x : Operand} (ho : o.op = .index 9 (.const (.string ⟨#[48, 49, 50, 51, 52, 53, 54, 55, 56, 57, 97, 98, 99, 100, 101, 102]⟩)) x) (hc : ρ (.const (.string ⟨#[48, 49, 50, 51, 52, 53, 54, 55, 56, 57, 97, 98, 99, 100, 101, 102]⟩)) = .string ⟨#[48, 49, 50, 51, 52, 53, 54, 55, 56, 57, 97, 98, 99, 100, 101, 102]⟩) (hx : ρ x = Z8 a) (h : a < 16) : (execOp ρ o).run Tryd.prog w = .ok (.value (Z8 (dgt a))) w := by
  simp only [execOp, ho, hc, hx]
  clear ho hc hx
  rcases (by omega : a = 0 ∨ a = 1 ∨ a = 2 ∨ a = 3 ∨ a = 4 ∨ a = 5 ∨ a = 6 ∨ a = 7 ∨ a = 8 ∨ a = 9 ∨ a = 10 ∨ a = 11 ∨ a = 12 ∨ a = 13 ∨ a = 14 ∨ a = 15) with rfl | rfl | rfl | rfl | rfl | rfl | rfl | rfl | rfl | rfl | rfl | rfl | rfl | rfl | rfl | rfl <;> kernel_rfl
theorem ex_mk54 (ho : o.op = .alloc 54) : (execOp ρ o).run Tryd.prog w = .ok (.value (.pointer (some ⟨w.heap.size, 0, none⟩))) (w.alloc (.cells (ints .u8 (fun _ => 0) 64).toArray 54)) := by
  simp only [execOp, ho]
  go_simp
  rfl
theorem ex_ix_54 {off : Nat} (ho : o.op = .indexAddr 54 x y) (hx : ρ x = PT g off) (hy : ρ y = .int .i64 ((j : Nat) : Int)) (hj : j < 64) : (execOp ρ o).run Tryd.prog w = .ok (.value (PT g (off + j))) w := by
  have h1 : (j : Int) < 64 := by omega
  simp only [execOp, ho, hx, hy]
  clear ho hx hy
  go_simp
theorem ex_ix0_54 (ho : o.op = .indexAddr 54 x y) (hx : ρ x = PT g 0) (hy : ρ y = .int .i64 ((j : Nat) : Int)) (hj : j < 64) : (execOp ρ o).run Tryd.prog w = .ok (.value (PT g j)) w := by
  have h := ex_ix_54 (w := w) ho hx hy hj
  rw [Nat.zero_add] at h
  exact h
theorem ex_sl54 (ho : o.op = .slice 54 x none none none) (hx : ρ x = PT g 0) : (execOp ρ o).run Tryd.prog w = .ok (.value (.slice (some ⟨g, 0, none⟩) 64 64)) w := by
  simp only [execOp, ho, hx, Option.map_none]
  clear ho hx
  go_simp
theorem ex_str {l : List (Nat × List Value)} {n : Nat} (h : Mm w l) (k : Nat) (hk : l[k]? = some (g, ints .u8 f n)) (ho : o.op = .convert 22 9 x) (hx : ρ x = .slice (some ⟨g, 0, none⟩) n n) : (execOp ρ o).run Tryd.prog w = .ok (.value (.string (st f n))) w := by
  have hc := run_convert_bytes_arg (P := Tryd.prog) w 22 5 (by kernel_rfl) (by kernel_rfl) g 0 n n ((List.range n).map fun j => (f j : Int)) (by simp) (fun i hi => by
    rw [Nat.zero_add, h.get k hk i (ints_get .u8 f hi)]
    simp [List.getD, hi]) 9 (by kernel_rfl)
  clear h hk
  simp only [execOp, ho, hx]
  simp [hc, Result.andThen, st]
end
set_option maxHeartbeats 1000000 in
set_option maxRecDepth 100000 in
theorem Text_any (d : Nat → Nat) (hd0 : ∀ j, d j < 256) (w : World) :
    Calls Tryd.prog 23 #[.agg (ints .u8 d 32).toArray] w fun e w' => e = .returned (.string (st (tx d 32) 64)) ∧ Below w.heap.size w w' := by
  have H0 : Hid (_ ∧ _) := ⟨Mm.nil w, Below.refl w.heap.size w⟩
  have hd : Hid (∀ j, d j < 256) := hd0
  clear hd0
  go_enter Tryd.func23, Tryd.ntmps23
  refine wp_seq ?_
  refine walk_seqA 2 [.made (ints .u8 d 32) 25, .quiet (.string ⟨#[]⟩)] (sB H0) ?ho1 ?he1
  case ho1 => exact ak (fun γ => ⟨rfl, fun w' => ex_boxT rfl rfl⟩) (ak (fun _ => ⟨rfl, fun _ _ => rfl⟩) trivial)
  intro γ w1 l hM hl
  have H1 : Hid (Mm w1 [(γ 0, ints .u8 d 32)] ∧ _) := growB H0 hM (Nat.le_refl _) hl [0] rfl (by decide)
  have o1_0 := ownB H0 hM (Nat.le_refl _) hl (i := 0) rfl
  clear hM hl l
  generalize γ 0 = γ1_0 at H1 o1_0 ⊢
  clear γ
  refine rest0 rfl (then_normal (wp_seq ?_))
  refine walk_seqA 1 [.made (ints .u8 (fun _ => 0) 64) 54] (sB H1) ?ho2 ?he2
  case ho2 => exact ak (fun γ => ⟨rfl, fun w' => ex_mk54 rfl⟩) trivial
  intro γ w2 l hM hl
  have H2 : Hid (Mm w2 [(γ 0, ints .u8 (fun _ => 0) 64), (γ1_0, ints .u8 d 32)] ∧ _) := growB H1 hM (Nat.le_refl _) hl [0] rfl (by decide)
  have o2_0 := ownB H1 hM (Nat.le_refl _) hl (i := 0) rfl
  clear hM hl l H1
  generalize γ 0 = γ2_0 at H2 o2_0 ⊢
  clear γ
  refine rest0 rfl (then_normal (wp_seq (wp_seq ?_)))
  refine walk_seqB 2 [.quiet (.agg (ints .u8 d 32).toArray), .quiet (.int .i64 0)] H2 ?ho3 ?he3
  case ho3 => exact ak (fun γ => ⟨rfl, fun w' h => ex_loadT h 1 rfl rfl rfl Tryd.isAgg25 Tryd.sizeOf25 (ints_whole _ _ _) (ints_len _ _ _)⟩) (ak (fun _ => ⟨rfl, fun _ _ => rfl⟩) trivial)
  intro _ w3 H3
  clear H2
  refine rest0 rfl (then_normal (wp_block ?_))
  refine loop_ghost (α := Nat) (fun k a' w' => ∃ s0 : Nat → Value, a' = ⟨#[.agg (ints .u8 d 32).toArray, PT γ1_0 0, .string ⟨#[]⟩, PT γ2_0 0, s0 4, s0 5, .agg (ints .u8 d 32).toArray, .int .i64 ((k : Nat) : Int), s0 8, s0 9, s0 10, s0 11, s0 12, s0 13, s0 14, s0 15, s0 16, s0 17, s0 18, s0 19, s0 20, s0 21, s0 22, s0 23, s0 24, undef, undef], []⟩ ∧ (Mm w' [(γ2_0, ints .u8 (tx d k) 64), (γ1_0, ints .u8 d 32)] ∧ Below w.heap.size w w') ∧ k ≤ 32) (fun k => 32 - k) 0 ?st0 ?rd0
  case st0 => exact ⟨(slotfn [undef, undef, undef, undef, undef, undef, undef, undef, undef, undef, undef, undef, undef, undef, undef, undef, undef, undef, undef, undef, undef, undef, undef, undef, undef]), rfl, ⟨H3.out.1, H3.out.2⟩, by omega⟩
  intro k a' w4 hI
  obtain ⟨s0, rfl, hMB, hk0⟩ := hI
  have H4 : Hid (_ ∧ _) := hMB
  clear hMB H3
  by_cases hltk : k < 32
  · have hrd : True := trivial
    clear hrd
    have hdk := hd.out k
    refine wp_seq ?_
    refine walk_seqB 1 [.quiet (.bool true)] H4 ?ho4 ?he4
    case ho4 => exact ak (by refine fun γ => ⟨rfl, fun w' h => ?_⟩; clear h; go_simp <;> omega) trivial
    intro _ w5 H5
    clear H4
    refine rest0 rfl (then_normal (wp_seq ?_))
    refine wp_cond_true rfl (wp_skip ?_)
    refine then_normal (wp_seq ?_)
    refine wp_block (wp_seq ?_)
    refine walk_seqB 4 [.quiet (.int .i64 ((k : Nat) : Int)), .quiet (Z8 (d k)), .quiet (.int .i64 ((k : Nat) : Int)), .quiet (Z8 (d k))] H5 ?ho5 ?he5
    case ho5 => exact ak (fun _ => ⟨rfl, fun _ _ => rfl⟩) (ak (fun γ => ⟨rfl, fun w' _ => ex_at25 (j := k) (n := 32) rfl rfl rfl (by omega) rfl⟩) (ak (fun _ => ⟨rfl, fun _ _ => rfl⟩) (ak (fun _ => ⟨rfl, fun _ _ => rfl⟩) trivial)))
    intro _ w6 H6
    clear H5
    refine rest0 rfl (then_normal ?_)
    refine walk_put (by kernel_rfl) 12 [2, 3, 4, 8, 9, 10] [.quiet (.int .i64 ((k : Nat) : Int)), .quiet (.int .i64 ((2 * k : Nat) : Int)), .quiet (.int .i64 ((k : Nat) : Int)), .quiet (.int .i64 ((2 * k : Nat) : Int)), .quiet (.int .i64 (((2 * k) + 1 : Nat) : Int)), .quiet (Z8 (d k)), .quiet (Z8 ((d k) / 16)), .quiet (Z8 (dgt ((d k) / 16))), .quiet (Z8 (d k)), .quiet (Z8 ((d k) % 16)), .quiet (Z8 (dgt ((d k) % 16))), .quiet (PT γ2_0 (2 * k))] _ ?pre6 ?F6 _ ?hpre6 (fun γ => ?hF6) (by kernel_rfl) rfl trivial (sB H6) ?ho6 ?hla6 ?he6
    case hpre6 => simp only [tk, tz]; rfl
    case hF6 => simp only [fill, Kind.val, Act.put, sa, sz, ss]; rfl
    case ho6 =>
      refine ak (fun _ => ⟨rfl, fun _ _ => rfl⟩) ?_
      refine ak (by refine fun γ => ⟨rfl, fun w' h => ?_⟩; clear h; go_simp; rw [IntKind.wrap_i64]; omega) ?_
      refine ak (fun _ => ⟨rfl, fun _ _ => rfl⟩) ?_
      refine ak (by refine fun γ => ⟨rfl, fun w' h => ?_⟩; clear h; go_simp; rw [IntKind.wrap_i64]; omega) ?_
      refine ak (by refine fun γ => ⟨rfl, fun w' h => ?_⟩; clear h; go_simp; rw [IntKind.wrap_i64]; omega) ?_
      refine ak (fun _ => ⟨rfl, fun _ _ => rfl⟩) ?_
      refine ak (fun γ => ⟨rfl, fun w' _ => ex_shr8 rfl rfl rfl⟩) ?_
      refine ak (fun γ => ⟨rfl, fun w' _ => ex_dgt rfl rfl rfl (by omega)⟩) ?_
      refine ak (fun _ => ⟨rfl, fun _ _ => rfl⟩) ?_
      refine ak (fun γ => ⟨rfl, fun w' _ => ex_and15 rfl rfl rfl⟩) ?_
      refine ak (fun γ => ⟨rfl, fun w' _ => ex_dgt rfl rfl rfl (by omega)⟩) ?_
      refine ak (fun γ => ⟨rfl, fun w' _ => ex_ix0_54 (j := 2 * k) rfl rfl rfl (by omega)⟩) ?_
      exact trivial
    case hla6 => exact ⟨⟨_, _, rfl, rfl, fun γ => ⟨rfl, fun w' => rfl⟩⟩, ⟨_, _, rfl, rfl, fun γ => ⟨rfl, fun w' => by go_simp; rw [IntKind.wrap_i64]; omega⟩⟩, ⟨_, _, rfl, rfl, fun γ => ⟨rfl, fun w' => by go_simp; rw [IntKind.wrap_i64]; omega⟩⟩, ⟨_, _, rfl, rfl, fun γ => ⟨rfl, fun w' => rfl⟩⟩, ⟨_, _, rfl, rfl, fun γ => ⟨rfl, fun w' => ex_and15 rfl rfl rfl⟩⟩, ⟨_, _, rfl, rfl, fun γ => ⟨rfl, fun w' => ex_dgt rfl rfl rfl (by omega)⟩⟩, trivial⟩
    intro γ w7 l hM hl
    have H7 := keepB H6 hM.below
    clear hM hl l H6 γ
    refine ⟨_, ex_storeI H7.out.1 0 rfl rfl Tryd.sizeOf5 rfl rfl (by rw [ints_len]; omega), ?_⟩
    have H8 : Hid (Mm (w7.setCells γ2_0 (2 * k) ([Z8 (dgt ((d k) / 16))])) [(γ2_0, ints .u8 (up (tx d k) (2 * k) (dgt ((d k) / 16))) 64), (γ1_0, ints .u8 d 32)] ∧ Below w.heap.size w (w7.setCells γ2_0 (2 * k) ([Z8 (dgt ((d k) / 16))]))) := ⟨by
      have h := H7.out.1.put 0 (off := 2 * k) (vs := [Z8 (dgt ((d k) / 16))]) rfl (by rw [ints_len]; simp only [List.length_cons, List.length_nil]; omega)
      rw [ints_patch _ _ _ _ (by omega)] at h
      exact h, below_setCells _ o2_0.out _ _ _ H7.out.2⟩
    clear H7
    generalize hgw : World.setCells _ _ _ _ = w8 at H8 ⊢
    clear hgw
    refine rest_at (l := [13, 14]) rfl ?_
    refine rest_set (d := 23) (v := PT γ2_0 ((2 * k) + 1)) (w' := w8) rfl rfl rfl (ex_ix0_54 (j := (2 * k) + 1) rfl rfl rfl (by omega)) ?_
    simp only [Act.put, sa, sz, ss]
    refine rest_store rfl rfl rfl (ex_storeI H8.out.1 0 rfl rfl Tryd.sizeOf5 rfl rfl (by rw [ints_len]; omega)) ?_
    have H9 : Hid (Mm (w8.setCells γ2_0 ((2 * k) + 1) ([Z8 (dgt ((d k) % 16))])) [(γ2_0, ints .u8 (up (up (tx d k) (2 * k) (dgt ((d k) / 16))) ((2 * k) + 1) (dgt ((d k) % 16))) 64), (γ1_0, ints .u8 d 32)] ∧ Below w.heap.size w (w8.setCells γ2_0 ((2 * k) + 1) ([Z8 (dgt ((d k) % 16))]))) := ⟨by
      have h := H8.out.1.put 0 (off := (2 * k) + 1) (vs := [Z8 (dgt ((d k) % 16))]) rfl (by rw [ints_len]; simp only [List.length_cons, List.length_nil]; omega)
      rw [ints_patch _ _ _ _ (by omega)] at h
      exact h, below_setCells _ o2_0.out _ _ _ H8.out.2⟩
    clear H8
    generalize hgw : World.setCells _ _ _ _ = w9 at H9 ⊢
    clear hgw
    refine rest_nil (block_normal (then_normal ?_))
    refine walk_seqB 1 [.quiet (.int .i64 ((k + 1 : Nat) : Int))] H9 ?ho7 ?he7
    case ho7 => exact ak (by refine fun γ => ⟨rfl, fun w' h => ?_⟩; clear h; go_simp; rw [IntKind.wrap_i64]; omega) trivial
    intro _ w10 H10
    clear H9
    refine rest_at (l := [1]) rfl ?_
    refine rest_set (d := 7) rfl rfl rfl rfl ?_
    simp only [Act.put, sa, sz, ss]
    refine rest_nil (then_normal ?_)
    exact ⟨k + 1, ⟨(slotfn [undef, undef, undef, undef, .int .i64 ((k : Nat) : Int), Z8 (d k), undef, undef, .bool true, .int .i64 ((k : Nat) : Int), Z8 (d k), .int .i64 ((k : Nat) : Int), .int .i64 ((2 * k : Nat) : Int), .int .i64 ((k : Nat) : Int), .int .i64 ((2 * k : Nat) : Int), .int .i64 (((2 * k) + 1 : Nat) : Int), Z8 (d k), Z8 ((d k) / 16), Z8 (dgt ((d k) / 16)), Z8 (d k), Z8 ((d k) % 16), Z8 (dgt ((d k) % 16)), PT γ2_0 (2 * k), PT γ2_0 ((2 * k) + 1), .int .i64 ((k + 1 : Nat) : Int)]), rfl, ⟨H10.out.1, H10.out.2⟩, by omega⟩, by omega⟩
  have hkN : k = 32 := by omega
  subst hkN
  refine wp_seq ?_
  refine walk_seqB 1 [.quiet (.bool false)] H4 ?ho8 ?he8
  case ho8 => exact ak (by refine fun γ => ⟨rfl, fun w' h => ?_⟩; clear h; go_simp <;> omega) trivial
  intro _ w11 H11
  clear H4
  refine rest0 rfl (then_normal (wp_seq (wp_cond_false rfl ?_)))
  refine wp_exit ?_
  repeat refine then_exit ?_
  refine block_exit ?_
  refine then_normal (wp_seq ?_)
  refine walk_seqB 3 [.quiet (.slice (some ⟨γ2_0, 0, none⟩) 64 64), .quiet (.string (st (tx d 32) 64)), .quiet (.string (st (tx d 32) 64))] H11 ?ho9 ?he9
  case ho9 => exact ak (fun γ => ⟨rfl, fun w' _ => ex_sl54 rfl rfl⟩) (ak (fun γ => ⟨rfl, fun w' h => ex_str h 0 rfl rfl rfl⟩) (ak (fun _ => ⟨rfl, fun _ _ => rfl⟩) trivial))
  intro _ w12 H12
  clear H11
  refine rest0 rfl (then_normal (wp_ret ?_))
  repeat (first | refine then_ret ?_ | refine block_ret ?_)
  refine bodyPost_ret (v := .string (st (tx d 32) 64)) (by simp [results, Tryd.results23, go_sem, *]) rfl ?_
  exact ⟨rfl, H12.out.2⟩
end Rg
end Go.Proofs.YtolflfjfegngnaaDoor
end
section
namespace Go.Proofs.YtolflfjfegngnaaDoor
open Go.RowKit
namespace Rg
set_option maxRecDepth 100000
def o8 (a b : Nat) : Nat := (a ||| b) % 256
section
variable {ρ : Operand → Value} {o : Oper} {x y : Operand} {j a b n : Nat} {f : Nat → Nat} {w : World}
theorem bits8o (a b : Nat) : bits .or .u8 (a : Int) (b : Int) = ((o8 a b : Nat) : Int) := by
  have h1 : ∀ k : Nat, (BitVec.ofInt 8 (k : Int)).toNat = k % 256 := fun k => by rw [BitVec.ofInt_natCast, BitVec.toNat_ofNat]
  show IntKind.u8.wrap ((BitVec.ofInt 8 (a : Int) ||| BitVec.ofInt 8 (b : Int)).toNat : Int) = _
  rw [BitVec.toNat_or, h1, h1, ← Nat.or_mod_two_pow (n := 8)]
  unfold o8
  simp [IntKind.wrap, IntKind.bits, IntKind.signed]
theorem ex_or8 (ho : o.op = .binOp .or 5 x y 5) (hx : ρ x = Z8 a) (hy : ρ y = Z8 b) : (execOp ρ o).run Tryd.prog w = .ok (.value (Z8 (o8 a b))) w := by
  have e := bits8o a b
  simp only [execOp, ho, hx, hy]
  clear ho hx hy
  go_simp
  first | done | exact e
end
end Rg
end Go.Proofs.YtolflfjfegngnaaDoor
end
section
namespace Go.Proofs.YtolflfjfegngnaaDoor
open Go.RowKit
namespace Rg
set_option maxRecDepth 100000
section
variable {ρ : Operand → Value} {o : Oper} {x y : Operand} {g off m c j k n : Nat} {f : Nat → Nat} {w : World}
theorem ex_ixS22 (ho : o.op = .indexAddr 22 x y) (hx : ρ x = .slice (some ⟨g, off, none⟩) m c) (hy : ρ y = .int .i64 ((j : Nat) : Int)) (h : j < m) : (execOp ρ o).run Tryd.prog w = .ok (.value (PT g (off + j))) w := by
  simp only [execOp, ho, hx, hy]
  clear ho hx hy
  go_simp
end
/-- A word's bytes, one by one. -/
def iw (v : Nat → Nat) (t : Nat) (y : Nat → Nat) : Nat → Nat → Nat
  | 0 => v
  | i + 1 => up (iw v t y i) t (ou (sl (iw v t y i t) 8) (c32 (y i)))
/-- The words of a block, as the document makes them. -/
def dw (P : Nat → Nat) (ap : Nat) : Nat → Nat → Nat
  | 0 => fun _ => 0
  | k + 1 => if k < 16 then iw (dw P ap k) k (fun i => P ((ap + (4 * k)) + i)) 4 else up (dw P ap k) k (ad (ad (ad (sB' (dw P ap k (k - 2))) (dw P ap k (k - 7))) (sA (dw P ap k (k - 15)))) (dw P ap k (k - 16)))
def xp (K W : Nat) (x : Nat → Nat) : Nat := ad (ad (ad (ad (x 7) (gB (x 4))) (xo (an (x 4) (x 5)) (an (nt (x 4)) (x 6)))) K) W
def xq (x : Nat → Nat) : Nat := ad (gA (x 0)) (xo (xo (an (x 0) (x 1)) (an (x 0) (x 2))) (an (x 1) (x 2)))
def xs (h K W : Nat → Nat) : Nat → Nat → Nat
  | 0 => h
  | k + 1 => ei (ad (xp (K k) (W k) (xs h K W k)) (xq (xs h K W k))) (xs h K W k 0) (xs h K W k 1) (xs h K W k 2) (ad (xs h K W k 3) (xp (K k) (W k) (xs h K W k))) (xs h K W k 4) (xs h K W k 5) (xs h K W k 6)
def hv (h x : Nat → Nat) : Nat → Nat → Nat
  | 0 => h
  | k + 1 => up (hv h x k) k (ad (hv h x k k) (x k))
/-- The eight numbers behind a block, as the document has it. -/
def db (h K P : Nat → Nat) (ap : Nat) : Nat → Nat := hv h (xs h K (dw P ap 64) 64) 8
end Rg
end Go.Proofs.YtolflfjfegngnaaDoor
end
section
namespace Go.Proofs.YtolflfjfegngnaaDoor
open Go.RowKit
namespace Rg
set_option maxRecDepth 100000
theorem info_byte : ∃ i, Tryd.prog.info? 5 = some i ∧ i.zero = some (.int .u8 0) ∧ i.size = 1 ∧ i.bytes = 1 := by
  have h : (Tryd.prog.info? 5).map (fun i => (i.zero, i.size, i.bytes)) = some (some (.int .u8 0), 1, 1) := by kernel_rfl
  cases hi : Tryd.prog.info? 5 with
  | none => rw [hi] at h; simp at h
  | some i =>
    rw [hi] at h
    simp at h
    exact ⟨i, rfl, h.1, h.2.1, h.2.2⟩
/-- A row, and another behind its first n. -/
def ct (P : Nat → Nat) (n : Nat) (Q : Nat → Nat) : Nat → Nat := fun j => if j < n then P j else Q (j - n)
theorem ints_cat (P Q : Nat → Nat) (n m : Nat) : ints .u8 P n ++ ints .u8 Q m = ints .u8 (ct P n Q) (n + m) := by
  apply List.ext_getElem?
  intro j
  unfold ct
  by_cases h : j < n
  · rw [List.getElem?_append_left (by rw [ints_len]; exact h), ints_get _ _ h, ints_get _ _ (by omega), if_pos h]
  · rw [List.getElem?_append_right (by rw [ints_len]; omega), ints_len]
    by_cases h2 : j < n + m
    · rw [ints_get _ _ (by omega), ints_get _ _ h2, if_neg h]
    · rw [ints_none _ _ (by omega), ints_none _ _ (by omega)]
theorem ct_snoc {P P' Q : Nat → Nat} {n : Nat} (h : Q 0 = P' n) (e : ∀ j, j < n → P j = P' j := by intro j _; rfl) (j : Nat) (hj : j < n + 1) : ct P n Q j = P' j := by
  unfold ct
  by_cases hn : j < n
  · rw [if_pos hn, e j hn]
  · rw [if_neg hn, show j = n by omega, Nat.sub_self, h]
/-- A slice of the call's own, n bytes long, beside blocks l. -/
structure Zo (w : World) (B : Nat) (l : List (Nat × List Value)) (vv : Value) (n : Nat) (P : Nat → Nat) (w' : World) : Prop where
  b : Below w.heap.size w w'
  lo : w.heap.size ≤ B
  hi : B ≤ w'.heap.size
  m : Mm w' l
  lt : ∀ p ∈ l, p.1 < B
  own : w'.ownsRow B 5 1 vv n (ints .u8 P n)
section
variable {w w1 w2 : World} {B n : Nat} {l : List (Nat × List Value)} {vv : Value} {P P' : Nat → Nat}
theorem Zo.size (h : Zo w B l vv n P w1) : w.heap.size ≤ w1.heap.size := h.b.size
theorem Zo.step (h : Zo w B l vv n P w1) (hb : Below w1.heap.size w1 w2) : Zo w B l vv n P w2 := by
  refine ⟨h.b.trans (hb.mono h.b.size), h.lo, Nat.le_trans h.hi hb.size, h.m.below hb, h.lt, h.own.1, ?_⟩
  rcases h.own.2 with ⟨h1, h2⟩ | ⟨g, cap, cur, h1, h2, h3, h4⟩
  · exact .inl ⟨h1, h2⟩
  · refine .inr ⟨g, cap, cur, h1, h2, ?_, h4⟩
    rw [hb.block g (Array.getElem?_eq_some_iff.1 h3).1]
    exact h3
theorem Zo.cg (h : Zo w B l vv n P w1) (e : ∀ j, j < n → P j = P' j) : Zo w B l vv n P' w1 := by
  have := h.own
  rw [ints_congr e] at this
  exact ⟨h.b, h.lo, h.hi, h.m, h.lt, this⟩
theorem Zo.form (h : Zo w B l vv n P w1) (hn : 0 < n) : ∃ g cap, vv = .slice (some ⟨g, 0, none⟩) n cap := by
  rcases h.own.2 with ⟨_, h2⟩ | ⟨g, cap, cur, h1, _⟩
  · omega
  · exact ⟨g, cap, h1⟩
theorem Zo.nil (P : Nat → Nat) (w : World) : Zo w w.heap.size [] (.slice none 0 0) 0 P w := ⟨Below.refl _ _, Nat.le_refl _, Nat.le_refl _, Mm.nil w, fun p hp => (by cases hp), World.ownsRow_nil _ _ _ _⟩
theorem Zo.made (P : Nat → Nat) (hm : Mm w1 l) (hb : Below w.heap.size w w1) : Zo w w1.heap.size l (.slice (some ⟨w1.heap.size, 0, none⟩) 0 0) 0 P (w1.alloc (.cells #[] 5)) :=
  ⟨hb.alloc hb.size _, hb.size, by simp, hm.below ((Below.refl _ _).alloc (Nat.le_refl _) _), fun p hp => (hm.blk p hp).1, by simp [ints], .inr ⟨w1.heap.size, 0, #[], rfl, Nat.le_refl _, heap_alloc_new _ _, Nat.le_refl _, by unfold maxLen; omega, rfl, rfl⟩⟩
theorem Zo.app (h : Zo w B l vv n P w1) {a : Addr} (m c : Nat) (Q : Nat → Nat) (hr : ∀ j, j < m → w1.cell? (a.add j) = some (Z8 (Q j))) (hb : n + m ≤ 2097152) (ty : TypeId) :
    ∃ v' w2, (Builtin.append_ #[22, 22] ty #[vv, .slice (some a) m c]).run Tryd.prog w1 = .ok v' w2 ∧ Zo w B l v' (n + m) (ct P n Q) w2 := by
  obtain ⟨i0, hi, hz0, hz1, hz2⟩ := info_byte
  obtain ⟨v', w2, h1, h2, h3, _⟩ := run_append_own (P := Tryd.prog) w1 B 22 ty 5 i0 (.int .u8 0) 1 1 Tryd.underlying22 hi hz0 hz1 hz2 rfl (by decide) vv n _ h.own a m c (ints .u8 Q m) (by rw [ints_len]; omega)
    (fun j u hj => by
      have hjm : j < m := by
        have := (List.getElem?_eq_some_iff.1 hj).1
        rwa [ints_len] at this
      rw [ints_get _ _ hjm] at hj
      rw [hr j hjm]
      exact hj) (List.all_eq_true.1 (ints_all _ _ _)) (by unfold maxLen; omega) (by omega) h.hi
  have hb2 : Below B w1 w2 := (Below.refl _ _).grown h3 h.hi (fun k hk => (World.ownsRow.lt h.own k hk).1)
  rw [ints_cat] at h2
  exact ⟨v', w2, h1, h.b.trans (hb2.mono h.lo), h.lo, Nat.le_trans h.hi hb2.size, ⟨fun p hp => ⟨Nat.lt_of_lt_of_le (h.m.blk p hp).1 hb2.size, (h.m.blk p hp).2.below hb2 (h.lt p hp)⟩, h.m.nd⟩, h.lt, h2⟩
theorem Zo.app0 (h : Zo w B l vv n P w1) (ty : TypeId) : (Builtin.append_ #[22, 22] ty #[vv, .slice none 0 0]).run Tryd.prog w1 = .ok vv w1 := by
  obtain ⟨i0, hi, _, _, _⟩ := info_byte
  exact run_append_owned_none (P := Tryd.prog) (w := w1) B 22 ty 5 i0 1 Tryd.underlying22 hi vv n _ h.own
theorem Zo.rs {g cap : Nat} (h : Zo w B l (.slice (some ⟨g, 0, none⟩) n cap) n P w1) : Rs g 0 n P w1 := by
  have hc := World.ownsRow.cells h.own (g := g) rfl
  refine ⟨fun _ => (World.ownsRow.lt h.own g rfl).2, fun i hi => ?_⟩
  have := hc i _ (ints_get .u8 P hi)
  rw [show (⟨g, 0, none⟩ : Addr).add i = ⟨g, 0 + i, none⟩ by unfold Addr.add; split <;> simp_all] at this
  exact this
end
section
variable {ρ : Operand → Value} {o : Oper} {x y : Operand} {a : Nat} {w w2 : World} {vv sv v' : Value}
theorem ex_app (ho : o.op = .call { callee := .builtin .append, args := #[x, y], argTypes := #[22, 22] }) (hx : ρ x = vv) (hy : ρ y = sv) (hr : (Builtin.append_ #[22, 22] o.type #[vv, sv]).run Tryd.prog w = .ok v' w2) : (execOp ρ o).run Tryd.prog w = .ok (.value v') w2 := by
  unfold execOp
  simp only [ho, resolve, invoke, builtin, Sem.run_bind, Sem.run_pure, Result.andThen_ok, List.map_toArray, List.map_cons, List.map_nil, hx, hy, hr]
theorem ex_bs1 (ho : o.op = .buildSlice 22 1 #[(0, x)]) (hx : ρ x = Z8 a) : (execOp ρ o).run Tryd.prog w = .ok (.value (.slice (some ⟨w.heap.size, 0, none⟩) 1 1)) (w.alloc (.cells ([Z8 a] : List Value).toArray 5)) := by
  simp only [execOp, ho, List.map_toArray, List.map_cons, List.map_nil, hx]
  kernel_rfl
theorem ex_bs0 (ho : o.op = .buildSlice 22 0 #[]) : (execOp ρ o).run Tryd.prog w = .ok (.value (.slice (some ⟨w.heap.size, 0, none⟩) 0 0)) (w.alloc (.cells #[] 5)) := by
  simp only [execOp, ho]
  kernel_rfl
end
theorem cell_one (w : World) (a : Nat) (j : Nat) (hj : j < 1) : (w.alloc (.cells ([Z8 a] : List Value).toArray 5)).cell? ((⟨w.heap.size, 0, none⟩ : Addr).add j) = some (Z8 ((fun _ => a) j)) := by
  obtain rfl : j = 0 := by omega
  show (w.alloc (.cells ([Z8 a] : List Value).toArray 5)).cell? ⟨w.heap.size, 0, none⟩ = _
  rw [World.cell?_alloc_at _ _ _ _ rfl]
  rfl
/-- A number's bytes, the highest first. -/
def b8 (x : Nat) (j : Nat) : Nat := sr x (56 - 8 * j) % 256
end Rg
end Go.Proofs.YtolflfjfegngnaaDoor
end
section
namespace Go.Proofs.YtolflfjfegngnaaDoor
open Go.RowKit
namespace Rg
set_option maxRecDepth 100000
section
variable {ρ : Operand → Value} {o : Oper} {x y : Operand} {a b : Nat} {w : World}
end
theorem Rs.add {g o n : Nat} {f : Nat → Nat} {w : World} (h : Rs g o n f w) (j : Nat) (hj : j < n) : w.cell? ((⟨g, o, none⟩ : Addr).add j) = some (Z8 (f j)) := by
  rw [show (⟨g, o, none⟩ : Addr).add j = ⟨g, o + j, none⟩ by unfold Addr.add; split <;> simp_all]
  exact h.at_ j hj
/-- Bytes at an address. -/
structure Ra (a : Addr) (n : Nat) (f : Nat → Nat) (w : World) : Prop where
  lt : 0 < n → a.block < w.heap.size
  at_ : ∀ j, j < n → w.cell? (a.add j) = some (Z8 (f j))
theorem add_block (a : Addr) (j : Nat) : (a.add j).block = a.block := by unfold Addr.add; split <;> rfl
theorem Ra.below {a : Addr} {n : Nat} {f : Nat → Nat} {w w' : World} (h : Ra a n f w) (hb : Below w.heap.size w w') : Ra a n f w' :=
  ⟨fun hn => Nat.lt_of_lt_of_le (h.lt hn) hb.size, fun j hj => by rw [hb.cell (p := a.add j) (by rw [add_block]; exact h.lt (by omega))]; exact h.at_ j hj⟩
theorem Rs.kp2 {g gb o n : Nat} {f : Nat → Nat} {w w' : World} (h : Rs gb o n f w) (k : Kp g w w') (ne : gb ≠ g) : Rs gb o n f w' := by
  have s : Src g gb o n f w := ⟨h.lt, fun _ => ne, h.at_⟩
  exact ⟨fun hn => Nat.lt_of_lt_of_le (h.lt hn) k.size, fun i hi => s.kp k i hi⟩
/-- The message with its ending, as the document has it. -/
def zc (n : Nat) : Nat := (120 - (n + 1) % 64) % 64
def pn (n : Nat) : Nat := n + 1 + zc n + 8
def nb (n : Nat) : Nat := pn n / 64
def pz (f : Nat → Nat) (n : Nat) : Nat → Nat := fun j => if j < n then f j else if j = n then 128 else 0
def pd (f : Nat → Nat) (n : Nat) : Nat → Nat := ct (pz f n) (n + 1 + zc n) (b8 (c64 (8 * c64 n)))
def hd (P : Nat → Nat) : Nat → Nat → Nat
  | 0 => fT
  | k + 1 => db (hd P k) kT P (64 * k)
def ob (h : Nat → Nat) : Nat → Nat → Nat
  | 0 => fun _ => 0
  | i + 1 => up (ob h i) i (sr (h (i / 4)) (24 - (8 * (i % 4))) % 256)
/-- The digest of n bytes, as the document has it. -/
def ds (f : Nat → Nat) (n : Nat) : Nat → Nat := ob (hd (pd f n) (nb n)) 32
end Rg
end Go.Proofs.YtolflfjfegngnaaDoor
end
section
namespace Go.Proofs.YtolflfjfegngnaaDoor
open Go.RowKit
namespace Rg
/-! The words. -/
/-! The eight numbers. -/
/-! Block by block. -/
/-! The bytes of the eight numbers. -/
theorem bo_get (s : Nat → Nat) : ∀ n i t, t < 4 → bo s n (4 * i + t) = if i < n then sr (s i) (24 - 8 * t) % 256 else 0
  | 0, i, t, _ => by rw [if_neg (by omega)]; rfl
  | n + 1, i, t, ht => by
    show up (up (up (up (bo s n) (4 * n) (sr (s n) 24 % 256)) (4 * n + 1) (sr (s n) 16 % 256)) (4 * n + 2) (sr (s n) 8 % 256)) (4 * n + 3) (s n % 256) (4 * i + t) = _
    have ih := bo_get s n i t ht
    unfold up
    by_cases e : i = n
    · subst e
      rw [if_pos (Nat.lt_succ_self i)]
      rcases (by omega : t = 0 ∨ t = 1 ∨ t = 2 ∨ t = 3) with rfl | rfl | rfl | rfl
      · rw [if_neg (by omega), if_neg (by omega), if_neg (by omega), if_pos (by omega)]
      · rw [if_neg (by omega), if_neg (by omega), if_pos (by omega)]
      · rw [if_neg (by omega), if_pos (by omega)]
      · rw [if_pos (by omega)]
        unfold sr
        rw [show 24 - 8 * 3 = 0 from rfl, Nat.pow_zero, Nat.div_one]
    · rw [if_neg (by omega), if_neg (by omega), if_neg (by omega), if_neg (by omega), ih]
      by_cases l : i < n
      · rw [if_pos l, if_pos (by omega)]
      · rw [if_neg l, if_neg (by omega)]
/-! The whole. -/
end Rg
end Go.Proofs.YtolflfjfegngnaaDoor
end
section
namespace Go.Proofs.YtolflfjfegngnaaDoor
open Go.RowKit
namespace Rg
set_option maxRecDepth 100000
/-- The bytes of a list that is lent. -/
def lf (xs : List Int) (j : Nat) : Nat := (lent xs j).toNat
theorem lf_int {xs : List Int} (hx : ∀ x ∈ xs, 0 ≤ x ∧ x < 256) (j : Nat) : ((lf xs j : Nat) : Int) = lent xs j := Int.toNat_of_nonneg (lent_bd xs hx j).1
theorem Mm.rs {w : World} {l : List (Nat × List Value)} {f : Nat → Nat} {g m n : Nat} (h : Mm w l) (k : Nat) (hk : l[k]? = some (g, ints .u8 f m)) (hn : n ≤ m) : Rs g 0 n f w := by
  have hb := h.blk _ (List.mem_of_getElem? hk)
  exact ⟨fun _ => hb.1, fun i hi => by rw [Nat.zero_add]; exact (hb.2 i _ (ints_get .u8 f (by omega))).1⟩
theorem Bv.start (gb o n cp : Nat) : Bv gb o n cp 0 (.slice (some ⟨gb, o, none⟩) n cp) := ⟨fun _ => rfl, fun h => ⟨some ⟨gb, o, none⟩, cp, by rw [← h]⟩⟩
theorem all_of {f f' : Nat → Nat} {n : Nat} (h : ∀ j, j < n → f j = f' j) : ((List.range n).all fun j => decide (f j = f' j)) = true := by
  rw [List.all_eq_true]
  intro j hj
  exact decide_eq_true (h j (List.mem_range.1 hj))
theorem call14 : ∀ args w, (callFunc 14 args).run Tryd.prog w = .ok (.enter 14 args) w := by intro args w; go_simp
end Rg
end Go.Proofs.YtolflfjfegngnaaDoor
end
section
namespace Go.Proofs.YtolflfjfegngnaaDoor
open Go.RowKit
namespace Rg
set_option maxRecDepth 100000
theorem Src.kp2 {g gb o n : Nat} {f : Nat → Nat} {w w' : World} (h : Src g gb o n f w) (k : Kp g w w') : Src g gb o n f w' :=
  ⟨fun hn => Nat.lt_of_lt_of_le (h.lt hn) k.size, h.ne, fun i hi => h.kp k i hi⟩
theorem Kp.join {g : Nat} {a b c : World} (h : Kp g a b) (k : Kp g b c) : Kp g a c :=
  ⟨k.os.trans h.os, k.tape.trans h.tape, k.output.trans h.output, Nat.le_trans h.size k.size, fun i hi hg => (k.block i (Nat.lt_of_lt_of_le hi h.size) hg).trans (h.block i hi hg)⟩
theorem Src.void (g gb o : Nat) (f : Nat → Nat) (w : World) : Src g gb o 0 f w := ⟨fun h => absurd h (by decide), fun h => absurd h (by decide), fun i hi => absurd hi (by omega)⟩
theorem Bv.void (gb o cp : Nat) (p : Option Addr) (c : Nat) : Bv gb o 0 cp 0 (.slice p 0 c) := ⟨fun h => absurd h (by decide), fun _ => ⟨p, c, rfl⟩⟩
theorem Mm.src {w : World} {l : List (Nat × List Value)} {f : Nat → Nat} {g gb m n : Nat} {cs : List Value} (h : Mm w l) (i j : Nat) (hg : l[i]? = some (g, cs)) (hk : l[j]? = some (gb, ints .u8 f m)) (hij : i ≠ j) (hn : n ≤ m) : Src g gb 0 n f w := by
  have h2 := h.two i j hg hk hij
  have hb := h2.blk (gb, ints .u8 f m) (by simp)
  refine ⟨fun _ => hb.1, fun _ e => ?_, fun i hi => by rw [Nat.zero_add]; exact (hb.2 i _ (ints_get .u8 f (by omega))).1⟩
  have := (List.pairwise_cons.1 h2.nd).1 (gb, ints .u8 f m) (by simp)
  exact this e.symm
set_option maxRecDepth 100000 in
theorem New_any  (w : World) (hm : Mm w [(0, ints .u32 fT 8)]) :
    Calls Tryd.prog 25 #[] w fun e w' => Below w.heap.size w w' ∧ ∃ g, e = .returned (PT g 0) ∧ w.heap.size ≤ g ∧ g < w'.heap.size ∧ Blk w' g (hs true fT (fun _ => 0) 0) := by
  have H0 : Hid (_ ∧ _) := ⟨hm, Below.refl w.heap.size w⟩
  clear hm
  go_enter Tryd.func25, Tryd.ntmps25
  refine wp_seq ?_
  refine walk_seqB 1 [.quiet (.pointer none)] H0 ?ho1 ?he1
  case ho1 => exact ak (fun _ => ⟨rfl, fun _ _ => rfl⟩) trivial
  intro _ w1 H1
  refine rest0 rfl (then_normal (wp_seq ?_))
  refine walk_seqA 3 [.call (.agg (hs true fT (fun _ => 0) 0).toArray), .made (hs false (fun _ => 0) (fun _ => 0) 0) 58, .laid 1 (hs false (fun _ => 0) (fun _ => 0) 0) (hs true fT (fun _ => 0) 0)] (sB H1) ?ho2 ?he2 (hL := ?hL2)
  case hL2 => exact ⟨⟨_, rfl⟩, trivial⟩
  case ho2 => exact ak (fun γ => ⟨rfl, fun w' h => ⟨44, #[], exec_call rfl call44 rfl (mpn rfl), begun_any w' (h.one 0 rfl)⟩⟩) (ak (fun γ => ⟨rfl, fun w' => ex_mk58 rfl⟩) (ak (fun γ => ⟨rfl, rfl, (hs_len _ _ _ _).trans (hs_len _ _ _ _).symm, fun w' h => ex_laidH h Tryd.sizeOf58 rfl rfl rfl⟩) trivial))
  intro γ w2 l hM hl
  have H2 : Hid (Mm w2 [(γ 1, hs true fT (fun _ => 0) 0), (0, ints .u32 fT 8)] ∧ _) := growB H1 hM (Nat.le_refl _) hl [1] rfl (by decide)
  have o2_1 := ownB H1 hM (Nat.le_refl _) hl (i := 1) rfl
  clear hM hl l H1
  generalize γ 1 = γ2_1 at H2 o2_1 ⊢
  clear γ
  refine rest0 rfl (then_normal (wp_seq ?_))
  refine walk_seqB 1 [.quiet (PT γ2_1 0)] H2 ?ho3 ?he3
  case ho3 => exact ak (fun _ => ⟨rfl, fun _ _ => rfl⟩) trivial
  intro _ w3 H3
  clear H2
  refine rest0 rfl (then_normal (wp_ret ?_))
  repeat (first | refine then_ret ?_ | refine block_ret ?_)
  refine bodyPost_ret (v := PT γ2_1 0) (by simp [results, Tryd.results25, go_sem, *]) rfl ?_
  exact ⟨H3.out.2, γ2_1, rfl, o2_1.out, (H3.out.1.one 0 rfl).blk _ (List.mem_singleton.2 rfl)⟩
set_option maxHeartbeats 1000000 in
set_option maxRecDepth 100000 in
theorem Write_ok (g gb o n cp : Nat) (q : Hq) (f : Nat → Nat) (v : Value) (hv : Bv gb o n cp 0 v) (hcp : n ≤ cp) (hb : q.c + n < 4611686018427387904) (w : World) (hm : Mm w [(g, hs true q.s q.r q.c), (1, ints .u32 kT 64)]) (hS : Src g gb o n f w) :
    Calls Tryd.prog 26 #[PT g 0, v] w fun e w' => e = .returned (.int .i64 0) ∧ Mm w' [(g, hs true (hby f q n).s (hby f q n).r (hby f q n).c)] ∧ Kp g w w' := by
  have H0 : Hid (_ ∧ _) := ⟨hm, Kp.refl g w⟩
  clear hm
  have S : Hid (Src g gb o n f w) := hS
  clear hS
  go_enter Tryd.func26, Tryd.ntmps26
  refine wp_seq ?_
  refine walk_seqA 1 [.quiet (.int .i64 0)] (sB H0) ?ho1 ?he1
  case ho1 => exact ak (fun _ => ⟨rfl, fun _ _ => rfl⟩) trivial
  intro γ w1 l hM hl
  have H1 := keepK H0 hM.below
  clear hM hl l γ
  refine rest0 rfl (then_normal (wp_seq (wp_seq ?_)))
  refine walk_seqA 3 [.quiet (PT g 0), .call (.bool true), .quiet (.bool false)] (sB H1) ?ho2 ?he2
  case ho2 => exact ak (fun _ => ⟨rfl, fun _ _ => rfl⟩) (ak (fun γ => ⟨rfl, fun w' h => ⟨54, #[PT g 0], exec_call rfl call54 rfl (mpn rfl), known_any _ _ _ _ _ w' (h.one 0 rfl)⟩⟩) (ak (by refine fun γ => ⟨rfl, fun w' h => ?_⟩; clear h; go_simp) trivial))
  intro γ w2 l hM hl
  have H2 := keepK H1 hM.below
  clear hM hl l H1 γ
  refine rest0 rfl (then_normal (wp_cond_false rfl ?_))
  refine wp_skip (then_normal (wp_seq ?_))
  refine walk_seqA 2 [.quiet (PT g 0), .quiet (v)] (sB H2) ?ho3 ?he3
  case ho3 => exact ak (fun _ => ⟨rfl, fun _ _ => rfl⟩) (ak (fun _ => ⟨rfl, fun _ _ => rfl⟩) trivial)
  intro γ w3 l hM hl
  have H3 := keepK H2 hM.below
  clear hM hl l H2 γ
  refine rest_at (l := [2]) rfl ?_
  refine rest_enter (d := 10) (R := fun vv w' => vv = .tuple #[] ∧ Mm w' [(g, hs true ((hby f q n).s) ((hby f q n).r) ((hby f q n).c))] ∧ Kp g w3 w') rfl rfl rfl (exec_call (args := #[PT g 0, v]) rfl call45 rfl (mpn rfl)) (Calls.mono (add_any g gb o n cp true q f v hv hcp hb w3 (H3.out.1.two 0 1 rfl rfl (by decide)) (S.out.kp2 H3.out.2)) (fun e w2 hh => ⟨_, hh.1, rfl, hh.2⟩)) ?_
  rintro _ w4 ⟨rfl, hn, hp⟩
  have H4 : Hid (Mm w4 [(g, hs true ((hby f q n).s) ((hby f q n).r) ((hby f q n).c)), (1, ints .u32 kT 64)] ∧ Kp g w w4) := ⟨H3.out.1.change 0 rfl hp hn, H3.out.2.join hp⟩
  clear hn hp H3
  simp only [Act.put, sa, sz, ss]
  refine rest_nil (then_normal (wp_seq ?_))
  refine walk_seqA 1 [.quiet (.int .i64 0)] (sB H4) ?ho4 ?he4
  case ho4 => exact ak (fun _ => ⟨rfl, fun _ _ => rfl⟩) trivial
  intro γ w5 l hM hl
  have H5 := keepK H4 hM.below
  clear hM hl l H4 γ
  refine rest0 rfl (then_normal (wp_ret ?_))
  repeat (first | refine then_ret ?_ | refine block_ret ?_)
  refine bodyPost_ret (v := .int .i64 0) (by simp [results, Tryd.results26, go_sem, *]) rfl ?_
  exact ⟨rfl, H5.out.1.one 0 rfl, H5.out.2⟩
set_option maxRecDepth 100000 in
theorem HSum_ok (g : Nat) (q : Hq) (w : World) (hm : Mm w [(g, hs true q.s q.r q.c), (1, ints .u32 kT 64)]) :
    Calls Tryd.prog 29 #[PT g 0] w fun e w' => e = .returned (.agg (ints .u8 (fz q.s q.r q.c) 32).toArray) ∧ Below w.heap.size w w' := by
  have H0 : Hid (_ ∧ _) := ⟨hm, Below.refl w.heap.size w⟩
  clear hm
  go_enter Tryd.func29, Tryd.ntmps29
  refine wp_seq ?_
  refine walk_seqA 1 [.made (ints .u8 (fun _ => 0) 32) 25] (sB H0) ?ho1 ?he1
  case ho1 => exact ak (fun γ => ⟨rfl, fun w' => ex_mk25 rfl⟩) trivial
  intro γ w1 l hM hl
  have H1 : Hid (Mm w1 [(γ 0, ints .u8 (fun _ => 0) 32), (g, hs true q.s q.r q.c), (1, ints .u32 kT 64)] ∧ _) := growB H0 hM (Nat.le_refl _) hl [0] rfl (by decide)
  have o1_0 := ownB H0 hM (Nat.le_refl _) hl (i := 0) rfl
  clear hM hl l
  generalize γ 0 = γ1_0 at H1 o1_0 ⊢
  clear γ
  refine rest0 rfl (then_normal (wp_seq (wp_seq ?_)))
  refine walk_seqB 3 [.quiet (PT g 0), .call (.bool true), .quiet (.bool false)] H1 ?ho2 ?he2
  case ho2 => exact ak (fun _ => ⟨rfl, fun _ _ => rfl⟩) (ak (fun γ => ⟨rfl, fun w' h => ⟨54, #[PT g 0], exec_call rfl call54 rfl (mpn rfl), known_any _ _ _ _ _ w' (h.one 1 rfl)⟩⟩) (ak (by refine fun γ => ⟨rfl, fun w' h => ?_⟩; clear h; go_simp) trivial))
  intro _ w2 H2
  clear H1
  refine rest0 rfl (then_normal (wp_cond_false rfl ?_))
  refine wp_skip (then_normal (wp_seq ?_))
  refine walk_seqB 4 [.quiet (PT g 0), .quiet (PT g 0), .quiet (.agg (hs true q.s q.r q.c).toArray), .call (.agg (ints .u8 (fz q.s q.r q.c) 32).toArray)] H2 ?ho3 ?he3
  case ho3 => exact ak (fun _ => ⟨rfl, fun _ _ => rfl⟩) (ak (by refine fun γ => ⟨rfl, fun w' h => ?_⟩; clear h; go_simp) (ak (fun γ => ⟨rfl, fun w' h => ex_loadT h 1 rfl rfl rfl Tryd.isAgg58 Tryd.sizeOf58 (hs_whole _ _ _ _) (hs_len _ _ _ _)⟩) (ak (fun γ => ⟨rfl, fun w' h => ⟨46, #[.agg (hs true q.s q.r q.c).toArray], exec_call rfl call46 rfl (mpn rfl), finish_any _ _ _ _ w' (h.one 2 rfl)⟩⟩) trivial)))
  intro _ w3 H3
  clear H2
  refine rest_at (l := [4]) rfl ?_
  refine rest_store rfl rfl rfl (ex_storeT (vs := ints .u8 (fz q.s q.r q.c) 32) H3.out.1 0 rfl rfl rfl rfl (by rw [ints_len]; exact Tryd.sizeOf25) (ints_all _ _ _) (by simp [ints_len])) ?_
  have H4 : Hid (Mm (w3.setCells γ1_0 0 (ints .u8 (fz q.s q.r q.c) 32)) [(γ1_0, ints .u8 (fz q.s q.r q.c) 32), (g, hs true q.s q.r q.c), (1, ints .u32 kT 64)] ∧ Below w.heap.size w (w3.setCells γ1_0 0 (ints .u8 (fz q.s q.r q.c) 32))) := ⟨by
    have h := H3.out.1.put 0 (off := 0) (vs := ints .u8 (fz q.s q.r q.c) 32) rfl (by simp [ints_len])
    rw [ints_patch0 _ _ _ _] at h
    exact h, below_setCells _ o1_0.out _ _ _ H3.out.2⟩
  clear H3
  generalize hgw : World.setCells _ _ _ _ = w4 at H4 ⊢
  clear hgw
  refine rest_nil (then_normal (wp_ret ?_))
  repeat (first | refine then_ret ?_ | refine block_ret ?_)
  have hf0 := var_T H4.out.1 0 rfl Tryd.isAgg25 Tryd.sizeOf25 (ints_len _ _ _)
  refine bodyPost_ret (v := .agg (ints .u8 (fz q.s q.r q.c) 32).toArray) (by simp [results, Tryd.results29, asAddr, hf0]) rfl ?_
  exact ⟨rfl, H4.out.2⟩
end Rg
end Go.Proofs.YtolflfjfegngnaaDoor
end
section
namespace Go.Proofs.YtolflfjfegngnaaDoor
open Go.RowKit
namespace Rg
set_option maxRecDepth 100000
theorem Mm.three {w : World} {l : List (Nat × List Value)} (h : Mm w l) (i j k : Nat) {p q r : Nat × List Value} (hi : l[i]? = some p) (hj : l[j]? = some q) (hk : l[k]? = some r) (hij : i ≠ j) (hik : i ≠ k) (hjk : j ≠ k) : Mm w [p, q, r] := by
  have a := (List.pairwise_cons.1 (h.two i j hi hj hij).nd).1 q (by simp)
  have b := (List.pairwise_cons.1 (h.two i k hi hk hik).nd).1 r (by simp)
  have c := (List.pairwise_cons.1 (h.two j k hj hk hjk).nd).1 r (by simp)
  refine ⟨fun x hx => ?_, by simp [a, b, c]⟩
  rcases List.mem_cons.1 hx with rfl | hx
  · exact h.blk _ (List.mem_of_getElem? hi)
  · rcases List.mem_cons.1 hx with rfl | hx
    · exact h.blk _ (List.mem_of_getElem? hj)
    · rw [List.mem_singleton.1 hx]; exact h.blk _ (List.mem_of_getElem? hk)
theorem Mm.over {u w : World} {l : List (Nat × List Value)} {g : Nat} {cs : List Value} (h0 : Mm u l) (hge : u.heap.size ≤ g) (h1 : Mm w l) (hb : Blk w g cs) (hlt : g < w.heap.size) : Mm w ((g, cs) :: l) :=
  h1.cons hb hlt (fun p hp => by have := (h0.blk p hp).1; omega)
theorem Rs.void (g o : Nat) (f : Nat → Nat) (w : World) : Rs g o 0 f w := ⟨fun h => absurd h (by decide), fun i hi => absurd hi (by omega)⟩
theorem bo_lt (s : Nat → Nat) (n j : Nat) : bo s n j < 256 := by
  have h := bo_get s n (j / 4) (j % 4) (by omega)
  rw [show 4 * (j / 4) + j % 4 = j by omega] at h
  rw [h]
  split
  · exact Nat.mod_lt _ (by decide)
  · decide
theorem fz_lt (s r : Nat → Nat) (c j : Nat) : fz s r c j < 256 := by
  unfold fz
  split
  · exact bo_lt _ _ _
  · split <;> exact bo_lt _ _ _
theorem txt_eq (f : Nat → Nat) (l : List UInt8) (h : (((List.range 64).map fun j => (f j : Int)).map fun n => UInt8.ofNat n.toNat) = l) : st f 64 = ⟨l.toArray⟩ := by
  unfold st strOfNums
  rw [h]
section
variable {ρ : Operand → Value} {o : Oper} {x y : Operand} {g : Nat} {w : World}
theorem ex_eqS {a b : ByteArray} (h : a = b) (ho : o.op = .binOp .eql 9 x y 9) (hx : ρ x = .string a) (hy : ρ y = .string b) : (execOp ρ o).run Tryd.prog w = .ok (.value (.bool true)) w := by
  subst h
  simp only [execOp, ho, hx, hy]
  clear ho hx hy
  go_simp
theorem ex_cvS {n c : Nat} (ho : o.op = .convert 22 22 x) (hx : ρ x = .slice (some ⟨g, 0, none⟩) n c) : (execOp ρ o).run Tryd.prog w = .ok (.value (.slice (some ⟨g, 0, none⟩) n c)) (mkw w g) := by
  have h5 : Tryd.prog.underlying 5 = some (.int .u8) := by kernel_rfl
  simp only [execOp, ho, hx]
  unfold mkw
  cases hs : w.shape? g <;> simp [convert, run_underlying Tryd.underlying22, run_underlying h5, markStringish, hs, Result.andThen]
end
theorem call23 : ∀ args w, (callFunc 23 args).run Tryd.prog w = .ok (.enter 23 args) w := by intro args w; go_simp
theorem call25 : ∀ args w, (callFunc 25 args).run Tryd.prog w = .ok (.enter 25 args) w := by intro args w; go_simp
end Rg
end Go.Proofs.YtolflfjfegngnaaDoor
end
section
namespace Go.Proofs.YtolflfjfegngnaaDoor
open Go.RowKit
namespace Rg
end Rg
end Go.Proofs.YtolflfjfegngnaaDoor
end
section
namespace Go.Proofs.YtolflfjfegngnaaDoor
open Go.RowKit
namespace Rg
set_option maxRecDepth 100000
/-- The numbers of a list that is handed in. -/
def Cz (p : Option Addr) (zs : List Int) (w : World) : Prop := ∀ g o, p = some ⟨g, o, none⟩ → ∀ i, i < zs.length → g < w.heap.size ∧ w.cell? ⟨g, o + i, none⟩ = some (.int .i64 (zs.getD i 0))
theorem Cz.below {p : Option Addr} {zs : List Int} {w w' : World} (h : Cz p zs w) (hb : Below w.heap.size w w') : Cz p zs w' := fun g o e i hi => by
  obtain ⟨h1, h2⟩ := h g o e i hi
  exact ⟨Nat.lt_of_lt_of_le h1 hb.size, by rw [hb.cell (p := ⟨g, o + i, none⟩) h1]; exact h2⟩
theorem Bv.len {gb o n cp i : Nat} {v : Value} (h : Bv gb o n cp i v) (hi : i ≤ n) : ∃ p c, v = .slice p (n - i) c := by
  by_cases e : i < n
  · exact ⟨_, _, h.1 e⟩
  · obtain ⟨p, c, e2⟩ := h.2 (by omega)
    exact ⟨p, c, by rw [e2, show n - i = 0 by omega]⟩
theorem Src.sub {g gb o n : Nat} {f : Nat → Nat} {w : World} (h : Src g gb o n f w) (i m : Nat) (him : i + m ≤ n) : Src g gb (o + i) m (fun j => f (i + j)) w :=
  ⟨fun hm => h.lt (by omega), fun hm => h.ne (by omega), fun j hj => by rw [Nat.add_assoc]; exact h.at_ (i + j) (by omega)⟩
section
variable {ρ : Operand → Value} {o : Oper} {x y : Operand} {g off m c j : Nat} {w : World}
theorem ex_slH22 {l : Nat} (ho : o.op = .slice 22 x none (some y) none) (hx : ρ x = .slice (some ⟨g, off, none⟩) m c) (hy : ρ y = .int .i64 ((l : Nat) : Int)) (hh : l ≤ c) : (execOp ρ o).run Tryd.prog w = .ok (.value (.slice (some ⟨g, off, none⟩) l c)) w := by
  simp only [execOp, ho, hx, hy, Option.map_some, Option.map_none]
  clear ho hx hy
  go_simp
end
end Rg
end Go.Proofs.YtolflfjfegngnaaDoor
end
section
namespace Go.Proofs.YtolflfjfegngnaaDoor
open Go.RowKit
namespace Rg
set_option maxRecDepth 100000
/-- A part handed in: its slice, and where its bytes lie. -/
structure Pt8 where
  gb : Nat
  o : Nat
  n : Nat
  cp : Nat
  p : Option Addr
  f : Nat → Nat
/-- m parts lie in the list that pl begins. -/
def Ls (pl : Option Addr) (P : Nat → Pt8) (m : Nat) (w : World) : Prop := ∀ g o, pl = some ⟨g, o, none⟩ → ∀ i, i < m → g < w.heap.size ∧ w.cell? ⟨g, o + i, none⟩ = some (.slice (P i).p (P i).n (P i).cp) ∧ Rs (P i).gb (P i).o (P i).n (P i).f w
theorem Ls.below {pl : Option Addr} {P : Nat → Pt8} {m : Nat} {w w' : World} (h : Ls pl P m w) (hb : Below w.heap.size w w') : Ls pl P m w' := fun g o e i hi => by
  obtain ⟨h1, h2, h3⟩ := h g o e i hi
  exact ⟨Nat.lt_of_lt_of_le h1 hb.size, by rw [hb.cell h1]; exact h2, h3.below hb⟩
section
variable {ρ : Operand → Value} {o : Oper} {x y : Operand} {g off m c j : Nat} {w : World}
theorem ex_ixP29 {p : Option Addr} (he : p = some ⟨g, off, none⟩) (ho : o.op = .indexAddr 29 x y) (hx : ρ x = .slice p m c) (hy : ρ y = .int .i64 ((j : Nat) : Int)) (h : j < m) : (execOp ρ o).run Tryd.prog w = .ok (.value (PT g (off + j))) w := by
  subst he
  simp only [execOp, ho, hx, hy]
  clear ho hx hy
  go_simp
theorem ex_ldP {p : Option Addr} {P : Nat → Pt8} (h : Ls p P m w) (he : p = some ⟨g, off, none⟩) (hk : j < m) (ho : o.op = .load 22 x) (hx : ρ x = PT g (off + j)) : (execOp ρ o).run Tryd.prog w = .ok (.value (.slice (P j).p (P j).n (P j).cp)) w := by
  have c0 := (h g off he j hk).2.1
  have ha : ∀ w, (isAgg 22).run Tryd.prog w = .ok false w := Tryd.isAgg22
  clear h
  simp only [execOp, ho, hx]
  go_simp
end
end Rg
end Go.Proofs.YtolflfjfegngnaaDoor
end
section
namespace Go.Proofs.YtolflfjfegngnaaDoor
open Go.RowKit
namespace Rg
set_option maxRecDepth 100000
theorem call11 : ∀ args w, (callFunc 11 args).run Tryd.prog w = .ok (.enter 11 args) w := by intro args w; go_simp
theorem call28 : ∀ args w, (callFunc 28 args).run Tryd.prog w = .ok (.enter 28 args) w := by intro args w; go_simp
theorem call32 : ∀ args w, (callFunc 32 args).run Tryd.prog w = .ok (.enter 32 args) w := by intro args w; go_simp
theorem call34 : ∀ args w, (callFunc 34 args).run Tryd.prog w = .ok (.enter 34 args) w := by intro args w; go_simp
theorem call35 : ∀ args w, (callFunc 35 args).run Tryd.prog w = .ok (.enter 35 args) w := by intro args w; go_simp
theorem call36 : ∀ args w, (callFunc 36 args).run Tryd.prog w = .ok (.enter 36 args) w := by intro args w; go_simp
theorem call37 : ∀ args w, (callFunc 37 args).run Tryd.prog w = .ok (.enter 37 args) w := by intro args w; go_simp
theorem call39 : ∀ args w, (callFunc 39 args).run Tryd.prog w = .ok (.enter 39 args) w := by intro args w; go_simp
theorem call42 : ∀ args w, (callFunc 42 args).run Tryd.prog w = .ok (.enter 42 args) w := by intro args w; go_simp
theorem call43 : ∀ args w, (callFunc 43 args).run Tryd.prog w = .ok (.enter 43 args) w := by intro args w; go_simp
theorem call55 : ∀ args w, (callFunc 55 args).run Tryd.prog w = .ok (.enter 55 args) w := by intro args w; go_simp
theorem call56 : ∀ args w, (callFunc 56 args).run Tryd.prog w = .ok (.enter 56 args) w := by intro args w; go_simp
theorem call61 : ∀ args w, (callFunc 61 args).run Tryd.prog w = .ok (.enter 61 args) w := by intro args w; go_simp
theorem call62 : ∀ args w, (callFunc 62 args).run Tryd.prog w = .ok (.enter 62 args) w := by intro args w; go_simp
section
variable {ρ : Operand → Value} {o : Oper} {x y : Operand} {g off j n a b c : Nat} {w : World}
theorem ex_mk86 (ho : o.op = .alloc 86) : (execOp ρ o).run Tryd.prog w = .ok (.value (.pointer (some ⟨w.heap.size, 0, none⟩))) (w.alloc (.cells (ints .u8 (fun _ => 0) 64).toArray 86)) := by
  simp only [execOp, ho]
  go_simp
  rfl
theorem ex_ix_86 (ho : o.op = .indexAddr 86 x y) (hx : ρ x = PT g off) (hy : ρ y = .int .i64 ((j : Nat) : Int)) (hj : j < 64) : (execOp ρ o).run Tryd.prog w = .ok (.value (PT g (off + j))) w := by
  have h1 : (j : Int) < 64 := by omega
  simp only [execOp, ho, hx, hy]
  clear ho hx hy
  go_simp
theorem ex_ix0_86 (ho : o.op = .indexAddr 86 x y) (hx : ρ x = PT g 0) (hy : ρ y = .int .i64 ((j : Nat) : Int)) (hj : j < 64) : (execOp ρ o).run Tryd.prog w = .ok (.value (PT g j)) w := by
  have h := ex_ix_86 (w := w) ho hx hy hj
  rw [Nat.zero_add] at h
  exact h
theorem ex_sl86 (ho : o.op = .slice 86 x none none none) (hx : ρ x = PT g 0) : (execOp ρ o).run Tryd.prog w = .ok (.value (.slice (some ⟨g, 0, none⟩) 64 64)) w := by
  simp only [execOp, ho, hx, Option.map_none]
  clear ho hx
  go_simp
theorem ex_sl25 (ho : o.op = .slice 25 x none none none) (hx : ρ x = PT g 0) : (execOp ρ o).run Tryd.prog w = .ok (.value (.slice (some ⟨g, 0, none⟩) 32 32)) w := by
  simp only [execOp, ho, hx, Option.map_none]
  clear ho hx
  go_simp
/-- Bytes, bit by bit: unlike. -/
def x8 (a b : Nat) : Nat := (a ^^^ b) % 256
theorem bits8x (a b : Nat) : bits .xor .u8 (a : Int) (b : Int) = ((x8 a b : Nat) : Int) := by
  have h1 : ∀ k : Nat, (BitVec.ofInt 8 (k : Int)).toNat = k % 256 := fun k => by rw [BitVec.ofInt_natCast, BitVec.toNat_ofNat]
  show IntKind.u8.wrap ((BitVec.ofInt 8 (a : Int) ^^^ BitVec.ofInt 8 (b : Int)).toNat : Int) = _
  rw [BitVec.toNat_xor, h1, h1, ← Nat.xor_mod_two_pow (n := 8)]
  unfold x8
  simp [IntKind.wrap, IntKind.bits, IntKind.signed]
theorem ex_xor8 (ho : o.op = .binOp .xor 5 x y 5) (hx : ρ x = Z8 a) (hy : ρ y = Z8 b) : (execOp ρ o).run Tryd.prog w = .ok (.value (Z8 (x8 a b))) w := by
  have e := bits8x a b
  simp only [execOp, ho, hx, hy]
  clear ho hx hy
  go_simp
  first | done | exact e
/-- copy into a row of bytes. -/
theorem ex_copyR {gb so sn sc dn dc kk mm N : Nat} {F r : Nat → Nat} {l : List (Nat × List Value)} (h : Mm w l) (q : Nat) (hk : l[q]? = some (g, ints .u8 r N)) (hf : ∀ j, j < mm → w.cell? ⟨gb, so + j, none⟩ = some (Z8 (F j))) (hm : mm = Nat.min sn dn) (hd : kk + mm ≤ N)
    (ho : o.op = .call { callee := .builtin .copy, args := #[x, y], argTypes := #[22, 22] }) (hx : ρ x = .slice (some ⟨g, kk, none⟩) dn dc) (hy : ρ y = .slice (some ⟨gb, so, none⟩) sn sc) : (execOp ρ o).run Tryd.prog w = .ok (.value (.int .i64 ((mm : Nat) : Int))) (w.setCells g kk (ints .u8 F mm)) := by
  have hmem := List.mem_of_getElem? hk
  have hcell : ∀ j, j < mm → ∃ u, (ints .u8 r N)[kk + j]? = some u := fun j hj => ⟨_, List.getElem?_eq_getElem (by rw [ints_len]; omega)⟩
  have hr : (Builtin.copy_ #[22, 22] o.type #[.slice (some ⟨g, kk, none⟩) dn dc, .slice (some ⟨gb, so, none⟩) sn sc]).run Tryd.prog w = .ok (goInt (ints .u8 F mm).length) (w.setCells g kk (ints .u8 F mm)) :=
    run_copy_cells (P := Tryd.prog) w 22 22 o.type 5 g kk dn dc ⟨gb, so, none⟩ sn sc (ints .u8 F mm) (by kernel_rfl) (by kernel_rfl) (by rw [ints_len, hm])
      (fun j v hv => by
        have hj : j < mm := by
          have := (List.getElem?_eq_some_iff.1 hv).1
          rwa [ints_len] at this
        rw [ints_get _ _ hj] at hv
        rw [show (⟨gb, so, none⟩ : Addr).add j = ⟨gb, so + j, none⟩ from by unfold Addr.add; split <;> simp_all, hf j hj]
        exact hv)
      (fun j hj => by
        rw [ints_len] at hj
        obtain ⟨u, hu⟩ := hcell j hj
        rw [h.cell hmem hu]; rfl)
      (fun j hj => by
        rw [ints_len] at hj
        obtain ⟨u, hu⟩ := hcell j hj
        exact h.free hmem hu)
      (List.all_eq_true.1 (ints_all _ _ _))
  rw [ints_len] at hr
  clear h hk hf hm hcell hmem
  unfold execOp
  simp only [ho, resolve, invoke, builtin, Sem.run_bind, Sem.run_pure, Result.andThen_ok, List.map_toArray, List.map_cons, List.map_nil, hx, hy, hr]
  rfl
theorem ex_copy0 {p : Option Addr} {dn dc sc : Nat} (ho : o.op = .call { callee := .builtin .copy, args := #[x, y], argTypes := #[22, 22] }) (hx : ρ x = .slice (some ⟨g, off, none⟩) dn dc) (hy : ρ y = .slice p 0 sc) : (execOp ρ o).run Tryd.prog w = .ok (.value (.int .i64 0)) w := by
  have hr : (Builtin.copy_ #[22, 22] o.type #[.slice (some ⟨g, off, none⟩) dn dc, .slice p 0 sc]).run Tryd.prog w = .ok (.int .i64 0) w := by
    exact run_copy_none (P := Tryd.prog) w 22 22 o.type 5 _ p dn dc 0 sc (by kernel_rfl) (by kernel_rfl) (Nat.zero_min _)
  unfold execOp
  simp only [ho, resolve, invoke, builtin, Sem.run_bind, Sem.run_pure, Result.andThen_ok, List.map_toArray, List.map_cons, List.map_nil, hx, hy, hr]
end
theorem ints_pr8 (r F : Nat → Nat) (N k m : Nat) (h : k + m ≤ N) : patch (ints .u8 r N) k (ints .u8 F m) = ints .u8 (pr8 r k m F) N := by
  apply List.ext_getElem?
  intro j
  rw [patch_get _ _ _ (by rw [ints_len, ints_len]; exact h), ints_len]
  by_cases hj : j < N
  · rw [ints_get _ _ hj, ints_get _ _ hj]
    unfold pr8
    by_cases hc : k ≤ j ∧ j < k + m
    · rw [if_pos hc, if_pos hc, ints_get _ _ (by omega)]
    · rw [if_neg hc, if_neg hc]
  · rw [if_neg (by omega), ints_none _ _ (by omega), ints_none _ _ (by omega)]
end Rg
end Go.Proofs.YtolflfjfegngnaaDoor
end
section
namespace Go.Proofs.YtolflfjfegngnaaDoor
open Go.RowKit
namespace Rg
set_option maxRecDepth 100000
/-- A block with its first i bytes xor x. -/
def mr (K : Nat → Nat) (x : Nat) : Nat → Nat → Nat
  | 0 => K
  | i + 1 => up (mr K x i) i (x8 (mr K x i i) x)
theorem mr_ge (K : Nat → Nat) (x : Nat) : ∀ i j, i ≤ j → mr K x i j = K j
  | 0, _, _ => rfl
  | i + 1, j, h => by
    show up (mr K x i) i _ j = _
    unfold up
    rw [if_neg (by omega), mr_ge K x i j (by omega)]
theorem mr_lt (K : Nat → Nat) (x : Nat) : ∀ i j, j < i → mr K x i j = x8 (K j) x
  | 0, _, h => absurd h (by omega)
  | i + 1, j, h => by
    show up (mr K x i) i _ j = _
    unfold up
    by_cases e : j = i
    · rw [if_pos e, mr_ge K x i i (Nat.le_refl _), e]
    · rw [if_neg e, mr_lt K x i j (by omega)]
/-- A block, each byte xor x. -/
def mk8 (K : Nat → Nat) (x : Nat) : Nat → Nat := fun j => x8 (K j) x
theorem ints_mr (K : Nat → Nat) (x : Nat) : ints .u8 (mr K x 64) 64 = ints .u8 (mk8 K x) 64 := ints_congr fun j hj => mr_lt K x 64 j hj
set_option maxHeartbeats 1000000 in
set_option maxRecDepth 100000 in
theorem masked_any (K : Nat → Nat) (x : Nat) (w : World) :
    Calls Tryd.prog 62 #[.agg (ints .u8 K 64).toArray, Z8 x] w fun e w' => e = .returned (.agg (ints .u8 (mk8 K x) 64).toArray) ∧ Below w.heap.size w w' := by
  have H0 : Hid (_ ∧ _) := ⟨Mm.nil w, Below.refl w.heap.size w⟩
  go_enter Tryd.func62, Tryd.ntmps62
  refine wp_seq ?_
  refine walk_seqA 2 [.made (ints .u8 K 64) 86, .made (ints .u8 (fun _ => 0) 64) 86] (sB H0) ?ho1 ?he1
  case ho1 => exact ak (fun γ => ⟨rfl, fun w' => ex_boxT rfl rfl⟩) (ak (fun γ => ⟨rfl, fun w' => ex_mk86 rfl⟩) trivial)
  intro γ w1 l hM hl
  have H1 : Hid (Mm w1 [(γ 0, ints .u8 K 64), (γ 1, ints .u8 (fun _ => 0) 64)] ∧ _) := growB H0 hM (Nat.le_refl _) hl [0, 1] rfl (by decide)
  have o1_0 := ownB H0 hM (Nat.le_refl _) hl (i := 0) rfl
  have o1_1 := ownB H0 hM (Nat.le_refl _) hl (i := 1) rfl
  clear hM hl l
  generalize γ 0 = γ1_0 at H1 o1_0 ⊢
  generalize γ 1 = γ1_1 at H1 o1_1 ⊢
  clear γ
  refine rest0 rfl (then_normal (wp_seq (wp_seq ?_)))
  refine walk_seqB 1 [.quiet (.int .i64 0)] H1 ?ho2 ?he2
  case ho2 => exact ak (fun _ => ⟨rfl, fun _ _ => rfl⟩) trivial
  intro _ w2 H2
  clear H1
  refine rest0 rfl (then_normal (wp_block ?_))
  refine loop_ghost (α := Nat) (fun i a' w' => ∃ s0 : Nat → Value, a' = ⟨#[.agg (ints .u8 K 64).toArray, Z8 x, PT γ1_0 0, undef, PT γ1_1 0, s0 5, .int .i64 ((i : Nat) : Int), s0 7, s0 8, s0 9, s0 10, s0 11, s0 12, s0 13, s0 14, s0 15, undef], []⟩ ∧ (Mm w' [(γ1_0, ints .u8 (mr K x i) 64), (γ1_1, ints .u8 (fun _ => 0) 64)] ∧ Below w.heap.size w w') ∧ i ≤ 64) (fun i => 64 - i) 0 ?st0 ?rd0
  case st0 => exact ⟨(slotfn [undef, undef, undef, undef, undef, undef, undef, undef, undef, undef, undef, undef, undef, undef, undef, undef]), rfl, ⟨H2.out.1, H2.out.2⟩, by omega⟩
  intro i a' w3 hI
  obtain ⟨s0, rfl, hMB, hk0⟩ := hI
  have H3 : Hid (_ ∧ _) := hMB
  clear hMB H2
  by_cases hlti : i < 64
  · have hrd : True := trivial
    clear hrd
    refine wp_seq ?_
    refine walk_seqB 1 [.quiet (.bool true)] H3 ?ho3 ?he3
    case ho3 => exact ak (by refine fun γ => ⟨rfl, fun w' h => ?_⟩; clear h; go_simp <;> omega) trivial
    intro _ w4 H4
    clear H3
    refine rest0 rfl (then_normal (wp_seq ?_))
    refine wp_cond_true rfl (wp_skip ?_)
    refine then_normal (wp_seq ?_)
    refine wp_block (wp_seq ?_)
    refine walk_seqB 2 [.quiet (.int .i64 ((i : Nat) : Int)), .quiet (.int .i64 ((i : Nat) : Int))] H4 ?ho4 ?he4
    case ho4 => exact ak (fun _ => ⟨rfl, fun _ _ => rfl⟩) (ak (fun _ => ⟨rfl, fun _ _ => rfl⟩) trivial)
    intro _ w5 H5
    clear H4
    refine rest0 rfl (then_normal ?_)
    refine walk_seqB 6 [.quiet (.int .i64 ((i : Nat) : Int)), .quiet (PT γ1_0 i), .quiet (Z8 ((mr K x i) i)), .quiet (Z8 x), .quiet (Z8 (x8 ((mr K x i) i) x)), .quiet (PT γ1_0 i)] H5 ?ho5 ?he5
    case ho5 => exact ak (fun _ => ⟨rfl, fun _ _ => rfl⟩) (ak (fun γ => ⟨rfl, fun w' _ => ex_ix0_86 (j := i) rfl rfl rfl (by omega)⟩) (ak (fun γ => ⟨rfl, fun w' h => ex_loadC h 0 rfl rfl rfl Tryd.isAgg5 (ints_get _ _ (by omega))⟩) (ak (fun _ => ⟨rfl, fun _ _ => rfl⟩) (ak (fun γ => ⟨rfl, fun w' _ => ex_xor8 rfl rfl rfl⟩) (ak (fun γ => ⟨rfl, fun w' _ => ex_ix0_86 (j := i) rfl rfl rfl (by omega)⟩) trivial)))))
    intro _ w6 H6
    clear H5
    refine rest_at (l := [6]) rfl ?_
    refine rest_store rfl rfl rfl (ex_storeI H6.out.1 0 rfl rfl Tryd.sizeOf5 rfl rfl (by rw [ints_len]; omega)) ?_
    have H7 : Hid (Mm (w6.setCells γ1_0 i ([Z8 (x8 ((mr K x i) i) x)])) [(γ1_0, ints .u8 (up (mr K x i) i (x8 ((mr K x i) i) x)) 64), (γ1_1, ints .u8 (fun _ => 0) 64)] ∧ Below w.heap.size w (w6.setCells γ1_0 i ([Z8 (x8 ((mr K x i) i) x)]))) := ⟨by
      have h := H6.out.1.put 0 (off := i) (vs := [Z8 (x8 ((mr K x i) i) x)]) rfl (by rw [ints_len]; simp only [List.length_cons, List.length_nil]; omega)
      rw [ints_patch _ _ _ _ (by omega)] at h
      exact h, below_setCells _ o1_0.out _ _ _ H6.out.2⟩
    clear H6
    generalize hgw : World.setCells _ _ _ _ = w7 at H7 ⊢
    clear hgw
    refine rest_nil (block_normal (then_normal ?_))
    refine walk_seqB 1 [.quiet (.int .i64 ((i + 1 : Nat) : Int))] H7 ?ho6 ?he6
    case ho6 => exact ak (by refine fun γ => ⟨rfl, fun w' h => ?_⟩; clear h; go_simp; rw [IntKind.wrap_i64]; omega) trivial
    intro _ w8 H8
    clear H7
    refine rest_at (l := [1]) rfl ?_
    refine rest_set (d := 6) rfl rfl rfl rfl ?_
    simp only [Act.put, sa, sz, ss]
    refine rest_nil (then_normal ?_)
    exact ⟨i + 1, ⟨(slotfn [undef, undef, undef, undef, undef, .int .i64 ((i : Nat) : Int), undef, .bool true, .int .i64 ((i : Nat) : Int), .int .i64 ((i : Nat) : Int), PT γ1_0 i, Z8 ((mr K x i) i), Z8 x, Z8 (x8 ((mr K x i) i) x), PT γ1_0 i, .int .i64 ((i + 1 : Nat) : Int)]), rfl, ⟨H8.out.1, H8.out.2⟩, by omega⟩, by omega⟩
  have hiN : i = 64 := by omega
  subst hiN
  refine wp_seq ?_
  refine walk_seqB 1 [.quiet (.bool false)] H3 ?ho7 ?he7
  case ho7 => exact ak (by refine fun γ => ⟨rfl, fun w' h => ?_⟩; clear h; go_simp <;> omega) trivial
  intro _ w9 H9
  clear H3
  refine rest0 rfl (then_normal (wp_seq (wp_cond_false rfl ?_)))
  refine wp_exit ?_
  repeat refine then_exit ?_
  refine block_exit ?_
  refine then_normal (wp_seq ?_)
  refine walk_seqB 1 [.quiet (.agg (ints .u8 (mr K x 64) 64).toArray)] H9 ?ho8 ?he8
  case ho8 => exact ak (fun γ => ⟨rfl, fun w' h => ex_loadT h 0 rfl rfl rfl Tryd.isAgg86 Tryd.sizeOf86 (ints_whole _ _ _) (ints_len _ _ _)⟩) trivial
  intro _ w10 H10
  clear H9
  refine rest_at (l := [1]) rfl ?_
  refine rest_store rfl rfl rfl (ex_storeT (vs := ints .u8 (mr K x 64) 64) H10.out.1 1 rfl rfl rfl rfl (by rw [ints_len]; exact Tryd.sizeOf86) (ints_all _ _ _) (by simp [ints_len])) ?_
  have H11 : Hid (Mm (w10.setCells γ1_1 0 (ints .u8 (mr K x 64) 64)) [(γ1_0, ints .u8 (mr K x 64) 64), (γ1_1, ints .u8 (mr K x 64) 64)] ∧ Below w.heap.size w (w10.setCells γ1_1 0 (ints .u8 (mr K x 64) 64))) := ⟨by
    have h := H10.out.1.put 1 (off := 0) (vs := ints .u8 (mr K x 64) 64) rfl (by simp [ints_len])
    rw [ints_patch0 _ _ _ _] at h
    exact h, below_setCells _ o1_1.out _ _ _ H10.out.2⟩
  clear H10
  generalize hgw : World.setCells _ _ _ _ = w11 at H11 ⊢
  clear hgw
  refine rest_nil (then_normal (wp_ret ?_))
  repeat (first | refine then_ret ?_ | refine block_ret ?_)
  have hf0 := var_T H11.out.1 1 rfl Tryd.isAgg86 Tryd.sizeOf86 (ints_len _ _ _)
  refine bodyPost_ret (v := .agg (ints .u8 (mr K x 64) 64).toArray) (by simp [results, Tryd.results62, asAddr, hf0]) rfl ?_
  exact ⟨by rw [ints_mr], H11.out.2⟩
/-- A key's block, as the program fills it. -/
def kf (f : Nat → Nat) (n : Nat) : Nat → Nat := if 64 < n then pr8 (fun _ => 0) 0 32 (dg0 f n) else pr8 (fun _ => 0) 0 n f
set_option maxHeartbeats 1000000 in
set_option maxRecDepth 100000 in
theorem filled_long (gb o n cp : Nat) (p : Option Addr) (f : Nat → Nat) (hv0 : Bv gb o n cp 0 (.slice p n cp)) (hcp : n ≤ cp) (hb : n < 4611686018427387904) (h64 : 64 < n) (w : World) (hm : Mm w [(0, ints .u32 fT 8), (1, ints .u32 kT 64)]) (hR : Rs gb o n f w) :
    Calls Tryd.prog 56 #[.slice p n cp] w fun e w' => e = .returned (.agg (ints .u8 (kf f n) 64).toArray) ∧ Below w.heap.size w w' := by
  have H0 : Hid (_ ∧ _) := ⟨hm, Below.refl w.heap.size w⟩
  clear hm
  have R0 : Hid (Rs gb o n f w) := hR
  have hv : Hid _ := hv0
  clear hR hv0
  go_enter Tryd.func56, Tryd.ntmps56
  refine wp_seq ?_
  refine walk_seqA 1 [.made (ints .u8 (fun _ => 0) 64) 86] (sB H0) ?ho1 ?he1
  case ho1 => exact ak (fun γ => ⟨rfl, fun w' => ex_mk86 rfl⟩) trivial
  intro γ w1 l hM hl
  have H1 : Hid (Mm w1 [(γ 0, ints .u8 (fun _ => 0) 64), (0, ints .u32 fT 8), (1, ints .u32 kT 64)] ∧ _) := growB H0 hM (Nat.le_refl _) hl [0] rfl (by decide)
  have o1_0 := ownB H0 hM (Nat.le_refl _) hl (i := 0) rfl
  clear hM hl l
  generalize γ 0 = γ1_0 at H1 o1_0 ⊢
  clear γ
  refine rest0 rfl (then_normal (wp_seq ?_))
  refine walk_seqA 1 [.made (ints .u8 (fun _ => 0) 64) 86] (sB H1) ?ho2 ?he2
  case ho2 => exact ak (fun γ => ⟨rfl, fun w' => ex_mk86 rfl⟩) trivial
  intro γ w2 l hM hl
  have H2 : Hid (Mm w2 [(γ 0, ints .u8 (fun _ => 0) 64), (γ1_0, ints .u8 (fun _ => 0) 64), (0, ints .u32 fT 8), (1, ints .u32 kT 64)] ∧ _) := growB H1 hM (Nat.le_refl _) hl [0] rfl (by decide)
  have o2_0 := ownB H1 hM (Nat.le_refl _) hl (i := 0) rfl
  clear hM hl l H1
  generalize γ 0 = γ2_0 at H2 o2_0 ⊢
  clear γ
  refine rest0 rfl (then_normal (wp_seq (wp_seq ?_)))
  refine walk_seqB 3 [.quiet (.slice p n cp), .quiet (.int .i64 ((n : Nat) : Int)), .quiet (.bool true)] H2 ?ho3 ?he3
  case ho3 => exact ak (fun _ => ⟨rfl, fun _ _ => rfl⟩) (ak (by refine fun γ => ⟨rfl, fun w' h => ?_⟩; clear h; go_simp) (ak (by refine fun γ => ⟨rfl, fun w' h => ?_⟩; clear h; go_simp <;> omega) trivial))
  intro _ w3 H3
  clear H2
  refine rest0 rfl (then_normal (wp_cond_true rfl (wp_seq ?_)))
  refine (walk_seq) 4 [.quiet (.slice p n cp), .call (.agg (ints .u8 (dg0 f n) 32).toArray), .made (ints .u8 (fun _ => 0) 32) 25, .laid 2 (ints .u8 (fun _ => 0) 32) (ints .u8 (dg0 f n) 32)] (fun u' => Mm u' [(γ2_0, ints .u8 (fun _ => 0) 64), (γ1_0, ints .u8 (fun _ => 0) 64), (0, ints .u32 fT 8), (1, ints .u32 kT 64)] ∧ (Rs gb o n f u')) ?pre4 ?F4 ?hpre4 (fun γ => ?hF4) (by kernel_rfl) ?hL4 ?hS4 ?ho4 ?he4
  case hpre4 => simp only [tk, tz]; rfl
  case hF4 => simp only [fill, Kind.val, Act.put, sa, sz, ss]; rfl
  case hL4 => exact ⟨⟨_, rfl⟩, trivial⟩
  case hS4 => exact fun w' hb => ⟨H3.out.1.below hb, R0.out.below (H3.out.2.trans (hb.mono H3.out.2.size))⟩
  case ho4 =>
    refine ak (fun _ => ⟨rfl, fun _ _ => rfl⟩) ?_
    refine ak (fun γ => ⟨rfl, fun w' hX => have h := hX.1; ⟨14, #[.slice p n cp], exec_call rfl call14 rfl (mpn rfl), Sum_any gb o n cp f _ hv.out hcp (by omega) w' (h.two 2 3 rfl rfl (by decide)) hX.2⟩⟩) ?_
    refine ak (fun γ => ⟨rfl, fun w' => ex_mk25 rfl⟩) ?_
    refine ak (fun γ => ⟨rfl, rfl, (ints_len _ _ _).trans (ints_len _ _ _).symm, fun w' h => ex_laidI h Tryd.sizeOf25 rfl rfl rfl⟩) ?_
    exact trivial
  intro γ w4 l hM hl
  have H4 : Hid (Mm w4 [(γ 2, ints .u8 (dg0 f n) 32), (γ2_0, ints .u8 (fun _ => 0) 64), (γ1_0, ints .u8 (fun _ => 0) 64), (0, ints .u32 fT 8), (1, ints .u32 kT 64)] ∧ _) := growB H3 hM (Nat.le_refl _) hl [2] rfl (by decide)
  have o4_2 := ownB H3 hM (Nat.le_refl _) hl (i := 2) rfl
  clear hM hl l H3
  generalize γ 2 = γ4_2 at H4 o4_2 ⊢
  clear γ
  refine rest0 rfl (then_normal ?_)
  refine walk_anyB 2 [.quiet (.slice (some ⟨γ2_0, 0, none⟩) 64 64), .quiet (.slice (some ⟨γ4_2, 0, none⟩) 32 32)] H4 ?ho5 ?he5
  case ho5 => exact ak (fun γ => ⟨rfl, fun w' _ => ex_sl86 rfl rfl⟩) (ak (fun γ => ⟨rfl, fun w' _ => ex_sl25 rfl rfl⟩) trivial)
  intro _ w5 H5
  clear H4
  refine rest_at (l := [2]) rfl ?_
  refine rest_set (d := 12) (v := .int .i64 ((32 : Nat) : Int)) (w' := (w5.setCells γ2_0 0 (ints .u8 (dg0 f n) 32))) rfl rfl rfl (ex_copyR (sn := 32) H5.out.1 1 rfl (fun j hj => by have := (H5.out.1.rs 0 rfl (Nat.le_refl _)).at_ j hj; exact this) (by decide) (by omega) rfl rfl rfl) ?_
  simp only [Act.put, sa, sz, ss]
  have H6 : Hid (Mm (w5.setCells γ2_0 0 (ints .u8 (dg0 f n) 32)) [(γ4_2, ints .u8 (dg0 f n) 32), (γ2_0, ints .u8 (pr8 (fun _ => 0) 0 32 (dg0 f n)) 64), (γ1_0, ints .u8 (fun _ => 0) 64), (0, ints .u32 fT 8), (1, ints .u32 kT 64)] ∧ Below w.heap.size w (w5.setCells γ2_0 0 (ints .u8 (dg0 f n) 32))) := ⟨by
    have h := H5.out.1.put 1 (off := 0) (vs := ints .u8 (dg0 f n) 32) rfl (by rw [ints_len, ints_len]; omega)
    rw [ints_pr8 _ _ _ _ _ (by omega)] at h
    exact h, below_setCells _ o2_0.out _ _ _ H5.out.2⟩
  clear H5
  generalize hgw : World.setCells _ _ _ _ = w6 at H6 ⊢
  clear hgw
  refine rest_nil (then_normal (wp_seq ?_))
  refine walk_seqB 1 [.quiet (.agg (ints .u8 (pr8 (fun _ => 0) 0 32 (dg0 f n)) 64).toArray)] H6 ?ho6 ?he6
  case ho6 => exact ak (fun γ => ⟨rfl, fun w' h => ex_loadT h 1 rfl rfl rfl Tryd.isAgg86 Tryd.sizeOf86 (ints_whole _ _ _) (ints_len _ _ _)⟩) trivial
  intro _ w7 H7
  clear H6
  refine rest_at (l := [1]) rfl ?_
  refine rest_store rfl rfl rfl (ex_storeT (vs := ints .u8 (pr8 (fun _ => 0) 0 32 (dg0 f n)) 64) H7.out.1 2 rfl rfl rfl rfl (by rw [ints_len]; exact Tryd.sizeOf86) (ints_all _ _ _) (by simp [ints_len])) ?_
  have H8 : Hid (Mm (w7.setCells γ1_0 0 (ints .u8 (pr8 (fun _ => 0) 0 32 (dg0 f n)) 64)) [(γ4_2, ints .u8 (dg0 f n) 32), (γ2_0, ints .u8 (pr8 (fun _ => 0) 0 32 (dg0 f n)) 64), (γ1_0, ints .u8 (pr8 (fun _ => 0) 0 32 (dg0 f n)) 64), (0, ints .u32 fT 8), (1, ints .u32 kT 64)] ∧ Below w.heap.size w (w7.setCells γ1_0 0 (ints .u8 (pr8 (fun _ => 0) 0 32 (dg0 f n)) 64))) := ⟨by
    have h := H7.out.1.put 2 (off := 0) (vs := ints .u8 (pr8 (fun _ => 0) 0 32 (dg0 f n)) 64) rfl (by simp [ints_len])
    rw [ints_patch0 _ _ _ _] at h
    exact h, below_setCells _ o1_0.out _ _ _ H7.out.2⟩
  clear H7
  generalize hgw : World.setCells _ _ _ _ = w8 at H8 ⊢
  clear hgw
  refine rest_nil (then_normal (wp_ret ?_))
  repeat (first | refine then_ret ?_ | refine block_ret ?_)
  have hf0 := var_T H8.out.1 2 rfl Tryd.isAgg86 Tryd.sizeOf86 (ints_len _ _ _)
  refine bodyPost_ret (v := .agg (ints .u8 (pr8 (fun _ => 0) 0 32 (dg0 f n)) 64).toArray) (by simp [results, Tryd.results56, asAddr, hf0]) rfl ?_
  exact ⟨by rw [kf, if_pos h64], H8.out.2⟩
set_option maxHeartbeats 1000000 in
set_option maxRecDepth 100000 in
theorem filled_short (gb o n cp : Nat) (f : Nat → Nat) (h64 : n ≤ 64) (w : World) (hR : Rs gb o n f w) :
    Calls Tryd.prog 56 #[.slice (some ⟨gb, o, none⟩) n cp] w fun e w' => e = .returned (.agg (ints .u8 (kf f n) 64).toArray) ∧ Below w.heap.size w w' := by
  have H0 : Hid (_ ∧ _) := ⟨Mm.nil w, Below.refl w.heap.size w⟩
  have R0 : Hid (Rs gb o n f w) := hR
  clear hR
  go_enter Tryd.func56, Tryd.ntmps56
  refine wp_seq ?_
  refine walk_seqA 1 [.made (ints .u8 (fun _ => 0) 64) 86] (sB H0) ?ho1 ?he1
  case ho1 => exact ak (fun γ => ⟨rfl, fun w' => ex_mk86 rfl⟩) trivial
  intro γ w1 l hM hl
  have H1 : Hid (Mm w1 [(γ 0, ints .u8 (fun _ => 0) 64)] ∧ _) := growB H0 hM (Nat.le_refl _) hl [0] rfl (by decide)
  have o1_0 := ownB H0 hM (Nat.le_refl _) hl (i := 0) rfl
  clear hM hl l
  generalize γ 0 = γ1_0 at H1 o1_0 ⊢
  clear γ
  refine rest0 rfl (then_normal (wp_seq ?_))
  refine walk_seqA 1 [.made (ints .u8 (fun _ => 0) 64) 86] (sB H1) ?ho2 ?he2
  case ho2 => exact ak (fun γ => ⟨rfl, fun w' => ex_mk86 rfl⟩) trivial
  intro γ w2 l hM hl
  have H2 : Hid (Mm w2 [(γ 0, ints .u8 (fun _ => 0) 64), (γ1_0, ints .u8 (fun _ => 0) 64)] ∧ _) := growB H1 hM (Nat.le_refl _) hl [0] rfl (by decide)
  have o2_0 := ownB H1 hM (Nat.le_refl _) hl (i := 0) rfl
  clear hM hl l H1
  generalize γ 0 = γ2_0 at H2 o2_0 ⊢
  clear γ
  refine rest0 rfl (then_normal (wp_seq (wp_seq ?_)))
  refine walk_seqB 3 [.quiet (.slice (some ⟨gb, o, none⟩) n cp), .quiet (.int .i64 ((n : Nat) : Int)), .quiet (.bool false)] H2 ?ho3 ?he3
  case ho3 => exact ak (fun _ => ⟨rfl, fun _ _ => rfl⟩) (ak (by refine fun γ => ⟨rfl, fun w' h => ?_⟩; clear h; go_simp) (ak (by refine fun γ => ⟨rfl, fun w' h => ?_⟩; clear h; go_simp <;> omega) trivial))
  intro _ w3 H3
  clear H2
  refine rest0 rfl (then_normal (wp_cond_false rfl ?_))
  refine walk_seqB 2 [.quiet (.slice (some ⟨γ2_0, 0, none⟩) 64 64), .quiet (.slice (some ⟨gb, o, none⟩) n cp)] H3 ?ho4 ?he4
  case ho4 => exact ak (fun γ => ⟨rfl, fun w' _ => ex_sl86 rfl rfl⟩) (ak (fun _ => ⟨rfl, fun _ _ => rfl⟩) trivial)
  intro _ w4 H4
  clear H3
  refine rest_at (l := [2]) rfl ?_
  refine rest_set (d := 15) (v := .int .i64 ((n : Nat) : Int)) (w' := (w4.setCells γ2_0 0 (ints .u8 f n))) rfl rfl rfl (ex_copyR (sn := n) H4.out.1 0 rfl (fun j hj => (R0.out.below H4.out.2).at_ j hj) ((Nat.min_eq_left h64).symm) (by omega) rfl rfl rfl) ?_
  simp only [Act.put, sa, sz, ss]
  have H5 : Hid (Mm (w4.setCells γ2_0 0 (ints .u8 f n)) [(γ2_0, ints .u8 (pr8 (fun _ => 0) 0 n f) 64), (γ1_0, ints .u8 (fun _ => 0) 64)] ∧ Below w.heap.size w (w4.setCells γ2_0 0 (ints .u8 f n))) := ⟨by
    have h := H4.out.1.put 0 (off := 0) (vs := ints .u8 f n) rfl (by rw [ints_len, ints_len]; omega)
    rw [ints_pr8 _ _ _ _ _ (by omega)] at h
    exact h, below_setCells _ o2_0.out _ _ _ H4.out.2⟩
  clear H4
  generalize hgw : World.setCells _ _ _ _ = w5 at H5 ⊢
  clear hgw
  refine rest_nil (then_normal (wp_seq ?_))
  refine walk_seqB 1 [.quiet (.agg (ints .u8 (pr8 (fun _ => 0) 0 n f) 64).toArray)] H5 ?ho5 ?he5
  case ho5 => exact ak (fun γ => ⟨rfl, fun w' h => ex_loadT h 0 rfl rfl rfl Tryd.isAgg86 Tryd.sizeOf86 (ints_whole _ _ _) (ints_len _ _ _)⟩) trivial
  intro _ w6 H6
  clear H5
  refine rest_at (l := [1]) rfl ?_
  refine rest_store rfl rfl rfl (ex_storeT (vs := ints .u8 (pr8 (fun _ => 0) 0 n f) 64) H6.out.1 1 rfl rfl rfl rfl (by rw [ints_len]; exact Tryd.sizeOf86) (ints_all _ _ _) (by simp [ints_len])) ?_
  have H7 : Hid (Mm (w6.setCells γ1_0 0 (ints .u8 (pr8 (fun _ => 0) 0 n f) 64)) [(γ2_0, ints .u8 (pr8 (fun _ => 0) 0 n f) 64), (γ1_0, ints .u8 (pr8 (fun _ => 0) 0 n f) 64)] ∧ Below w.heap.size w (w6.setCells γ1_0 0 (ints .u8 (pr8 (fun _ => 0) 0 n f) 64))) := ⟨by
    have h := H6.out.1.put 1 (off := 0) (vs := ints .u8 (pr8 (fun _ => 0) 0 n f) 64) rfl (by simp [ints_len])
    rw [ints_patch0 _ _ _ _] at h
    exact h, below_setCells _ o1_0.out _ _ _ H6.out.2⟩
  clear H6
  generalize hgw : World.setCells _ _ _ _ = w7 at H7 ⊢
  clear hgw
  refine rest_nil (then_normal (wp_ret ?_))
  repeat (first | refine then_ret ?_ | refine block_ret ?_)
  have hf0 := var_T H7.out.1 1 rfl Tryd.isAgg86 Tryd.sizeOf86 (ints_len _ _ _)
  refine bodyPost_ret (v := .agg (ints .u8 (pr8 (fun _ => 0) 0 n f) 64).toArray) (by simp [results, Tryd.results56, asAddr, hf0]) rfl ?_
  exact ⟨by rw [kf, if_neg (by omega)], H7.out.2⟩
set_option maxHeartbeats 1000000 in
set_option maxRecDepth 100000 in
theorem filled_void (p : Option Addr) (cp : Nat) (f : Nat → Nat) (w : World) :
    Calls Tryd.prog 56 #[.slice p 0 cp] w fun e w' => e = .returned (.agg (ints .u8 (kf f 0) 64).toArray) ∧ Below w.heap.size w w' := by
  have H0 : Hid (_ ∧ _) := ⟨Mm.nil w, Below.refl w.heap.size w⟩
  go_enter Tryd.func56, Tryd.ntmps56
  refine wp_seq ?_
  refine walk_seqA 1 [.made (ints .u8 (fun _ => 0) 64) 86] (sB H0) ?ho1 ?he1
  case ho1 => exact ak (fun γ => ⟨rfl, fun w' => ex_mk86 rfl⟩) trivial
  intro γ w1 l hM hl
  have H1 : Hid (Mm w1 [(γ 0, ints .u8 (fun _ => 0) 64)] ∧ _) := growB H0 hM (Nat.le_refl _) hl [0] rfl (by decide)
  have o1_0 := ownB H0 hM (Nat.le_refl _) hl (i := 0) rfl
  clear hM hl l
  generalize γ 0 = γ1_0 at H1 o1_0 ⊢
  clear γ
  refine rest0 rfl (then_normal (wp_seq ?_))
  refine walk_seqA 1 [.made (ints .u8 (fun _ => 0) 64) 86] (sB H1) ?ho2 ?he2
  case ho2 => exact ak (fun γ => ⟨rfl, fun w' => ex_mk86 rfl⟩) trivial
  intro γ w2 l hM hl
  have H2 : Hid (Mm w2 [(γ 0, ints .u8 (fun _ => 0) 64), (γ1_0, ints .u8 (fun _ => 0) 64)] ∧ _) := growB H1 hM (Nat.le_refl _) hl [0] rfl (by decide)
  have o2_0 := ownB H1 hM (Nat.le_refl _) hl (i := 0) rfl
  clear hM hl l H1
  generalize γ 0 = γ2_0 at H2 o2_0 ⊢
  clear γ
  refine rest0 rfl (then_normal (wp_seq (wp_seq ?_)))
  refine walk_seqB 3 [.quiet (.slice p 0 cp), .quiet (.int .i64 0), .quiet (.bool false)] H2 ?ho3 ?he3
  case ho3 => exact ak (fun _ => ⟨rfl, fun _ _ => rfl⟩) (ak (by refine fun γ => ⟨rfl, fun w' h => ?_⟩; clear h; go_simp) (ak (by refine fun γ => ⟨rfl, fun w' h => ?_⟩; clear h; go_simp <;> omega) trivial))
  intro _ w3 H3
  clear H2
  refine rest0 rfl (then_normal (wp_cond_false rfl ?_))
  refine walk_seqB 2 [.quiet (.slice (some ⟨γ2_0, 0, none⟩) 64 64), .quiet (.slice p 0 cp)] H3 ?ho4 ?he4
  case ho4 => exact ak (fun γ => ⟨rfl, fun w' _ => ex_sl86 rfl rfl⟩) (ak (fun _ => ⟨rfl, fun _ _ => rfl⟩) trivial)
  intro _ w4 H4
  clear H3
  refine rest_at (l := [2]) rfl ?_
  refine rest_set (d := 15) (v := .int .i64 0) (w' := w4) rfl rfl rfl (ex_copy0 rfl rfl rfl) ?_
  simp only [Act.put, sa, sz, ss]
  refine rest_nil (then_normal (wp_seq ?_))
  refine walk_seqB 1 [.quiet (.agg (ints .u8 (fun _ => 0) 64).toArray)] H4 ?ho5 ?he5
  case ho5 => exact ak (fun γ => ⟨rfl, fun w' h => ex_loadT h 0 rfl rfl rfl Tryd.isAgg86 Tryd.sizeOf86 (ints_whole _ _ _) (ints_len _ _ _)⟩) trivial
  intro _ w6 H6
  clear H4
  refine rest_at (l := [1]) rfl ?_
  refine rest_store rfl rfl rfl (ex_storeT (vs := ints .u8 (fun _ => 0) 64) H6.out.1 1 rfl rfl rfl rfl (by rw [ints_len]; exact Tryd.sizeOf86) (ints_all _ _ _) (by simp [ints_len])) ?_
  have H7 : Hid (Mm (w6.setCells γ1_0 0 (ints .u8 (fun _ => 0) 64)) [(γ2_0, ints .u8 (fun _ => 0) 64), (γ1_0, ints .u8 (fun _ => 0) 64)] ∧ Below w.heap.size w (w6.setCells γ1_0 0 (ints .u8 (fun _ => 0) 64))) := ⟨by
    have h := H6.out.1.put 1 (off := 0) (vs := ints .u8 (fun _ => 0) 64) rfl (by simp [ints_len])
    rw [ints_patch0 _ _ _ _] at h
    exact h, below_setCells _ o1_0.out _ _ _ H6.out.2⟩
  clear H6
  generalize hgw : World.setCells _ _ _ _ = w7 at H7 ⊢
  clear hgw
  refine rest_nil (then_normal (wp_ret ?_))
  repeat (first | refine then_ret ?_ | refine block_ret ?_)
  have hf0 := var_T H7.out.1 1 rfl Tryd.isAgg86 Tryd.sizeOf86 (ints_len _ _ _)
  refine bodyPost_ret (v := .agg (ints .u8 (fun _ => 0) 64).toArray) (by simp [results, Tryd.results56, asAddr, hf0]) rfl ?_
  exact ⟨by rw [kf, if_neg (by decide), pr8_zero], H7.out.2⟩
/-- A key's block. -/
theorem kfilled_any (gb o n cp : Nat) (p : Option Addr) (f : Nat → Nat) (hv : Bv gb o n cp 0 (.slice p n cp)) (hcp : n ≤ cp) (hb : n < 4611686018427387904) (w : World) (hm : Mm w [(0, ints .u32 fT 8), (1, ints .u32 kT 64)]) (hR : Rs gb o n f w) : Calls Tryd.prog 56 #[.slice p n cp] w fun e w' => e = .returned (.agg (ints .u8 (kf f n) 64).toArray) ∧ Below w.heap.size w w' := by
  by_cases h64 : 64 < n
  · exact filled_long gb o n cp p f hv hcp hb h64 w hm hR
  · rcases Nat.eq_zero_or_pos n with h0 | h0
    · subst h0
      exact filled_void p cp f w
    · have e := hv.1 h0
      rw [Nat.add_zero, Nat.sub_zero, Nat.sub_zero] at e
      rw [e]
      exact filled_short gb o n cp f (by omega) w hR
end Rg
end Go.Proofs.YtolflfjfegngnaaDoor
end
section
namespace Go.Proofs.YtolflfjfegngnaaDoor
open Go.RowKit
namespace Rg
set_option maxRecDepth 100000
/-- The hash's state behind a block and k parts. -/
def sq (K : Nat → Nat) (P : Nat → Pt8) : Nat → Hq
  | 0 => hby K ⟨fT, fun _ => 0, 0⟩ 64
  | k + 1 => hby (P k).f (sq K P k) (P k).n
/-- The digest of a block and m parts. -/
def sd (K : Nat → Nat) (P : Nat → Pt8) (m : Nat) : Nat → Nat := fz (sq K P m).s (sq K P m).r (sq K P m).c
/-- The code of m parts under a block. -/
def cd (K : Nat → Nat) (P : Nat → Pt8) (m : Nat) : Nat → Nat :=
  fz (hby (sd (mk8 K 54) P m) (hby (mk8 K 92) ⟨fT, fun _ => 0, 0⟩ 64) 32).s (hby (sd (mk8 K 54) P m) (hby (mk8 K 92) ⟨fT, fun _ => 0, 0⟩ 64) 32).r (hby (sd (mk8 K 54) P m) (hby (mk8 K 92) ⟨fT, fun _ => 0, 0⟩ 64) 32).c
/-- How many bytes k parts have. -/
def tn (P : Nat → Pt8) : Nat → Nat
  | 0 => 0
  | k + 1 => tn P k + (P k).n
theorem sq_c (K : Nat → Nat) (P : Nat → Pt8) : ∀ k, (sq K P k).c = 64 + tn P k
  | 0 => by show (hby K _ 64).c = _; rw [hby_c]; rfl
  | k + 1 => by show (hby (P k).f (sq K P k) (P k).n).c = 64 + (tn P k + (P k).n); rw [hby_c, sq_c K P k, Nat.add_assoc]
/-- What a list of parts wants: where it lies, and each part's slice. -/
structure Lw (pl : Option Addr) (P : Nat → Pt8) (m : Nat) : Prop where
  p2 : 0 < m → ∃ g o, pl = some ⟨g, o, none⟩
  bv : ∀ i, i < m → Bv (P i).gb (P i).o (P i).n (P i).cp 0 (.slice (P i).p (P i).n (P i).cp) ∧ (P i).n ≤ (P i).cp
  tl : ∀ i, i < m → 64 + tn P i + (P i).n < 4611686018427387904
  ml : m ≤ 1048576
theorem Ls.mk {w : World} {l : List (Nat × List Value)} {gs : Nat} {vs : List Value} {P : Nat → Pt8} {m : Nat} (h : Mm w l) (k : Nat) (hk : l[k]? = some (gs, vs)) (hv : ∀ i, i < m → vs[i]? = some (.slice (P i).p (P i).n (P i).cp)) (hr : ∀ i, i < m → Rs (P i).gb (P i).o (P i).n (P i).f w) : Ls (some ⟨gs, 0, none⟩) P m w := fun g o e i hi => by
  injection e with e
  injection e with e1 e2
  subst e1 e2
  have hb := h.blk _ (List.mem_of_getElem? hk)
  exact ⟨hb.1, by rw [Nat.zero_add]; exact (hb.2 i _ (hv i hi)).1, hr i hi⟩
theorem Ls.one {w : World} {l : List (Nat × List Value)} {gs : Nat} {q : Pt8} (h : Mm w l) (k : Nat) (hk : l[k]? = some (gs, [.slice q.p q.n q.cp])) (hr : Rs q.gb q.o q.n q.f w) : Ls (some ⟨gs, 0, none⟩) (fun _ => q) 1 w :=
  Ls.mk h k hk (fun i hi => by
    obtain rfl : i = 0 := by omega
    rfl) (fun _ _ => hr)
/-- A part that is a whole row. -/
def pw (g n : Nat) (f : Nat → Nat) : Pt8 := ⟨g, 0, n, n, some ⟨g, 0, none⟩, f⟩
theorem pw_bv (g n : Nat) (f : Nat → Nat) : Bv (pw g n f).gb (pw g n f).o (pw g n f).n (pw g n f).cp 0 (.slice (pw g n f).p (pw g n f).n (pw g n f).cp) ∧ (pw g n f).n ≤ (pw g n f).cp := ⟨Bv.start _ _ _ _, Nat.le_refl _⟩
theorem Lw.one (gs g n : Nat) (f : Nat → Nat) (hn : n ≤ 1048576) : Lw (some ⟨gs, 0, none⟩) (fun _ => pw g n f) 1 :=
  ⟨fun _ => ⟨gs, 0, rfl⟩, fun _ _ => pw_bv g n f, fun i hi => by
    obtain rfl : i = 0 := by omega
    show 64 + 0 + n < _
    omega, by decide⟩
section
variable {ρ : Operand → Value} {o : Oper} {x : Operand} {w : World}
theorem ex_bsL {p : Option Addr} {n c : Nat} (ho : o.op = .buildSlice 29 1 #[(0, x)]) (hx : ρ x = .slice p n c) : (execOp ρ o).run Tryd.prog w = .ok (.value (.slice (some ⟨w.heap.size, 0, none⟩) 1 1)) (w.alloc (.cells ([.slice p n c] : List Value).toArray 22)) := by
  simp only [execOp, ho, List.map_toArray, List.map_cons, List.map_nil, hx]
  kernel_rfl
end
set_option maxHeartbeats 4000000 in
set_option maxRecDepth 100000 in
theorem sum_any (K : Nat → Nat) (pl : Option Addr) (P : Nat → Pt8) (m c2 : Nat) (hw0 : Lw pl P m) (w : World) (hm : Mm w [(0, ints .u32 fT 8), (1, ints .u32 kT 64)]) (hL : Ls pl P m w) :
    Calls Tryd.prog 61 #[.agg (ints .u8 K 64).toArray, .slice pl m c2] w fun e w' => e = .returned (.agg (ints .u8 (sd K P m) 32).toArray) ∧ Below w.heap.size w w' := by
  have H0 : Hid (_ ∧ _) := ⟨hm, Below.refl w.heap.size w⟩
  clear hm
  have hw : Hid _ := hw0
  have LS : Hid (Ls pl P m w) := hL
  have hml := hw0.ml
  clear hw0 hL
  go_enter Tryd.func61, Tryd.ntmps61
  refine wp_seq ?_
  refine walk_seqA 2 [.made (ints .u8 K 64) 86, .made (ints .u8 (fun _ => 0) 32) 25] (sB H0) ?ho1 ?he1
  case ho1 => exact ak (fun γ => ⟨rfl, fun w' => ex_boxT rfl rfl⟩) (ak (fun γ => ⟨rfl, fun w' => ex_mk25 rfl⟩) trivial)
  intro γ w1 l hM hl
  have H1 : Hid (Mm w1 [(γ 0, ints .u8 K 64), (γ 1, ints .u8 (fun _ => 0) 32), (0, ints .u32 fT 8), (1, ints .u32 kT 64)] ∧ _) := growB H0 hM (Nat.le_refl _) hl [0, 1] rfl (by decide)
  have o1_0 := ownB H0 hM (Nat.le_refl _) hl (i := 0) rfl
  have o1_1 := ownB H0 hM (Nat.le_refl _) hl (i := 1) rfl
  clear hM hl l
  generalize γ 0 = γ1_0 at H1 o1_0 ⊢
  generalize γ 1 = γ1_1 at H1 o1_1 ⊢
  clear γ
  refine rest0 rfl (then_normal (wp_seq ?_))
  refine walk_seqA 1 [.born (fun g => PT g 0) (hs true fT (fun _ => 0) 0)] (sB H1) ?ho2 ?he2
  case ho2 => exact ak (fun γ => ⟨rfl, fun w' h => ⟨25, #[], exec_call rfl call25 rfl (mpn rfl), New_any w' (h.one 2 rfl)⟩⟩) trivial
  intro γ w2 l hM hl
  have H2 : Hid (Mm w2 [(γ 0, hs true fT (fun _ => 0) 0), (γ1_0, ints .u8 K 64), (γ1_1, ints .u8 (fun _ => 0) 32), (0, ints .u32 fT 8), (1, ints .u32 kT 64)] ∧ _) := growB H1 hM (Nat.le_refl _) hl [0] rfl (by decide)
  have o2_0 := ownB H1 hM (Nat.le_refl _) hl (i := 0) rfl
  clear hM hl l H1
  generalize γ 0 = γ2_0 at H2 o2_0 ⊢
  clear γ
  refine rest_at (l := [1]) rfl ?_
  refine rest_set (d := 5) rfl rfl rfl rfl ?_
  simp only [Act.put, sa, sz, ss]
  refine rest_nil (then_normal (wp_seq ?_))
  refine walk_seqB 2 [.quiet (PT γ2_0 0), .quiet (.slice (some ⟨γ1_0, 0, none⟩) 64 64)] H2 ?ho3 ?he3
  case ho3 => exact ak (fun _ => ⟨rfl, fun _ _ => rfl⟩) (ak (fun γ => ⟨rfl, fun w' _ => ex_sl86 rfl rfl⟩) trivial)
  intro _ w3 H3
  clear H2
  refine rest_at (l := [2]) rfl ?_
  refine rest_enter (d := 11) (R := fun vv w' => vv = .int .i64 0 ∧ Mm w' [(γ2_0, hs true ((hby K (⟨fT, fun _ => 0, 0⟩ : Hq) 64).s) ((hby K (⟨fT, fun _ => 0, 0⟩ : Hq) 64).r) ((hby K (⟨fT, fun _ => 0, 0⟩ : Hq) 64).c))] ∧ Kp γ2_0 w3 w') rfl rfl rfl (exec_call (args := #[PT γ2_0 0, .slice (some ⟨γ1_0, 0, none⟩) 64 64]) rfl call26 rfl (mpn rfl)) (Calls.mono (Write_ok γ2_0 γ1_0 0 64 64 (⟨fT, fun _ => 0, 0⟩ : Hq) K _ (Bv.start _ _ _ _) (by decide) (by decide) w3 (H3.out.1.two 0 4 rfl rfl (by decide)) (H3.out.1.src 0 1 rfl rfl (by decide) (by decide))) (fun e w2 hh => ⟨_, hh.1, rfl, hh.2⟩)) ?_
  rintro _ w4 ⟨rfl, hn, hp⟩
  have H4 : Hid (Mm w4 [(γ2_0, hs true ((hby K (⟨fT, fun _ => 0, 0⟩ : Hq) 64).s) ((hby K (⟨fT, fun _ => 0, 0⟩ : Hq) 64).r) ((hby K (⟨fT, fun _ => 0, 0⟩ : Hq) 64).c)), (γ1_0, ints .u8 K 64), (γ1_1, ints .u8 (fun _ => 0) 32), (0, ints .u32 fT 8), (1, ints .u32 kT 64)] ∧ Below w.heap.size w w4) := ⟨H3.out.1.change 0 rfl hp hn, Below.kp H3.out.2 hp o2_0.out H3.out.2.size⟩
  clear hn hp H3
  simp only [Act.put, sa, sz, ss]
  refine rest_nil (then_normal ?_)
  refine wp_seq (wp_seq ?_)
  refine walk_seqB 3 [.quiet (.slice pl m c2), .quiet (.int .i64 ((m : Nat) : Int)), .quiet (.int .i64 0)] H4 ?ho4 ?he4
  case ho4 => exact ak (fun _ => ⟨rfl, fun _ _ => rfl⟩) (ak (by refine fun γ => ⟨rfl, fun w' h => ?_⟩; clear h; go_simp) (ak (fun _ => ⟨rfl, fun _ _ => rfl⟩) trivial))
  intro _ w5 H5
  clear H4
  refine rest0 rfl (then_normal (wp_block ?_))
  refine loop_ghost (α := Nat) (fun k a' w' => ∃ s0 : Nat → Value, a' = ⟨#[.agg (ints .u8 K 64).toArray, .slice pl m c2, PT γ1_0 0, undef, PT γ1_1 0, PT γ2_0 0, undef, s0 7, PT γ2_0 0, PT γ2_0 0, .slice (some ⟨γ1_0, 0, none⟩) 64 64, .int .i64 0, .slice pl m c2, .int .i64 ((m : Nat) : Int), .int .i64 ((k : Nat) : Int), s0 15, s0 16, s0 17, s0 18, s0 19, s0 20, s0 21, undef, undef], []⟩ ∧ (Mm w' [(γ2_0, hs true ((sq K P k).s) ((sq K P k).r) ((sq K P k).c)), (γ1_0, ints .u8 K 64), (γ1_1, ints .u8 (fun _ => 0) 32), (0, ints .u32 fT 8), (1, ints .u32 kT 64)] ∧ Below w.heap.size w w') ∧ k ≤ m) (fun k => m - k) 0 ?st0 ?rd0
  case st0 => exact ⟨(slotfn [undef, undef, undef, undef, undef, undef, undef, undef, undef, undef, undef, undef, undef, undef, undef, undef, undef, undef, undef, undef, undef, undef]), rfl, ⟨H5.out.1, H5.out.2⟩, by omega⟩
  intro k a' w6 hI
  obtain ⟨s0, rfl, hMB, hk0⟩ := hI
  have H6 : Hid (_ ∧ _) := hMB
  clear hMB H5
  by_cases hlt : k < m
  · have hrd : True := trivial
    clear hrd
    obtain ⟨g2, o2, e2⟩ := hw.out.p2 (by omega)
    have E2 : Hid (pl = some ⟨g2, o2, none⟩) := e2
    clear e2
    refine wp_seq ?_
    refine walk_seqB 1 [.quiet (.bool true)] H6 ?ho5 ?he5
    case ho5 => exact ak (by refine fun γ => ⟨rfl, fun w' h => ?_⟩; clear h; go_simp <;> omega) trivial
    intro _ w7 H7
    clear H6
    refine rest0 rfl (then_normal (wp_seq ?_))
    refine wp_cond_true rfl (wp_skip ?_)
    refine then_normal (wp_seq ?_)
    refine wp_block (wp_seq ?_)
    refine (walk_seq) 3 [.quiet (PT g2 (o2 + k)), .quiet (.slice (P k).p (P k).n (P k).cp), .quiet (.slice (P k).p (P k).n (P k).cp)] (fun u' => Mm u' [(γ2_0, hs true ((sq K P k).s) ((sq K P k).r) ((sq K P k).c)), (γ1_0, ints .u8 K 64), (γ1_1, ints .u8 (fun _ => 0) 32), (0, ints .u32 fT 8), (1, ints .u32 kT 64)] ∧ (Ls pl P m u')) ?pre6 ?F6 ?hpre6 (fun γ => ?hF6) (by kernel_rfl) ?hL6 ?hS6 ?ho6 ?he6
    case hpre6 => simp only [tk, tz]; rfl
    case hF6 => simp only [fill, Kind.val, Act.put, sa, sz, ss]; rfl
    case hL6 => exact trivial
    case hS6 => exact fun w' hb => ⟨H7.out.1.below hb, LS.out.below (H7.out.2.trans (hb.mono H7.out.2.size))⟩
    case ho6 =>
      refine ak (fun γ => ⟨rfl, fun w' _ => ex_ixP29 (j := k) E2.out rfl rfl rfl (by omega)⟩) ?_
      refine ak (fun γ => ⟨rfl, fun w' hX => ex_ldP (j := k) hX.2 E2.out (by omega) rfl rfl⟩) ?_
      refine ak (fun _ => ⟨rfl, fun _ _ => rfl⟩) ?_
      exact trivial
    intro γ w8 l hM hl
    have H8 := keepB H7 hM.below
    clear hM hl l H7 γ
    refine rest0 rfl (then_normal ?_)
    refine walk_seqB 2 [.quiet (PT γ2_0 0), .quiet (.slice (P k).p (P k).n (P k).cp)] H8 ?ho7 ?he7
    case ho7 => exact ak (fun _ => ⟨rfl, fun _ _ => rfl⟩) (ak (fun _ => ⟨rfl, fun _ _ => rfl⟩) trivial)
    intro _ w9 H9
    clear H8
    refine rest_at (l := [2]) rfl ?_
    refine rest_enter (d := 20) (R := fun vv w' => vv = .int .i64 0 ∧ Mm w' [(γ2_0, hs true ((sq K P (k + 1)).s) ((sq K P (k + 1)).r) ((sq K P (k + 1)).c))] ∧ Kp γ2_0 w9 w') rfl rfl rfl (exec_call (args := #[PT γ2_0 0, .slice (P k).p (P k).n (P k).cp]) rfl call26 rfl (mpn rfl)) (Calls.mono (Write_ok γ2_0 (P k).gb (P k).o (P k).n (P k).cp (sq K P k) (P k).f _ (hw.out.bv k hlt).1 (hw.out.bv k hlt).2 (by rw [sq_c]; exact hw.out.tl k hlt) w9 (H9.out.1.two 0 4 rfl rfl (by decide)) ((LS.out g2 o2 E2.out k hlt).2.2.src H9.out.2 o2_0.out)) (fun e w2 hh => ⟨_, hh.1, rfl, hh.2⟩)) ?_
    rintro _ w10 ⟨rfl, hn, hp⟩
    have H10 : Hid (Mm w10 [(γ2_0, hs true ((sq K P (k + 1)).s) ((sq K P (k + 1)).r) ((sq K P (k + 1)).c)), (γ1_0, ints .u8 K 64), (γ1_1, ints .u8 (fun _ => 0) 32), (0, ints .u32 fT 8), (1, ints .u32 kT 64)] ∧ Below w.heap.size w w10) := ⟨H9.out.1.change 0 rfl hp hn, Below.kp H9.out.2 hp o2_0.out H9.out.2.size⟩
    clear hn hp H9
    simp only [Act.put, sa, sz, ss]
    refine rest_nil (block_normal (then_normal ?_))
    refine walk_seqB 1 [.quiet (.int .i64 ((k + 1 : Nat) : Int))] H10 ?ho8 ?he8
    case ho8 => exact ak (by refine fun γ => ⟨rfl, fun w' h => ?_⟩; clear h; go_simp; rw [IntKind.wrap_i64]; omega) trivial
    intro _ w11 H11
    clear H10
    refine rest_at (l := [1]) rfl ?_
    refine rest_set (d := 14) rfl rfl rfl rfl ?_
    simp only [Act.put, sa, sz, ss]
    refine rest_nil (then_normal ?_)
    exact ⟨k + 1, ⟨(slotfn [undef, undef, undef, undef, undef, undef, undef, .slice (P k).p (P k).n (P k).cp, undef, undef, undef, undef, undef, undef, undef, .bool true, PT g2 (o2 + k), .slice (P k).p (P k).n (P k).cp, PT γ2_0 0, .slice (P k).p (P k).n (P k).cp, .int .i64 0, .int .i64 ((k + 1 : Nat) : Int)]), rfl, ⟨H11.out.1, H11.out.2⟩, by omega⟩, by omega⟩
  have hkm : m = k := by omega
  subst hkm
  refine wp_seq ?_
  refine walk_seqB 1 [.quiet (.bool false)] H6 ?ho9 ?he9
  case ho9 => exact ak (by refine fun γ => ⟨rfl, fun w' h => ?_⟩; clear h; go_simp <;> omega) trivial
  intro _ w12 H12
  clear H6
  refine rest0 rfl (then_normal (wp_seq (wp_cond_false rfl ?_)))
  refine wp_exit ?_
  repeat refine then_exit ?_
  refine block_exit ?_
  refine then_normal (wp_seq ?_)
  refine walk_seqB 2 [.quiet (PT γ2_0 0), .call (.agg (ints .u8 (sd K P m) 32).toArray)] H12 ?ho10 ?he10
  case ho10 => exact ak (fun _ => ⟨rfl, fun _ _ => rfl⟩) (ak (fun γ => ⟨rfl, fun w' h => ⟨29, #[PT γ2_0 0], exec_call rfl call29 rfl (mpn rfl), HSum_ok _ (sq K P m) w' (h.two 0 4 rfl rfl (by decide))⟩⟩) trivial)
  intro _ w13 H13
  clear H12
  refine rest_at (l := [2]) rfl ?_
  refine rest_store rfl rfl rfl (ex_storeT (vs := ints .u8 (sd K P m) 32) H13.out.1 2 rfl rfl rfl rfl (by rw [ints_len]; exact Tryd.sizeOf25) (ints_all _ _ _) (by simp [ints_len])) ?_
  have H14 : Hid (Mm (w13.setCells γ1_1 0 (ints .u8 (sd K P m) 32)) [(γ2_0, hs true ((sq K P m).s) ((sq K P m).r) ((sq K P m).c)), (γ1_0, ints .u8 K 64), (γ1_1, ints .u8 (sd K P m) 32), (0, ints .u32 fT 8), (1, ints .u32 kT 64)] ∧ Below w.heap.size w (w13.setCells γ1_1 0 (ints .u8 (sd K P m) 32))) := ⟨by
    have h := H13.out.1.put 2 (off := 0) (vs := ints .u8 (sd K P m) 32) rfl (by simp [ints_len])
    rw [ints_patch0 _ _ _ _] at h
    exact h, below_setCells _ o1_1.out _ _ _ H13.out.2⟩
  clear H13
  generalize hgw : World.setCells _ _ _ _ = w14 at H14 ⊢
  clear hgw
  refine rest_nil (then_normal (wp_ret ?_))
  repeat (first | refine then_ret ?_ | refine block_ret ?_)
  have hf0 := var_T H14.out.1 2 rfl Tryd.isAgg25 Tryd.sizeOf25 (ints_len _ _ _)
  refine bodyPost_ret (v := .agg (ints .u8 (sd K P m) 32).toArray) (by simp [results, Tryd.results61, asAddr, hf0]) rfl ?_
  exact ⟨rfl, H14.out.2⟩
set_option maxHeartbeats 4000000 in
set_option maxRecDepth 100000 in
theorem code_any (K : Nat → Nat) (pl : Option Addr) (P : Nat → Pt8) (m c2 : Nat) (hw0 : Lw pl P m) (w : World) (hm : Mm w [(0, ints .u32 fT 8), (1, ints .u32 kT 64)]) (hL : Ls pl P m w) :
    Calls Tryd.prog 55 #[.agg (ints .u8 K 64).toArray, .slice pl m c2] w fun e w' => e = .returned (.agg (ints .u8 (cd K P m) 32).toArray) ∧ Below w.heap.size w w' := by
  have H0 : Hid (_ ∧ _) := ⟨hm, Below.refl w.heap.size w⟩
  clear hm
  have hw : Hid _ := hw0
  have LS : Hid (Ls pl P m w) := hL
  clear hw0 hL
  go_enter Tryd.func55, Tryd.ntmps55
  refine wp_seq ?_
  refine walk_seqA 2 [.made (ints .u8 K 64) 86, .made (ints .u8 (fun _ => 0) 32) 25] (sB H0) ?ho1 ?he1
  case ho1 => exact ak (fun γ => ⟨rfl, fun w' => ex_boxT rfl rfl⟩) (ak (fun γ => ⟨rfl, fun w' => ex_mk25 rfl⟩) trivial)
  intro γ w1 l hM hl
  have H1 : Hid (Mm w1 [(γ 0, ints .u8 K 64), (γ 1, ints .u8 (fun _ => 0) 32), (0, ints .u32 fT 8), (1, ints .u32 kT 64)] ∧ _) := growB H0 hM (Nat.le_refl _) hl [0, 1] rfl (by decide)
  have o1_0 := ownB H0 hM (Nat.le_refl _) hl (i := 0) rfl
  have o1_1 := ownB H0 hM (Nat.le_refl _) hl (i := 1) rfl
  clear hM hl l
  generalize γ 0 = γ1_0 at H1 o1_0 ⊢
  generalize γ 1 = γ1_1 at H1 o1_1 ⊢
  clear γ
  refine rest0 rfl (then_normal (wp_seq ?_))
  refine (walk_seq) 6 [.quiet (.agg (ints .u8 K 64).toArray), .call (.agg (ints .u8 (mk8 K 54) 64).toArray), .quiet (.slice pl m c2), .call (.agg (ints .u8 (sd (mk8 K 54) P m) 32).toArray), .made (ints .u8 (fun _ => 0) 32) 25, .laid 4 (ints .u8 (fun _ => 0) 32) (ints .u8 (sd (mk8 K 54) P m) 32)] (fun u' => Mm u' [(γ1_0, ints .u8 K 64), (γ1_1, ints .u8 (fun _ => 0) 32), (0, ints .u32 fT 8), (1, ints .u32 kT 64)] ∧ (Ls pl P m u')) ?pre2 ?F2 ?hpre2 (fun γ => ?hF2) (by kernel_rfl) ?hL2 ?hS2 ?ho2 ?he2
  case hpre2 => simp only [tk, tz]; rfl
  case hF2 => simp only [fill, Kind.val, Act.put, sa, sz, ss]; rfl
  case hL2 => exact ⟨⟨_, rfl⟩, trivial⟩
  case hS2 => exact fun w' hb => ⟨H1.out.1.below hb, LS.out.below (H1.out.2.trans (hb.mono H1.out.2.size))⟩
  case ho2 =>
    refine ak (fun γ => ⟨rfl, fun w' hX => have h := hX.1; ex_loadT h 0 rfl rfl rfl Tryd.isAgg86 Tryd.sizeOf86 (ints_whole _ _ _) (ints_len _ _ _)⟩) ?_
    refine ak (fun γ => ⟨rfl, fun w' hX => ⟨62, #[.agg (ints .u8 K 64).toArray, .int .u8 54], exec_call rfl call62 rfl (mpn rfl), masked_any K 54 w'⟩⟩) ?_
    refine ak (fun _ => ⟨rfl, fun _ _ => rfl⟩) ?_
    refine ak (fun γ => ⟨rfl, fun w' hX => have h := hX.1; ⟨61, #[.agg (ints .u8 (mk8 K 54) 64).toArray, .slice pl m c2], exec_call rfl call61 rfl (mpn rfl), sum_any (mk8 K 54) pl P m c2 hw.out w' (h.two 2 3 rfl rfl (by decide)) hX.2⟩⟩) ?_
    refine ak (fun γ => ⟨rfl, fun w' => ex_mk25 rfl⟩) ?_
    refine ak (fun γ => ⟨rfl, rfl, (ints_len _ _ _).trans (ints_len _ _ _).symm, fun w' h => ex_laidI h Tryd.sizeOf25 rfl rfl rfl⟩) ?_
    exact trivial
  intro γ w2 l hM hl
  have H2 : Hid (Mm w2 [(γ 4, ints .u8 (sd (mk8 K 54) P m) 32), (γ1_0, ints .u8 K 64), (γ1_1, ints .u8 (fun _ => 0) 32), (0, ints .u32 fT 8), (1, ints .u32 kT 64)] ∧ _) := growB H1 hM (Nat.le_refl _) hl [4] rfl (by decide)
  have o2_4 := ownB H1 hM (Nat.le_refl _) hl (i := 4) rfl
  clear hM hl l H1
  generalize γ 4 = γ2_4 at H2 o2_4 ⊢
  clear γ
  refine rest0 rfl (then_normal (wp_seq ?_))
  refine walk_anyA 5 [.quiet (.agg (ints .u8 K 64).toArray), .call (.agg (ints .u8 (mk8 K 92) 64).toArray), .quiet (.slice (some ⟨γ2_4, 0, none⟩) 32 32), .row (fun g => .slice (some ⟨g, 0, none⟩) 1 1) ([Value.slice (some ⟨γ2_4, 0, none⟩) 32 32]) 22, .over (.agg (ints .u8 (cd K P m) 32).toArray) 3 ([Value.slice (some ⟨γ2_4, 0, none⟩) 32 32])] (sB H2) ?ho3 ?he3 (hL := ?hL3)
  case hL3 => exact ⟨⟨_, rfl⟩, trivial⟩
  case ho3 => exact ak (fun γ => ⟨rfl, fun w' h => ex_loadT h 1 rfl rfl rfl Tryd.isAgg86 Tryd.sizeOf86 (ints_whole _ _ _) (ints_len _ _ _)⟩) (ak (fun γ => ⟨rfl, fun w' h => ⟨62, #[.agg (ints .u8 K 64).toArray, .int .u8 92], exec_call rfl call62 rfl (mpn rfl), masked_any K 92 w'⟩⟩) (ak (fun γ => ⟨rfl, fun w' _ => ex_sl25 rfl rfl⟩) (ak (fun γ => ⟨rfl, fun w' => ex_bsL rfl rfl⟩) (ak (fun γ => ⟨rfl, fun u w' h0 hge h1 hb hlt => by have h := Mm.over h0 hge h1 hb hlt; exact ⟨61, #[.agg (ints .u8 (mk8 K 92) 64).toArray, .slice (some ⟨(γ 3), 0, none⟩) 1 1], exec_call rfl call61 rfl (mpn rfl), sum_any (mk8 K 92) _ (fun _ => (pw γ2_4 32 (sd (mk8 K 54) P m))) 1 1 (Lw.one _ γ2_4 32 _ (by decide)) w' (h.two 4 5 rfl rfl (by decide)) (Ls.one h 0 rfl (h.rs 1 rfl (Nat.le_refl _)))⟩⟩) trivial))))
  intro γ w3 l hM hl
  have H3 : Hid (Mm w3 [(γ 3, [Value.slice (some ⟨γ2_4, 0, none⟩) 32 32]), (γ2_4, ints .u8 (sd (mk8 K 54) P m) 32), (γ1_0, ints .u8 K 64), (γ1_1, ints .u8 (fun _ => 0) 32), (0, ints .u32 fT 8), (1, ints .u32 kT 64)] ∧ _) := growB H2 hM (Nat.le_refl _) hl [3] rfl (by decide)
  have o3_3 := ownB H2 hM (Nat.le_refl _) hl (i := 3) rfl
  clear hM hl l H2
  generalize γ 3 = γ3_3 at H3 o3_3 ⊢
  clear γ
  refine rest_at (l := [5]) rfl ?_
  refine rest_store rfl rfl rfl (ex_storeT (vs := ints .u8 (cd K P m) 32) H3.out.1 3 rfl rfl rfl rfl (by rw [ints_len]; exact Tryd.sizeOf25) (ints_all _ _ _) (by simp [ints_len])) ?_
  have H4 : Hid (Mm (w3.setCells γ1_1 0 (ints .u8 (cd K P m) 32)) [(γ3_3, [Value.slice (some ⟨γ2_4, 0, none⟩) 32 32]), (γ2_4, ints .u8 (sd (mk8 K 54) P m) 32), (γ1_0, ints .u8 K 64), (γ1_1, ints .u8 (cd K P m) 32), (0, ints .u32 fT 8), (1, ints .u32 kT 64)] ∧ Below w.heap.size w (w3.setCells γ1_1 0 (ints .u8 (cd K P m) 32))) := ⟨by
    have h := H3.out.1.put 3 (off := 0) (vs := ints .u8 (cd K P m) 32) rfl (by simp [ints_len])
    rw [ints_patch0 _ _ _ _] at h
    exact h, below_setCells _ o1_1.out _ _ _ H3.out.2⟩
  clear H3
  generalize hgw : World.setCells _ _ _ _ = w4 at H4 ⊢
  clear hgw
  refine rest_nil (then_normal (wp_ret ?_))
  repeat (first | refine then_ret ?_ | refine block_ret ?_)
  have hf0 := var_T H4.out.1 3 rfl Tryd.isAgg25 Tryd.sizeOf25 (ints_len _ _ _)
  refine bodyPost_ret (v := .agg (ints .u8 (cd K P m) 32).toArray) (by simp [results, Tryd.results55, asAddr, hf0]) rfl ?_
  exact ⟨rfl, H4.out.2⟩
end Rg
end Go.Proofs.YtolflfjfegngnaaDoor
end
