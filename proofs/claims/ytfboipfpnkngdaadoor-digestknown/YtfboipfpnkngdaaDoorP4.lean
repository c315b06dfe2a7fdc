/- Texts of the proof, joined. -/
import Derived.Test.YtfboipfpnkngdaaDoorP3
import Derived.LaidMore
import Derived.Stop.Joined
import Derived.Lib.LaidTab
import Derived.ProofKit
import Derived.OpenShut
import Derived.ChangeSlices
import Derived.Test.YtfboipfpnkngdaaDoorRows
import Derived.Test.YtfboipfpnkngdaaDoorTie
section
namespace Go.Proofs.YtfboipfpnkngdaaDoor
open Go.RowKit
namespace Rg
set_option maxRecDepth 100000
theorem getD_lt {l : List Nat} (h : l.all (fun x => decide (x < 256)) = true) (j : Nat) : l.getD j 0 < 256 := by
  rw [List.all_eq_true] at h
  by_cases hj : j < l.length
  · have e : l.getD j 0 = l[j] := by simp [hj]
    rw [e]
    exact of_decide_eq_true (h _ (List.getElem_mem hj))
  · have e : l.getD j 0 = 0 := by simp [Nat.le_of_not_lt hj]
    rw [e]
    decide
theorem Mm.three {w : World} {l : List (Nat × List Value)} (h : Mm w l) (i j k : Nat) {p q r : Nat × List Value} (hi : l[i]? = some p) (hj : l[j]? = some q) (hk : l[k]? = some r) (hij : i ≠ j) (hik : i ≠ k) (hjk : j ≠ k) : Mm w [p, q, r] := by
  have a := (List.pairwise_cons.1 (h.two i j hi hj hij).nd).1 q (by simp)
  have b := (List.pairwise_cons.1 (h.two i k hi hk hik).nd).1 r (by simp)
  have c := (List.pairwise_cons.1 (h.two j k hj hk hjk).nd).1 r (by simp)
  refine ⟨fun x hx => ?_, by simp [a, b, c]⟩
  rcases List.mem_cons.1 hx with rfl | hx
  · exact h.blk _ (List.mem_of_getElem? hi)
  · rcases List.mem_cons.1 hx with rfl | hx
    · exact h.blk _ (List.mem_of_getElem? hj)
    · rw [List.mem_singleton.1 hx]; exact h.blk _ (List.mem_of_getElem? hk)
theorem Mm.over {u w : World} {l : List (Nat × List Value)} {g : Nat} {cs : List Value} (h0 : Mm u l) (hge : u.heap.size ≤ g) (h1 : Mm w l) (hb : Blk w g cs) (hlt : g < w.heap.size) : Mm w ((g, cs) :: l) :=
  h1.cons hb hlt (fun p hp => by have := (h0.blk p hp).1; omega)
theorem Rs.void (g o : Nat) (f : Nat → Nat) (w : World) : Rs g o 0 f w := ⟨fun h => absurd h (by decide), fun i hi => absurd hi (by omega)⟩
def nN (j : Nat) : Nat := [101, 51, 98, 48, 99, 52, 52, 50, 57, 56, 102, 99, 49, 99, 49, 52, 57, 97, 102, 98, 102, 52, 99, 56, 57, 57, 54, 102, 98, 57, 50, 52, 50, 55, 97, 101, 52, 49, 101, 52, 54, 52, 57, 98, 57, 51, 52, 99, 97, 52, 57, 53, 57, 57, 49, 98, 55, 56, 53, 50, 98, 56, 53, 53].getD j 0
def nA (j : Nat) : Nat := [65, 51, 98, 48, 99, 52, 52, 50, 57, 56, 102, 99, 49, 99, 49, 52, 57, 97, 102, 98, 102, 52, 99, 56, 57, 57, 54, 102, 98, 57, 50, 52, 50, 55, 97, 101, 52, 49, 101, 52, 54, 52, 57, 98, 57, 51, 52, 99, 97, 52, 57, 53, 57, 57, 49, 98, 55, 56, 53, 50, 98, 56, 53, 53].getD j 0
def n3 (j : Nat) : Nat := [51, 98, 48, 99, 52, 52, 50, 57, 56, 102, 99, 49, 99, 49, 52, 57, 97, 102, 98, 102, 52, 99, 56, 57, 57, 54, 102, 98, 57, 50, 52, 50, 55, 97, 101, 52, 49, 101, 52, 54, 52, 57, 98, 57, 51, 52, 99, 97, 52, 57, 53, 57, 57, 49, 98, 55, 56, 53, 50, 98, 56, 53, 53].getD j 0
def bN : ByteArray := ⟨#[101, 51, 98, 48, 99, 52, 52, 50, 57, 56, 102, 99, 49, 99, 49, 52, 57, 97, 102, 98, 102, 52, 99, 56, 57, 57, 54, 102, 98, 57, 50, 52, 50, 55, 97, 101, 52, 49, 101, 52, 54, 52, 57, 98, 57, 51, 52, 99, 97, 52, 57, 53, 57, 57, 49, 98, 55, 56, 53, 50, 98, 56, 53, 53]⟩
def bB : ByteArray := ⟨#[98, 97, 55, 56, 49, 54, 98, 102, 56, 102, 48, 49, 99, 102, 101, 97, 52, 49, 52, 49, 52, 48, 100, 101, 53, 100, 97, 101, 50, 50, 50, 51, 98, 48, 48, 51, 54, 49, 97, 51, 57, 54, 49, 55, 55, 97, 57, 99, 98, 52, 49, 48, 102, 102, 54, 49, 102, 50, 48, 48, 49, 53, 97, 100]⟩
def bA : ByteArray := ⟨#[65, 51, 98, 48, 99, 52, 52, 50, 57, 56, 102, 99, 49, 99, 49, 52, 57, 97, 102, 98, 102, 52, 99, 56, 57, 57, 54, 102, 98, 57, 50, 52, 50, 55, 97, 101, 52, 49, 101, 52, 54, 52, 57, 98, 57, 51, 52, 99, 97, 52, 57, 53, 57, 57, 49, 98, 55, 56, 53, 50, 98, 56, 53, 53]⟩
def b3 : ByteArray := ⟨#[51, 98, 48, 99, 52, 52, 50, 57, 56, 102, 99, 49, 99, 49, 52, 57, 97, 102, 98, 102, 52, 99, 56, 57, 57, 54, 102, 98, 57, 50, 52, 50, 55, 97, 101, 52, 49, 101, 52, 54, 52, 57, 98, 57, 51, 52, 99, 97, 52, 57, 53, 57, 57, 49, 98, 55, 56, 53, 50, 98, 56, 53, 53]⟩
theorem stN : st nN 64 = bN := by kernel_rfl
theorem stA : st nA 64 = bA := by kernel_rfl
theorem st3 : st n3 63 = b3 := by kernel_rfl
theorem parseN (w : World) : Calls Tryd.prog 15 #[.string bN] w fun e w' => e = .returned (.tuple #[.agg (ints .u8 (pa nN 32) 32).toArray, .int .i64 0]) ∧ Below w.heap.size w w' := by
  have h := Parse_ok nN (getD_lt (by decide +kernel)) (by decide +kernel) w
  rw [stN] at h
  exact h
theorem parseA (w : World) : Calls Tryd.prog 15 #[.string bA] w fun e w' => e = .returned (.tuple #[.agg (ints .u8 (fun _ => 0) 32).toArray, .int .i64 4]) ∧ Below w.heap.size w w' := by
  have h := Parse_bad nA (getD_lt (by decide +kernel)) (by decide +kernel) w
  rw [stA] at h
  exact h
theorem parse3 (w : World) : Calls Tryd.prog 15 #[.string b3] w fun e w' => e = .returned (.tuple #[.agg (ints .u8 (fun _ => 0) 32).toArray, .int .i64 4]) ∧ Below w.heap.size w w' := by
  have h := Parse_len n3 63 (getD_lt (by decide +kernel)) (by decide) w
  rw [st3] at h
  exact h
theorem bo_lt (s : Nat → Nat) (n j : Nat) : bo s n j < 256 := by
  have h := bo_get s n (j / 4) (j % 4) (by omega)
  rw [show 4 * (j / 4) + j % 4 = j by omega] at h
  rw [h]
  split
  · exact Nat.mod_lt _ (by decide)
  · decide
theorem fz_lt (s r : Nat → Nat) (c j : Nat) : fz s r c j < 256 := by
  unfold fz
  split
  · exact bo_lt _ _ _
  · split <;> exact bo_lt _ _ _
theorem dg0_lt (f : Nat → Nat) (n j : Nat) : dg0 f n j < 256 := fz_lt _ _ _ _
theorem txt_eq (f : Nat → Nat) (l : List UInt8) (h : (((List.range 64).map fun j => (f j : Int)).map fun n => UInt8.ofNat n.toNat) = l) : st f 64 = ⟨l.toArray⟩ := by
  unfold st strOfNums
  rw [h]
theorem txt0 : st (tx (dg0 (fun _ => 0) 0) 32) 64 = bN := txt_eq _ [101, 51, 98, 48, 99, 52, 52, 50, 57, 56, 102, 99, 49, 99, 49, 52, 57, 97, 102, 98, 102, 52, 99, 56, 57, 57, 54, 102, 98, 57, 50, 52, 50, 55, 97, 101, 52, 49, 101, 52, 54, 52, 57, 98, 57, 51, 52, 99, 97, 52, 57, 53, 57, 57, 49, 98, 55, 56, 53, 50, 98, 56, 53, 53] (by decide +kernel)
theorem txt3 : st (tx (dg0 (fun j => [97, 98, 99].getD j 0) 3) 32) 64 = bB := txt_eq _ [98, 97, 55, 56, 49, 54, 98, 102, 56, 102, 48, 49, 99, 102, 101, 97, 52, 49, 52, 49, 52, 48, 100, 101, 53, 100, 97, 101, 50, 50, 50, 51, 98, 48, 48, 51, 54, 49, 97, 51, 57, 54, 49, 55, 55, 97, 57, 99, 98, 52, 49, 48, 102, 102, 54, 49, 102, 50, 48, 48, 49, 53, 97, 100] (by decide +kernel)
theorem txtH : st (tx (fz (hby (fun j => [98, 99].getD j 0) (hby (fun j => [97].getD j 0) (⟨fT, fun _ => 0, 0⟩ : Hq) 1) 2).s (hby (fun j => [98, 99].getD j 0) (hby (fun j => [97].getD j 0) (⟨fT, fun _ => 0, 0⟩ : Hq) 1) 2).r (hby (fun j => [98, 99].getD j 0) (hby (fun j => [97].getD j 0) (⟨fT, fun _ => 0, 0⟩ : Hq) 1) 2).c) 32) 64 = bB := txt_eq _ [98, 97, 55, 56, 49, 54, 98, 102, 56, 102, 48, 49, 99, 102, 101, 97, 52, 49, 52, 49, 52, 48, 100, 101, 53, 100, 97, 101, 50, 50, 50, 51, 98, 48, 48, 51, 54, 49, 97, 51, 57, 54, 49, 55, 55, 97, 57, 99, 98, 52, 49, 48, 102, 102, 54, 49, 102, 50, 48, 48, 49, 53, 97, 100] (by decide +kernel)
theorem alJ : ((List.range 32).all fun j => decide ((fz (hby (e8 (c64 0) 8) (⟨fT, fun _ => 0, 0⟩ : Hq) 8).s (hby (e8 (c64 0) 8) (⟨fT, fun _ => 0, 0⟩ : Hq) 8).r (hby (e8 (c64 0) 8) (⟨fT, fun _ => 0, 0⟩ : Hq) 8).c) j = (dg0 (fun _ => 0) 8) j)) = true := by decide +kernel
theorem alP : ((List.range 32).all fun j => decide (pa nN 32 j = (dg0 (fun _ => 0) 0) j)) = true := by decide +kernel
section
variable {ρ : Operand → Value} {o : Oper} {x y : Operand} {g : Nat} {w : World}
theorem ex_eqS {a b : ByteArray} (h : a = b) (ho : o.op = .binOp .eql 9 x y 9) (hx : ρ x = .string a) (hy : ρ y = .string b) : (execOp ρ o).run Tryd.prog w = .ok (.value (.bool true)) w := by
  subst h
  simp only [execOp, ho, hx, hy]
  clear ho hx hy
  go_simp
theorem ex_cvS {n c : Nat} (ho : o.op = .convert 22 22 x) (hx : ρ x = .slice (some ⟨g, 0, none⟩) n c) : (execOp ρ o).run Tryd.prog w = .ok (.value (.slice (some ⟨g, 0, none⟩) n c)) (mkw w g) := by
  have h5 : Tryd.prog.underlying 5 = some (.int .u8) := by kernel_rfl
  simp only [execOp, ho, hx]
  unfold mkw
  cases hs : w.shape? g <;> simp [convert, run_underlying Tryd.underlying22, run_underlying h5, markStringish, hs, Result.andThen]
theorem mkw_kp (w : World) (g : Nat) : Kp g w (mkw w g) := by
  obtain ⟨m1, m2, m3, m4, m5⟩ := mkw_heap w g
  exact ⟨m1, m2, m3, by rw [m4]; exact Nat.le_refl _, fun i _ hg => m5 i hg⟩
theorem mkw_mm {cs : List Value} {t : TypeId} (h : w.heap[g]? = some (.cells cs.toArray t (0, 0))) : Mm (mkw w g) [(g, cs)] := by
  refine ⟨fun p hp => ?_, List.pairwise_singleton _ _⟩
  rw [List.mem_singleton.1 hp]
  exact ⟨by rw [(mkw_heap w g).2.2.2.1]; exact (Array.getElem?_eq_some_iff.1 h).1, mkw_blk h⟩
theorem ex_sub1 (ho : o.op = .slice 9 x (some y) none none) (hx : ρ x = .string bN) (hy : ρ y = .int .i64 1) : (execOp ρ o).run Tryd.prog w = .ok (.value (.string b3)) w := by
  simp only [execOp, ho, hx, hy, Option.map_some, Option.map_none]
  kernel_rfl
theorem ex_addA (ho : o.op = .binOp .add 9 x y 9) (hx : ρ x = .string ⟨#[65]⟩) (hy : ρ y = .string b3) : (execOp ρ o).run Tryd.prog w = .ok (.value (.string bA)) w := by
  simp only [execOp, ho, hx, hy]
  kernel_rfl
theorem ex_l1 (ho : o.op = .buildSlice 22 1 #[(0, .const (.int .u8 97))]) (hc : ∀ v, ρ (.const v) = v) : (execOp ρ o).run Tryd.prog w = .ok (.value (.slice (some ⟨w.heap.size, 0, none⟩) 1 1)) (w.alloc (.cells (ints .u8 (fun j => [97].getD j 0) 1).toArray 5)) := by
  simp only [execOp, ho, List.map_toArray, List.map_cons, List.map_nil, hc]
  kernel_rfl
theorem ex_l2 (ho : o.op = .buildSlice 22 2 #[(0, .const (.int .u8 98)), (1, .const (.int .u8 99))]) (hc : ∀ v, ρ (.const v) = v) : (execOp ρ o).run Tryd.prog w = .ok (.value (.slice (some ⟨w.heap.size, 0, none⟩) 2 2)) (w.alloc (.cells (ints .u8 (fun j => [98, 99].getD j 0) 2).toArray 5)) := by
  simp only [execOp, ho, List.map_toArray, List.map_cons, List.map_nil, hc]
  kernel_rfl
theorem ex_l3 (ho : o.op = .buildSlice 22 3 #[(0, .const (.int .u8 97)), (1, .const (.int .u8 98)), (2, .const (.int .u8 99))]) (hc : ∀ v, ρ (.const v) = v) : (execOp ρ o).run Tryd.prog w = .ok (.value (.slice (some ⟨w.heap.size, 0, none⟩) 3 3)) (w.alloc (.cells (ints .u8 (fun j => [97, 98, 99].getD j 0) 3).toArray 5)) := by
  simp only [execOp, ho, List.map_toArray, List.map_cons, List.map_nil, hc]
  kernel_rfl
theorem ex_l29 (ho : o.op = .buildSlice 29 1 #[(0, .const (.slice none 0 0))]) (hc : ∀ v, ρ (.const v) = v) : (execOp ρ o).run Tryd.prog w = .ok (.value (.slice (some ⟨w.heap.size, 0, none⟩) 1 1)) (w.alloc (.cells ([Value.slice none 0 0] : List Value).toArray 22)) := by
  simp only [execOp, ho, List.map_toArray, List.map_cons, List.map_nil, hc]
  kernel_rfl
theorem ex_m8 (ho : o.op = .makeSlice 22 x y) (hx : ρ x = .int .i64 8) (hy : ρ y = .int .i64 8) : (execOp ρ o).run Tryd.prog w = .ok (.value (.slice (some ⟨w.heap.size, 0, none⟩) 8 8)) (w.alloc (.cells (ints .u8 (fun _ => 0) 8).toArray 5)) := by
  simp only [execOp, ho, hx, hy]
  kernel_rfl
end
theorem call14 : ∀ args w, (callFunc 14 args).run Tryd.prog w = .ok (.enter 14 args) w := by intro args w; go_simp
theorem call15 : ∀ args w, (callFunc 15 args).run Tryd.prog w = .ok (.enter 15 args) w := by intro args w; go_simp
theorem call19 : ∀ args w, (callFunc 19 args).run Tryd.prog w = .ok (.enter 19 args) w := by intro args w; go_simp
theorem call21 : ∀ args w, (callFunc 21 args).run Tryd.prog w = .ok (.enter 21 args) w := by intro args w; go_simp
set_option maxHeartbeats 8000000 in
set_option maxRecDepth 100000 in
theorem known_law  (w : World) (hm : Mm w [(0, ints .u32 fT 8), (1, ints .u32 kT 64)]) :
    Calls Tryd.prog 7 #[] w fun e w' => e = .returned (.bool true) ∧ Below w.heap.size w w' := by
  have H0 : Hid (_ ∧ _) := ⟨hm, Below.refl w.heap.size w⟩
  clear hm
  go_enter Tryd.func7, Tryd.ntmps7
  refine wp_seq ?_
  refine walk_seqB 1 [.quiet (.bool false)] H0 ?ho1 ?he1
  case ho1 => exact ak (fun _ => ⟨rfl, fun _ _ => rfl⟩) trivial
  intro _ w1 H1
  refine rest0 rfl (then_normal (wp_seq ?_))
  refine walk_seqB 1 [.quiet (.string bN)] H1 ?ho2 ?he2
  case ho2 => exact ak (fun _ => ⟨rfl, fun _ _ => rfl⟩) trivial
  intro _ w2 H2
  clear H1
  refine rest0 rfl (then_normal (wp_seq ?_))
  refine walk_seqB 1 [.quiet (.string bB)] H2 ?ho3 ?he3
  case ho3 => exact ak (fun _ => ⟨rfl, fun _ _ => rfl⟩) trivial
  intro _ w3 H3
  clear H2
  refine rest0 rfl (then_normal (wp_seq ?_))
  refine walk_seqA 1 [.born (fun g => PT g 0) (hs true fT (fun _ => 0) 0)] (sB H3) ?ho4 ?he4
  case ho4 => exact ak (fun γ => ⟨rfl, fun w' h => ⟨21, #[], exec_call rfl call21 rfl (mpn rfl), New_any w' (h.one 0 rfl)⟩⟩) trivial
  intro γ w4 l hM hl
  have H4 : Hid (Mm w4 [(γ 0, hs true fT (fun _ => 0) 0), (0, ints .u32 fT 8), (1, ints .u32 kT 64)] ∧ _) := growB H3 hM (Nat.le_refl _) hl [0] rfl (by decide)
  have o4_0 := ownB H3 hM (Nat.le_refl _) hl (i := 0) rfl
  clear hM hl l H3
  generalize γ 0 = γ4_0 at H4 o4_0 ⊢
  clear γ
  refine rest_at (l := [1]) rfl ?_
  refine rest_set (d := 3) (v := PT γ4_0 0) (w' := w4) rfl rfl rfl rfl ?_
  simp only [Act.put, sa, sz, ss]
  refine rest_nil (then_normal ?_)
  refine wp_seq (wp_seq ?_)
  refine walk_seqB 4 [.quiet (PT γ4_0 0), .quiet (.bool false), .quiet (.bool false), .quiet (PT γ4_0 0)] H4 ?ho5 ?he5
  case ho5 => exact ak (fun _ => ⟨rfl, fun _ _ => rfl⟩) (ak (by refine fun γ => ⟨rfl, fun w' h => ?_⟩; clear h; go_simp) (ak (fun _ => ⟨rfl, fun _ _ => rfl⟩) (ak (fun _ => ⟨rfl, fun _ _ => rfl⟩) trivial)))
  intro _ w5 H5
  clear H4
  refine rest_at (l := [4, 5, 6, 7, 8, 9, 10, 11, 12, 13, 14, 15]) rfl ?_
  refine rest_set (d := 15) (v := .slice (some ⟨w5.heap.size, 0, none⟩) 1 1) (w' := (w5.alloc (.cells (ints .u8 (fun j => [97].getD j 0) 1 : List Value).toArray 5))) rfl rfl rfl (ex_l1 rfl (fun _ => rfl)) ?_
  simp only [Act.put, sa, sz, ss]
  have o_γs6 : Hid (w.heap.size ≤ w5.heap.size) := H5.out.2.size
  have H6 : Hid (Mm (w5.alloc (.cells (ints .u8 (fun j => [97].getD j 0) 1 : List Value).toArray 5)) ((w5.heap.size, ints .u8 (fun j => [97].getD j 0) 1) :: [(γ4_0, hs true fT (fun _ => 0) 0), (0, ints .u32 fT 8), (1, ints .u32 kT 64)]) ∧ Below w.heap.size w (w5.alloc (.cells (ints .u8 (fun j => [97].getD j 0) 1 : List Value).toArray 5))) := ⟨H5.out.1.alloc _ 5 rfl, H5.out.2.alloc H5.out.2.size _⟩
  have R6 : Hid ((w5.alloc (.cells (ints .u8 (fun j => [97].getD j 0) 1 : List Value).toArray 5)).heap[w5.heap.size]? = some (.cells (ints .u8 (fun j => [97].getD j 0) 1 : List Value).toArray 5 (0, 0))) := heap_alloc_new _ _
  clear H5
  generalize hgw : (w5.alloc (.cells (ints .u8 (fun j => [97].getD j 0) 1 : List Value).toArray 5)) = w6 at H6 R6 ⊢
  clear hgw
  generalize w5.heap.size = γs6 at o_γs6 H6 R6 ⊢
  refine rest_set (d := 16) (v := .slice (some ⟨γs6, 0, none⟩) 1 1) (w' := mkw w6 γs6) rfl rfl rfl (ex_cvS rfl rfl) ?_
  simp only [Act.put, sa, sz, ss]
  have H7 : Hid (Mm (mkw w6 γs6) [(γs6, ints .u8 (fun j => [97].getD j 0) 1), (γ4_0, hs true fT (fun _ => 0) 0), (0, ints .u32 fT 8), (1, ints .u32 kT 64)] ∧ Below w.heap.size w (mkw w6 γs6)) := ⟨by have h := H6.out.1.change 0 rfl (mkw_kp w6 γs6) (mkw_mm R6.out); exact h, Below.kp H6.out.2 (mkw_kp _ _) o_γs6.out H6.out.2.size⟩
  clear H6 R6
  generalize mkw w6 γs6 = w7 at H7 ⊢
  refine rest_enter (d := 17) (R := fun vv w' => vv = .int .i64 0 ∧ Mm w' [(γ4_0, hs true ((hby (fun j => [97].getD j 0) (⟨fT, fun _ => 0, 0⟩ : Hq) 1).s) ((hby (fun j => [97].getD j 0) (⟨fT, fun _ => 0, 0⟩ : Hq) 1).r) ((hby (fun j => [97].getD j 0) (⟨fT, fun _ => 0, 0⟩ : Hq) 1).c))] ∧ Kp γ4_0 w7 w') rfl rfl rfl (exec_call (args := #[PT γ4_0 0, .slice (some ⟨γs6, 0, none⟩) 1 1]) rfl call22 rfl (mpn rfl)) (Calls.mono (Write_ok γ4_0 γs6 0 1 1 (⟨fT, fun _ => 0, 0⟩ : Hq) (fun j => [97].getD j 0) _ (Bv.start _ _ _ _) (by decide) (by decide) w7 (H7.out.1.two 1 3 rfl rfl (by decide)) (H7.out.1.src 1 0 rfl rfl (by decide) (by decide))) (fun e w2 hh => ⟨_, hh.1, rfl, hh.2⟩)) ?_
  rintro _ w8 ⟨rfl, hn, hp⟩
  have H8 : Hid (Mm w8 [(γs6, ints .u8 (fun j => [97].getD j 0) 1), (γ4_0, hs true ((hby (fun j => [97].getD j 0) (⟨fT, fun _ => 0, 0⟩ : Hq) 1).s) ((hby (fun j => [97].getD j 0) (⟨fT, fun _ => 0, 0⟩ : Hq) 1).r) ((hby (fun j => [97].getD j 0) (⟨fT, fun _ => 0, 0⟩ : Hq) 1).c)), (0, ints .u32 fT 8), (1, ints .u32 kT 64)] ∧ Below w.heap.size w w8) := ⟨H7.out.1.change 1 rfl hp hn, Below.kp H7.out.2 hp o4_0.out H7.out.2.size⟩
  clear hn hp H7
  simp only [Act.put, sa, sz, ss]
  refine rest_set (d := 18) (v := .bool false) (w' := w8) rfl rfl rfl (by go_simp) ?_
  simp only [Act.put, sa, sz, ss]
  refine rest_set (d := 19) (v := .bool false) (w' := w8) rfl rfl rfl (by go_simp) ?_
  simp only [Act.put, sa, sz, ss]
  refine rest_set (d := 20) (v := .bool false) (w' := w8) rfl rfl rfl rfl ?_
  simp only [Act.put, sa, sz, ss]
  refine rest_set (d := 21) (v := PT γ4_0 0) (w' := w8) rfl rfl rfl rfl ?_
  simp only [Act.put, sa, sz, ss]
  refine rest_set (d := 22) (v := .slice (some ⟨w8.heap.size, 0, none⟩) 2 2) (w' := (w8.alloc (.cells (ints .u8 (fun j => [98, 99].getD j 0) 2 : List Value).toArray 5))) rfl rfl rfl (ex_l2 rfl (fun _ => rfl)) ?_
  simp only [Act.put, sa, sz, ss]
  have o_γs9 : Hid (w.heap.size ≤ w8.heap.size) := H8.out.2.size
  have H9 : Hid (Mm (w8.alloc (.cells (ints .u8 (fun j => [98, 99].getD j 0) 2 : List Value).toArray 5)) ((w8.heap.size, ints .u8 (fun j => [98, 99].getD j 0) 2) :: [(γs6, ints .u8 (fun j => [97].getD j 0) 1), (γ4_0, hs true ((hby (fun j => [97].getD j 0) (⟨fT, fun _ => 0, 0⟩ : Hq) 1).s) ((hby (fun j => [97].getD j 0) (⟨fT, fun _ => 0, 0⟩ : Hq) 1).r) ((hby (fun j => [97].getD j 0) (⟨fT, fun _ => 0, 0⟩ : Hq) 1).c)), (0, ints .u32 fT 8), (1, ints .u32 kT 64)]) ∧ Below w.heap.size w (w8.alloc (.cells (ints .u8 (fun j => [98, 99].getD j 0) 2 : List Value).toArray 5))) := ⟨H8.out.1.alloc _ 5 rfl, H8.out.2.alloc H8.out.2.size _⟩
  have R9 : Hid ((w8.alloc (.cells (ints .u8 (fun j => [98, 99].getD j 0) 2 : List Value).toArray 5)).heap[w8.heap.size]? = some (.cells (ints .u8 (fun j => [98, 99].getD j 0) 2 : List Value).toArray 5 (0, 0))) := heap_alloc_new _ _
  clear H8
  generalize hgw : (w8.alloc (.cells (ints .u8 (fun j => [98, 99].getD j 0) 2 : List Value).toArray 5)) = w9 at H9 R9 ⊢
  clear hgw
  generalize w8.heap.size = γs9 at o_γs9 H9 R9 ⊢
  refine rest_set (d := 23) (v := .slice (some ⟨γs9, 0, none⟩) 2 2) (w' := mkw w9 γs9) rfl rfl rfl (ex_cvS rfl rfl) ?_
  simp only [Act.put, sa, sz, ss]
  have H10 : Hid (Mm (mkw w9 γs9) [(γs9, ints .u8 (fun j => [98, 99].getD j 0) 2), (γs6, ints .u8 (fun j => [97].getD j 0) 1), (γ4_0, hs true ((hby (fun j => [97].getD j 0) (⟨fT, fun _ => 0, 0⟩ : Hq) 1).s) ((hby (fun j => [97].getD j 0) (⟨fT, fun _ => 0, 0⟩ : Hq) 1).r) ((hby (fun j => [97].getD j 0) (⟨fT, fun _ => 0, 0⟩ : Hq) 1).c)), (0, ints .u32 fT 8), (1, ints .u32 kT 64)] ∧ Below w.heap.size w (mkw w9 γs9)) := ⟨by have h := H9.out.1.change 0 rfl (mkw_kp w9 γs9) (mkw_mm R9.out); exact h, Below.kp H9.out.2 (mkw_kp _ _) o_γs9.out H9.out.2.size⟩
  clear H9 R9
  generalize mkw w9 γs9 = w10 at H10 ⊢
  refine rest_enter (d := 24) (R := fun vv w' => vv = .int .i64 0 ∧ Mm w' [(γ4_0, hs true ((hby (fun j => [98, 99].getD j 0) (hby (fun j => [97].getD j 0) (⟨fT, fun _ => 0, 0⟩ : Hq) 1) 2).s) ((hby (fun j => [98, 99].getD j 0) (hby (fun j => [97].getD j 0) (⟨fT, fun _ => 0, 0⟩ : Hq) 1) 2).r) ((hby (fun j => [98, 99].getD j 0) (hby (fun j => [97].getD j 0) (⟨fT, fun _ => 0, 0⟩ : Hq) 1) 2).c))] ∧ Kp γ4_0 w10 w') rfl rfl rfl (exec_call (args := #[PT γ4_0 0, .slice (some ⟨γs9, 0, none⟩) 2 2]) rfl call22 rfl (mpn rfl)) (Calls.mono (Write_ok γ4_0 γs9 0 2 2 (hby (fun j => [97].getD j 0) (⟨fT, fun _ => 0, 0⟩ : Hq) 1) (fun j => [98, 99].getD j 0) _ (Bv.start _ _ _ _) (by decide) (by rw [hby_c]; decide) w10 (H10.out.1.two 2 4 rfl rfl (by decide)) (H10.out.1.src 2 0 rfl rfl (by decide) (by decide))) (fun e w2 hh => ⟨_, hh.1, rfl, hh.2⟩)) ?_
  rintro _ w11 ⟨rfl, hn, hp⟩
  have H11 : Hid (Mm w11 [(γs9, ints .u8 (fun j => [98, 99].getD j 0) 2), (γs6, ints .u8 (fun j => [97].getD j 0) 1), (γ4_0, hs true ((hby (fun j => [98, 99].getD j 0) (hby (fun j => [97].getD j 0) (⟨fT, fun _ => 0, 0⟩ : Hq) 1) 2).s) ((hby (fun j => [98, 99].getD j 0) (hby (fun j => [97].getD j 0) (⟨fT, fun _ => 0, 0⟩ : Hq) 1) 2).r) ((hby (fun j => [98, 99].getD j 0) (hby (fun j => [97].getD j 0) (⟨fT, fun _ => 0, 0⟩ : Hq) 1) 2).c)), (0, ints .u32 fT 8), (1, ints .u32 kT 64)] ∧ Below w.heap.size w w11) := ⟨H10.out.1.change 2 rfl hp hn, Below.kp H10.out.2 hp o4_0.out H10.out.2.size⟩
  clear hn hp H10
  simp only [Act.put, sa, sz, ss]
  refine rest_set (d := 25) (v := .bool false) (w' := w11) rfl rfl rfl (by go_simp) ?_
  simp only [Act.put, sa, sz, ss]
  refine rest_set (d := 26) (v := .bool false) (w' := w11) rfl rfl rfl (by go_simp) ?_
  simp only [Act.put, sa, sz, ss]
  refine rest_nil (then_normal ?_)
  refine wp_cond_false rfl (wp_skip ?_)
  refine then_normal (wp_seq ?_)
  refine walk_seqA 9 [.quiet (.string bN), .quiet (.string b3), .call (.tuple #[.agg (ints .u8 (fun _ => 0) 32).toArray, .int .i64 4]), .quiet (.tuple #[.agg (ints .u8 (fun _ => 0) 32).toArray, .int .i64 4]), .quiet (.agg (ints .u8 (fun _ => 0) 32).toArray), .quiet (.int .i64 4), .made (ints .u8 (fun _ => 0) 32) 25, .laid 6 (ints .u8 (fun _ => 0) 32) (ints .u8 (fun _ => 0) 32), .quiet (.int .i64 4)] (sB H11) ?ho6 ?he6 (hL := ?hL6)
  case hL6 => exact ⟨⟨_, rfl⟩, trivial⟩
  case ho6 => exact ak (fun _ => ⟨rfl, fun _ _ => rfl⟩) (ak (fun γ => ⟨rfl, fun w' _ => ex_sub1 rfl rfl rfl⟩) (ak (fun γ => ⟨rfl, fun w' h => ⟨15, #[.string b3], exec_call rfl call15 rfl (mpn rfl), parse3 w'⟩⟩) (ak (fun _ => ⟨rfl, fun _ _ => rfl⟩) (ak (by refine fun γ => ⟨rfl, fun w' h => ?_⟩; clear h; go_simp) (ak (by refine fun γ => ⟨rfl, fun w' h => ?_⟩; clear h; go_simp) (ak (fun γ => ⟨rfl, fun w' => ex_mk25 rfl⟩) (ak (fun γ => ⟨rfl, rfl, (ints_len _ _ _).trans (ints_len _ _ _).symm, fun w' h => ex_laidI h Tryd.sizeOf25 rfl rfl rfl⟩) (ak (fun _ => ⟨rfl, fun _ _ => rfl⟩) trivial))))))))
  intro γ w12 l hM hl
  have H12 : Hid (Mm w12 [(γ 6, ints .u8 (fun _ => 0) 32), (γs9, ints .u8 (fun j => [98, 99].getD j 0) 2), (γs6, ints .u8 (fun j => [97].getD j 0) 1), (γ4_0, hs true ((hby (fun j => [98, 99].getD j 0) (hby (fun j => [97].getD j 0) (⟨fT, fun _ => 0, 0⟩ : Hq) 1) 2).s) ((hby (fun j => [98, 99].getD j 0) (hby (fun j => [97].getD j 0) (⟨fT, fun _ => 0, 0⟩ : Hq) 1) 2).r) ((hby (fun j => [98, 99].getD j 0) (hby (fun j => [97].getD j 0) (⟨fT, fun _ => 0, 0⟩ : Hq) 1) 2).c)), (0, ints .u32 fT 8), (1, ints .u32 kT 64)] ∧ _) := growB H11 hM (Nat.le_refl _) hl [6] rfl (by decide)
  have o6_6 := ownB H11 hM (Nat.le_refl _) hl (i := 6) rfl
  clear hM hl l H11
  generalize γ 6 = γ6_6 at H12 o6_6 ⊢
  clear γ
  refine rest0 rfl (then_normal (wp_seq ?_))
  refine walk_seqA 10 [.quiet (.string bN), .quiet (.string b3), .quiet (.string bA), .call (.tuple #[.agg (ints .u8 (fun _ => 0) 32).toArray, .int .i64 4]), .quiet (.tuple #[.agg (ints .u8 (fun _ => 0) 32).toArray, .int .i64 4]), .quiet (.agg (ints .u8 (fun _ => 0) 32).toArray), .quiet (.int .i64 4), .made (ints .u8 (fun _ => 0) 32) 25, .laid 7 (ints .u8 (fun _ => 0) 32) (ints .u8 (fun _ => 0) 32), .quiet (.int .i64 4)] (sB H12) ?ho7 ?he7 (hL := ?hL7)
  case hL7 => exact ⟨⟨_, rfl⟩, trivial⟩
  case ho7 => exact ak (fun _ => ⟨rfl, fun _ _ => rfl⟩) (ak (fun γ => ⟨rfl, fun w' _ => ex_sub1 rfl rfl rfl⟩) (ak (fun γ => ⟨rfl, fun w' _ => ex_addA rfl rfl rfl⟩) (ak (fun γ => ⟨rfl, fun w' h => ⟨15, #[.string bA], exec_call rfl call15 rfl (mpn rfl), parseA w'⟩⟩) (ak (fun _ => ⟨rfl, fun _ _ => rfl⟩) (ak (by refine fun γ => ⟨rfl, fun w' h => ?_⟩; clear h; go_simp) (ak (by refine fun γ => ⟨rfl, fun w' h => ?_⟩; clear h; go_simp) (ak (fun γ => ⟨rfl, fun w' => ex_mk25 rfl⟩) (ak (fun γ => ⟨rfl, rfl, (ints_len _ _ _).trans (ints_len _ _ _).symm, fun w' h => ex_laidI h Tryd.sizeOf25 rfl rfl rfl⟩) (ak (fun _ => ⟨rfl, fun _ _ => rfl⟩) trivial)))))))))
  intro γ w13 l hM hl
  have H13 : Hid (Mm w13 [(γ 7, ints .u8 (fun _ => 0) 32), (γ6_6, ints .u8 (fun _ => 0) 32), (γs9, ints .u8 (fun j => [98, 99].getD j 0) 2), (γs6, ints .u8 (fun j => [97].getD j 0) 1), (γ4_0, hs true ((hby (fun j => [98, 99].getD j 0) (hby (fun j => [97].getD j 0) (⟨fT, fun _ => 0, 0⟩ : Hq) 1) 2).s) ((hby (fun j => [98, 99].getD j 0) (hby (fun j => [97].getD j 0) (⟨fT, fun _ => 0, 0⟩ : Hq) 1) 2).r) ((hby (fun j => [98, 99].getD j 0) (hby (fun j => [97].getD j 0) (⟨fT, fun _ => 0, 0⟩ : Hq) 1) 2).c)), (0, ints .u32 fT 8), (1, ints .u32 kT 64)] ∧ _) := growB H12 hM (Nat.le_refl _) hl [7] rfl (by decide)
  have o7_7 := ownB H12 hM (Nat.le_refl _) hl (i := 7) rfl
  clear hM hl l H12
  generalize γ 7 = γ7_7 at H13 o7_7 ⊢
  clear γ
  refine rest0 rfl (then_normal (wp_seq ?_))
  refine walk_seqA 8 [.quiet (.string bN), .call (.tuple #[.agg (ints .u8 (pa nN 32) 32).toArray, .int .i64 0]), .quiet (.tuple #[.agg (ints .u8 (pa nN 32) 32).toArray, .int .i64 0]), .quiet (.agg (ints .u8 (pa nN 32) 32).toArray), .quiet (.int .i64 0), .made (ints .u8 (fun _ => 0) 32) 25, .laid 5 (ints .u8 (fun _ => 0) 32) (ints .u8 (pa nN 32) 32), .quiet (.int .i64 0)] (sB H13) ?ho8 ?he8 (hL := ?hL8)
  case hL8 => exact ⟨⟨_, rfl⟩, trivial⟩
  case ho8 => exact ak (fun _ => ⟨rfl, fun _ _ => rfl⟩) (ak (fun γ => ⟨rfl, fun w' h => ⟨15, #[.string bN], exec_call rfl call15 rfl (mpn rfl), parseN w'⟩⟩) (ak (fun _ => ⟨rfl, fun _ _ => rfl⟩) (ak (by refine fun γ => ⟨rfl, fun w' h => ?_⟩; clear h; go_simp) (ak (by refine fun γ => ⟨rfl, fun w' h => ?_⟩; clear h; go_simp) (ak (fun γ => ⟨rfl, fun w' => ex_mk25 rfl⟩) (ak (fun γ => ⟨rfl, rfl, (ints_len _ _ _).trans (ints_len _ _ _).symm, fun w' h => ex_laidI h Tryd.sizeOf25 rfl rfl rfl⟩) (ak (fun _ => ⟨rfl, fun _ _ => rfl⟩) trivial)))))))
  intro γ w14 l hM hl
  have H14 : Hid (Mm w14 [(γ 5, ints .u8 (pa nN 32) 32), (γ7_7, ints .u8 (fun _ => 0) 32), (γ6_6, ints .u8 (fun _ => 0) 32), (γs9, ints .u8 (fun j => [98, 99].getD j 0) 2), (γs6, ints .u8 (fun j => [97].getD j 0) 1), (γ4_0, hs true ((hby (fun j => [98, 99].getD j 0) (hby (fun j => [97].getD j 0) (⟨fT, fun _ => 0, 0⟩ : Hq) 1) 2).s) ((hby (fun j => [98, 99].getD j 0) (hby (fun j => [97].getD j 0) (⟨fT, fun _ => 0, 0⟩ : Hq) 1) 2).r) ((hby (fun j => [98, 99].getD j 0) (hby (fun j => [97].getD j 0) (⟨fT, fun _ => 0, 0⟩ : Hq) 1) 2).c)), (0, ints .u32 fT 8), (1, ints .u32 kT 64)] ∧ _) := growB H13 hM (Nat.le_refl _) hl [5] rfl (by decide)
  have o8_5 := ownB H13 hM (Nat.le_refl _) hl (i := 5) rfl
  clear hM hl l H13
  generalize γ 5 = γ8_5 at H14 o8_5 ⊢
  clear γ
  refine rest0 rfl (then_normal (wp_seq ?_))
  refine walk_anyA 54 [.call (.agg (ints .u8 (dg0 (fun _ => 0) 0) 32).toArray), .call (.string (st (tx (dg0 (fun _ => 0) 0) 32) 64)), .quiet (.string bN), .quiet (.bool true), .quiet (.bool true), .row (fun g => .slice (some ⟨g, 0, none⟩) 3 3) (ints .u8 (fun j => [97, 98, 99].getD j 0) 3) 5, .same (fun g => .slice (some ⟨g, 0, none⟩) 3 3) 5, .over (.agg (ints .u8 (dg0 (fun j => [97, 98, 99].getD j 0) 3) 32).toArray) 5 (ints .u8 (fun j => [97, 98, 99].getD j 0) 3), .call (.string (st (tx (dg0 (fun j => [97, 98, 99].getD j 0) 3) 32) 64)), .quiet (.string bB), .quiet (.bool true), .quiet (.bool true), .quiet (.bool true), .quiet (PT γ4_0 0), .call (.agg (ints .u8 (fz (hby (fun j => [98, 99].getD j 0) (hby (fun j => [97].getD j 0) (⟨fT, fun _ => 0, 0⟩ : Hq) 1) 2).s (hby (fun j => [98, 99].getD j 0) (hby (fun j => [97].getD j 0) (⟨fT, fun _ => 0, 0⟩ : Hq) 1) 2).r (hby (fun j => [98, 99].getD j 0) (hby (fun j => [97].getD j 0) (⟨fT, fun _ => 0, 0⟩ : Hq) 1) 2).c) 32).toArray), .call (.string (st (tx (fz (hby (fun j => [98, 99].getD j 0) (hby (fun j => [97].getD j 0) (⟨fT, fun _ => 0, 0⟩ : Hq) 1) 2).s (hby (fun j => [98, 99].getD j 0) (hby (fun j => [97].getD j 0) (⟨fT, fun _ => 0, 0⟩ : Hq) 1) 2).r (hby (fun j => [98, 99].getD j 0) (hby (fun j => [97].getD j 0) (⟨fT, fun _ => 0, 0⟩ : Hq) 1) 2).c) 32) 64)), .quiet (.string bB), .quiet (.bool true), .quiet (.bool true), .quiet (.bool true), .quiet (PT γ4_0 0), .call (.int .i64 3), .quiet (.bool true), .quiet (.bool true), .quiet (.bool true), .call (.agg (ints .u8 (fz fT (fun _ => 0) 0) 32).toArray), .call (.agg (ints .u8 (dg0 (fun _ => 0) 0) 32).toArray), .quiet (.bool true), .quiet (.bool true), .quiet (.bool true), .row (fun g => .slice (some ⟨g, 0, none⟩) 1 1) ([Value.slice none 0 0]) 22, .over (.agg (ints .u8 (fz (hby (e8 (c64 0) 8) (⟨fT, fun _ => 0, 0⟩ : Hq) 8).s (hby (e8 (c64 0) 8) (⟨fT, fun _ => 0, 0⟩ : Hq) 8).r (hby (e8 (c64 0) 8) (⟨fT, fun _ => 0, 0⟩ : Hq) 8).c) 32).toArray) 30 ([Value.slice none 0 0]), .row (fun g => .slice (some ⟨g, 0, none⟩) 8 8) (ints .u8 (fun _ => 0) 8) 5, .over (.agg (ints .u8 (dg0 (fun _ => 0) 8) 32).toArray) 32 (ints .u8 (fun _ => 0) 8), .quiet (.bool true), .quiet (.bool true), .quiet (.bool true), .quiet (.int .i64 4), .quiet (.bool true), .quiet (.bool true), .quiet (.bool true), .quiet (.int .i64 4), .quiet (.bool true), .quiet (.bool true), .quiet (.bool true), .quiet (.int .i64 0), .quiet (.bool true), .quiet (.bool true), .quiet (.bool true), .quiet (.agg (ints .u8 (pa nN 32) 32).toArray), .call (.agg (ints .u8 (dg0 (fun _ => 0) 0) 32).toArray), .quiet (.bool true), .quiet (.bool true), .quiet (.bool true)] (sB H14) ?ho9 ?he9 (hL := ?hL9)
  case hL9 => exact ⟨⟨_, rfl⟩, ⟨_, rfl⟩, ⟨_, rfl⟩, trivial⟩
  case ho9 => exact ak (fun γ => ⟨rfl, fun w' h => ⟨10, #[.slice none 0 0], exec_call rfl call10 rfl (mpn rfl), Sum_any 0 0 0 0 (fun _ => 0) _ (Bv.void _ _ _ _ _) (by decide) (by decide) w' (h.two 6 7 rfl rfl (by decide)) (Rs.void _ _ _ _)⟩⟩) (ak (fun γ => ⟨rfl, fun w' h => ⟨19, #[.agg (ints .u8 (dg0 (fun _ => 0) 0) 32).toArray], exec_call rfl call19 rfl (mpn rfl), Text_any (dg0 (fun _ => 0) 0) (dg0_lt _ _) w'⟩⟩) (ak (fun _ => ⟨rfl, fun _ _ => rfl⟩) (ak (fun γ => ⟨rfl, fun w' _ => ex_eqS txt0 rfl rfl rfl⟩) (ak (fun _ => ⟨rfl, fun _ _ => rfl⟩) (ak (fun γ => ⟨rfl, fun w' => ex_l3 rfl (fun _ => rfl)⟩) (ak (fun γ => ⟨rfl, fun w' _ => ex_cvS rfl rfl⟩) (ak (fun γ => ⟨rfl, fun u w' h0 hge h1 hb hlt => by have h := Mm.over h0 hge h1 hb hlt; exact ⟨10, #[.slice (some ⟨(γ 5), 0, none⟩) 3 3], exec_call rfl call10 rfl (mpn rfl), Sum_any _ 0 3 3 (fun j => [97, 98, 99].getD j 0) _ (Bv.start _ _ _ _) (by decide) (by decide) w' (h.two 7 8 rfl rfl (by decide)) (h.rs 0 rfl (by decide))⟩⟩) (ak (fun γ => ⟨rfl, fun w' h => ⟨19, #[.agg (ints .u8 (dg0 (fun j => [97, 98, 99].getD j 0) 3) 32).toArray], exec_call rfl call19 rfl (mpn rfl), Text_any (dg0 (fun j => [97, 98, 99].getD j 0) 3) (dg0_lt _ _) w'⟩⟩) (ak (fun _ => ⟨rfl, fun _ _ => rfl⟩) (ak (fun γ => ⟨rfl, fun w' _ => ex_eqS txt3 rfl rfl rfl⟩) (ak (by refine fun γ => ⟨rfl, fun w' h => ?_⟩; clear h; go_simp) (ak (fun _ => ⟨rfl, fun _ _ => rfl⟩) (ak (fun _ => ⟨rfl, fun _ _ => rfl⟩) (ak (fun γ => ⟨rfl, fun w' h => ⟨25, #[PT γ4_0 0], exec_call rfl call25 rfl (mpn rfl), HSum_ok _ (hby (fun j => [98, 99].getD j 0) (hby (fun j => [97].getD j 0) (⟨fT, fun _ => 0, 0⟩ : Hq) 1) 2) w' (h.two 5 7 rfl rfl (by decide))⟩⟩) (ak (fun γ => ⟨rfl, fun w' h => ⟨19, #[.agg (ints .u8 (fz (hby (fun j => [98, 99].getD j 0) (hby (fun j => [97].getD j 0) (⟨fT, fun _ => 0, 0⟩ : Hq) 1) 2).s (hby (fun j => [98, 99].getD j 0) (hby (fun j => [97].getD j 0) (⟨fT, fun _ => 0, 0⟩ : Hq) 1) 2).r (hby (fun j => [98, 99].getD j 0) (hby (fun j => [97].getD j 0) (⟨fT, fun _ => 0, 0⟩ : Hq) 1) 2).c) 32).toArray], exec_call rfl call19 rfl (mpn rfl), Text_any (fz (hby (fun j => [98, 99].getD j 0) (hby (fun j => [97].getD j 0) (⟨fT, fun _ => 0, 0⟩ : Hq) 1) 2).s (hby (fun j => [98, 99].getD j 0) (hby (fun j => [97].getD j 0) (⟨fT, fun _ => 0, 0⟩ : Hq) 1) 2).r (hby (fun j => [98, 99].getD j 0) (hby (fun j => [97].getD j 0) (⟨fT, fun _ => 0, 0⟩ : Hq) 1) 2).c) (fz_lt _ _ _) w'⟩⟩) (ak (fun _ => ⟨rfl, fun _ _ => rfl⟩) (ak (fun γ => ⟨rfl, fun w' _ => ex_eqS txtH rfl rfl rfl⟩) (ak (by refine fun γ => ⟨rfl, fun w' h => ?_⟩; clear h; go_simp) (ak (fun _ => ⟨rfl, fun _ _ => rfl⟩) (ak (fun _ => ⟨rfl, fun _ _ => rfl⟩) (ak (fun γ => ⟨rfl, fun w' h => ⟨27, #[PT γ4_0 0], exec_call rfl call27 rfl (mpn rfl), Len_ok _ (hby (fun j => [98, 99].getD j 0) (hby (fun j => [97].getD j 0) (⟨fT, fun _ => 0, 0⟩ : Hq) 1) 2) (by rw [hby_c, hby_c]; decide) w' (h.one 5 rfl)⟩⟩) (ak (by refine fun γ => ⟨rfl, fun w' h => ?_⟩; clear h; go_simp <;> omega) (ak (by refine fun γ => ⟨rfl, fun w' h => ?_⟩; clear h; go_simp) (ak (fun _ => ⟨rfl, fun _ _ => rfl⟩) (ak (fun γ => ⟨rfl, fun w' h => ⟨14, #[.slice none 0 0], exec_call rfl call14 rfl (mpn rfl), Join_none w' (h.two 6 7 rfl rfl (by decide))⟩⟩) (ak (fun γ => ⟨rfl, fun w' h => ⟨10, #[.slice none 0 0], exec_call rfl call10 rfl (mpn rfl), Sum_any 0 0 0 0 (fun _ => 0) _ (Bv.void _ _ _ _ _) (by decide) (by decide) w' (h.two 6 7 rfl rfl (by decide)) (Rs.void _ _ _ _)⟩⟩) (ak (fun γ => ⟨rfl, fun w' _ => ex_eq25 (all_self _ _) rfl rfl rfl⟩) (ak (by refine fun γ => ⟨rfl, fun w' h => ?_⟩; clear h; go_simp) (ak (fun _ => ⟨rfl, fun _ _ => rfl⟩) (ak (fun γ => ⟨rfl, fun w' => ex_l29 rfl (fun _ => rfl)⟩) (ak (fun γ => ⟨rfl, fun u w' h0 hge h1 hb hlt => by have h := Mm.over h0 hge h1 hb hlt; exact ⟨14, #[.slice (some ⟨(γ 30), 0, none⟩) 1 1], exec_call rfl call14 rfl (mpn rfl), Join_one _ w' (h.three 7 8 0 rfl rfl rfl (by decide) (by decide) (by decide))⟩⟩) (ak (fun γ => ⟨rfl, fun w' => ex_m8 rfl rfl rfl⟩) (ak (fun γ => ⟨rfl, fun u w' h0 hge h1 hb hlt => by have h := Mm.over h0 hge h1 hb hlt; exact ⟨10, #[.slice (some ⟨(γ 32), 0, none⟩) 8 8], exec_call rfl call10 rfl (mpn rfl), Sum_any _ 0 8 8 (fun _ => 0) _ (Bv.start _ _ _ _) (by decide) (by decide) w' (h.two 7 8 rfl rfl (by decide)) (h.rs 0 rfl (by decide))⟩⟩) (ak (fun γ => ⟨rfl, fun w' _ => ex_eq25 (alJ) rfl rfl rfl⟩) (ak (by refine fun γ => ⟨rfl, fun w' h => ?_⟩; clear h; go_simp) (ak (fun _ => ⟨rfl, fun _ _ => rfl⟩) (ak (fun _ => ⟨rfl, fun _ _ => rfl⟩) (ak (by refine fun γ => ⟨rfl, fun w' h => ?_⟩; clear h; go_simp) (ak (by refine fun γ => ⟨rfl, fun w' h => ?_⟩; clear h; go_simp) (ak (fun _ => ⟨rfl, fun _ _ => rfl⟩) (ak (fun _ => ⟨rfl, fun _ _ => rfl⟩) (ak (by refine fun γ => ⟨rfl, fun w' h => ?_⟩; clear h; go_simp) (ak (by refine fun γ => ⟨rfl, fun w' h => ?_⟩; clear h; go_simp) (ak (fun _ => ⟨rfl, fun _ _ => rfl⟩) (ak (fun _ => ⟨rfl, fun _ _ => rfl⟩) (ak (by refine fun γ => ⟨rfl, fun w' h => ?_⟩; clear h; go_simp) (ak (by refine fun γ => ⟨rfl, fun w' h => ?_⟩; clear h; go_simp) (ak (fun _ => ⟨rfl, fun _ _ => rfl⟩) (ak (fun γ => ⟨rfl, fun w' h => ex_loadT h 0 rfl rfl rfl Tryd.isAgg25 Tryd.sizeOf25 (ints_whole _ _ _) (ints_len _ _ _)⟩) (ak (fun γ => ⟨rfl, fun w' h => ⟨10, #[.slice none 0 0], exec_call rfl call10 rfl (mpn rfl), Sum_any 0 0 0 0 (fun _ => 0) _ (Bv.void _ _ _ _ _) (by decide) (by decide) w' (h.two 6 7 rfl rfl (by decide)) (Rs.void _ _ _ _)⟩⟩) (ak (fun γ => ⟨rfl, fun w' _ => ex_eq25 (alP) rfl rfl rfl⟩) (ak (by refine fun γ => ⟨rfl, fun w' h => ?_⟩; clear h; go_simp) (ak (fun _ => ⟨rfl, fun _ _ => rfl⟩) trivial)))))))))))))))))))))))))))))))))))))))))))))))))))))
  intro γ w15 l hM hl
  have H15 : Hid (Mm w15 [(γ 5, ints .u8 (fun j => [97, 98, 99].getD j 0) 3), (γ 30, [Value.slice none 0 0]), (γ 32, ints .u8 (fun _ => 0) 8), (γ8_5, ints .u8 (pa nN 32) 32), (γ7_7, ints .u8 (fun _ => 0) 32), (γ6_6, ints .u8 (fun _ => 0) 32), (γs9, ints .u8 (fun j => [98, 99].getD j 0) 2), (γs6, ints .u8 (fun j => [97].getD j 0) 1), (γ4_0, hs true ((hby (fun j => [98, 99].getD j 0) (hby (fun j => [97].getD j 0) (⟨fT, fun _ => 0, 0⟩ : Hq) 1) 2).s) ((hby (fun j => [98, 99].getD j 0) (hby (fun j => [97].getD j 0) (⟨fT, fun _ => 0, 0⟩ : Hq) 1) 2).r) ((hby (fun j => [98, 99].getD j 0) (hby (fun j => [97].getD j 0) (⟨fT, fun _ => 0, 0⟩ : Hq) 1) 2).c)), (0, ints .u32 fT 8), (1, ints .u32 kT 64)] ∧ _) := growB H14 hM (Nat.le_refl _) hl [5, 30, 32] rfl (by decide)
  have o9_5 := ownB H14 hM (Nat.le_refl _) hl (i := 5) rfl
  have o9_30 := ownB H14 hM (Nat.le_refl _) hl (i := 30) rfl
  have o9_32 := ownB H14 hM (Nat.le_refl _) hl (i := 32) rfl
  clear hM hl l H14
  generalize γ 5 = γ9_5 at H15 o9_5 ⊢
  generalize γ 30 = γ9_30 at H15 o9_30 ⊢
  generalize γ 32 = γ9_32 at H15 o9_32 ⊢
  clear γ
  refine rest0 rfl (then_normal (wp_ret ?_))
  repeat (first | refine then_ret ?_ | refine block_ret ?_)
  refine bodyPost_ret (v := .bool true) (by simp [results, Tryd.results7, go_sem, *]) rfl ?_
  exact ⟨rfl, H15.out.2⟩
end Rg
end Go.Proofs.YtfboipfpnkngdaaDoor
end
section
namespace Go.Proofs.YtfboipfpnkngdaaDoor
open Go.ChangeShapes Go.WideShapes Go.ChangeAt Go.RowKit
theorem Tryd.own : ownKnob Tryd.prog.godebug = none := by kernel_rfl
namespace Rg
abbrev laidL : List (String × DataW Unit) := Rows.digestSumsRow.laid
abbrev laidN : List (String × DataW Unit) := Rows.digestNilRow.laid
abbrev nmA : String := match laidL with
  | (n, _) :: _ => n
  | [] => Tryd.f3.name
abbrev nmB : String := match laidN with
  | (n, _) :: _ => n
  | [] => Tryd.f3.name
theorem gA' : Tryd.prog.globalNamed nmA = some 0 := by kernel_rfl
theorem gB' : Tryd.prog.globalNamed nmB = some 1 := by kernel_rfl
theorem tA : (Tryd.prog.globals[0]?).map (·.type) = some 53 := by kernel_rfl
theorem tB : (Tryd.prog.globals[1]?).map (·.type) = some 66 := by kernel_rfl
theorem datA : (Rows.laid_reliquary_digest_first : DataW Unit) = Lib.tabData .u32 ((List.range 8).map fun j => (fT j : Int)) := by kernel_rfl
theorem datB : (Rows.laid_reliquary_digest_rounds : DataW Unit) = Lib.tabData .u32 ((List.range 64).map fun j => (kT j : Int)) := by kernel_rfl
theorem map_ints (f : Nat → Nat) (n : Nat) : (((List.range n).map fun j => (f j : Int)).map fun z => Value.int .u32 z) = ints .u32 f n := by
  unfold ints
  rw [List.map_map]
  rfl
theorem blk_of {W : World} {g n : Nat} {f : Nat → Nat} {nm : String} {cs : Array Value} (hg : Tryd.prog.globalNamed nm = some g) (hv : W.var? Tryd.prog nm = some cs) (hcs : cs.toList = ints .u32 f n) (hn : 0 < n) {ps : List MemPlace} (hpl : ∀ i, i < n → MemPlace.cell g i ∈ ps)
    (hc : ∀ b off, MemPlace.cell b off ∈ ps → (∃ c t, W.heap[b]? = some (.cells c t (0, 0))) ∧ ∀ u v, W.cell? ⟨b, off, Option.none⟩ = some (.iface u v) → Value.okWide Tryd.prog W .any 0 u v) : g < W.heap.size ∧ Blk W g (ints .u32 f n) := by
  obtain ⟨⟨c0, t0, hheap⟩, _⟩ := hc g 0 (hpl 0 hn)
  refine ⟨?_, fun j v hj => ⟨?_, ?_⟩⟩
  · rcases Nat.lt_or_ge g W.heap.size with h' | h'
    · exact h'
    · rw [Array.getElem?_eq_none (by omega)] at hheap; cases hheap
  · rw [World.var?_cell hg hv j]
    rw [← hcs] at hj
    simpa using hj
  · unfold World.frozen?
    rw [hheap]
    simp
set_option maxRecDepth 100000 in
theorem tabs_of_laid {W : World} (h : laidMetH Tryd.prog laidL W) : Mm W [(0, ints .u32 fT 8), (1, ints .u32 kT 64)] := by
  rw [MakeChecks.laidMetH_plain _ _ _ (by kernel_rfl)] at h
  obtain ⟨ps, ⟨g, t, cs, fuel, p, q, hg, ht, hv, hd, ⟨g2, t2, cs2, fuel2, p2, q2, hg2, ht2, hv2, hd2, hq2, hps2⟩, hps⟩, hnd, hc⟩ := h
  obtain rfl := Option.some.inj (gA'.symm.trans hg)
  obtain rfl := Option.some.inj (tA.symm.trans ht)
  obtain rfl := Option.some.inj (gB'.symm.trans hg2)
  obtain rfl := Option.some.inj (tB.symm.trans ht2)
  rw [datA] at hd
  rw [datB] at hd2
  have e1 := Lib.cells_of_tab (P := Tryd.prog) (t := 53) (e := 51) (n := 8) (k := .u32) (by kernel_rfl) (by kernel_rfl) (by kernel_rfl) (by kernel_rfl) hd
  have e2 := Lib.cells_of_tab (P := Tryd.prog) (t := 66) (e := 51) (n := 64) (k := .u32) (by kernel_rfl) (by kernel_rfl) (by kernel_rfl) (by kernel_rfl) hd2
  rw [map_ints] at e1 e2
  have s1 : cs.size = 8 := by rw [← Array.length_toList, e1, ints_len]
  have s2 : cs2.size = 64 := by rw [← Array.length_toList, e2, ints_len]
  have b1 := blk_of (f := fT) (n := 8) hg hv e1 (by decide) (ps := ps) (fun i hi => by
    rw [hps]
    refine List.mem_append_left _ (List.mem_append_left _ ?_)
    unfold MemPlace.row
    simp [s1]
    omega) hc
  have b2 := blk_of (f := kT) (n := 64) hg2 hv2 e2 (by decide) (ps := ps) (fun i hi => by
    rw [hps, hps2]
    refine List.mem_append_right _ (List.mem_append_left _ (List.mem_append_left _ ?_))
    unfold MemPlace.row
    simp [s2]
    omega) hc
  refine ⟨fun pq hpq => ?_, ?_⟩
  · rcases List.mem_cons.1 hpq with rfl | hpq
    · exact b1
    · rw [List.mem_singleton.1 hpq]; exact b2
  · simp
theorem door_met (os : Os) (args : Array Value) : laidMetH Tryd.prog laidL ((World.doorLaid Tryd.prog 400 os).forCall (fun _ _ => 0) ⟨#[], args, []⟩).memory :=
  laidMetH_of_parts3 (fuel := 8) (laidMet_of_run' 8 (by kernel_rfl) (by kernel_rfl)) (by kernel_rfl) (by kernel_rfl)
end Rg
end Go.Proofs.YtfboipfpnkngdaaDoor
end
