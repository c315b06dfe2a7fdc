/- Texts of the proof, joined. -/
import Derived.Test.YtfboipfpnkngdaaDoorP3
import Derived.LaidMore
import Derived.Stop.Joined
import Derived.Lib.LaidTab
import Derived.ProofKit
import Derived.OpenShut
import Derived.ChangeSlices
import Derived.Test.YtfboipfpnkngdaaDoorRows
import Derived.Test.YtfboipfpnkngdaaDoorTie
section
namespace Go.Proofs.YtfboipfpnkngdaaDoor
open Go.RowKit
namespace Rg
set_option maxRecDepth 100000
theorem getD_lt {l : List Nat} (h : l.all (fun x => decide (x < 256)) = true) (j : Nat) : l.getD j 0 < 256 := by
  rw [List.all_eq_true] at h
  by_cases hj : j < l.length
  · have e : l.getD j 0 = l[j] := by simp [hj]
    rw [e]
    exact of_decide_eq_true (h _ (List.getElem_mem hj))
  · have e : l.getD j 0 = 0 := by simp [Nat.le_of_not_lt hj]
    rw [e]
    decide
theorem Mm.three {w : World} {l : List (Nat × List Value)} (h : Mm w l) (i j k : Nat) {p q r : Nat × List Value} (hi : l[i]? = some p) (hj : l[j]? = some q) (hk : l[k]? = some r) (hij : i ≠ j) (hik : i ≠ k) (hjk : j ≠ k) : Mm w [p, q, r] := by
  have a := (List.pairwise_cons.1 (h.two i j hi hj hij).nd).1 q (by simp)
  have b := (List.pairwise_cons.1 (h.two i k hi hk hik).nd).1 r (by simp)
  have c := (List.pairwise_cons.1 (h.two j k hj hk hjk).nd).1 r (by simp)
  refine ⟨fun x hx => ?_, by simp [a, b, c]⟩
  rcases List.mem_cons.1 hx with rfl | hx
  · exact h.blk _ (List.mem_of_getElem? hi)
  · rcases List.mem_cons.1 hx with rfl | hx
    · exact h.blk _ (List.mem_of_getElem? hj)
    · rw [List.mem_singleton.1 hx]; exact h.blk _ (List.mem_of_getElem? hk)
theorem Mm.over {u w : World} {l : List (Nat × List Value)} {g : Nat} {cs : List Value} (h0 : Mm u l) (hge : u.heap.size ≤ g) (h1 : Mm w l) (hb : Blk w g cs) (hlt : g < w.heap.size) : Mm w ((g, cs) :: l) :=
  h1.cons hb hlt (fun p hp => by have := (h0.blk p hp).1; omega)
theorem Rs.void (g o : Nat) (f : Nat → Nat) (w : World) : Rs g o 0 f w := ⟨fun h => absurd h (by decide), fun i hi => absurd hi (by omega)⟩
def nN (j : Nat) : Nat := [101, 51, 98, 48, 99, 52, 52, 50, 57, 56, 102, 99, 49, 99, 49, 52, 57, 97, 102, 98, 102, 52, 99, 56, 57, 57, 54, 102, 98, 57, 50, 52, 50, 55, 97, 101, 52, 49, 101, 52, 54, 52, 57, 98, 57, 51, 52, 99, 97, 52, 57, 53, 57, 57, 49, 98, 55, 56, 53, 50, 98, 56, 53, 53].getD j 0
def nA (j : Nat) : Nat := [65, 51, 98, 48, 99, 52, 52, 50, 57, 56, 102, 99, 49, 99, 49, 52, 57, 97, 102, 98, 102, 52, 99, 56, 57, 57, 54, 102, 98, 57, 50, 52, 50, 55, 97, 101, 52, 49, 101, 52, 54, 52, 57, 98, 57, 51, 52, 99, 97, 52, 57, 53, 57, 57, 49, 98, 55, 56, 53, 50, 98, 56, 53, 53].getD j 0
def n3 (j : Nat) : Nat := [51, 98, 48, 99, 52, 52, 50, 57, 56, 102, 99, 49, 99, 49, 52, 57, 97, 102, 98, 102, 52, 99, 56, 57, 57, 54, 102, 98, 57, 50, 52, 50, 55, 97, 101, 52, 49, 101, 52, 54, 52, 57, 98, 57, 51, 52, 99, 97, 52, 57, 53, 57, 57, 49, 98, 55, 56, 53, 50, 98, 56, 53, 53].getD j 0
def bN : ByteArray := ⟨#[101, 51, 98, 48, 99, 52, 52, 50, 57, 56, 102, 99, 49, 99, 49, 52, 57, 97, 102, 98, 102, 52, 99, 56, 57, 57, 54, 102, 98, 57, 50, 52, 50, 55, 97, 101, 52, 49, 101, 52, 54, 52, 57, 98, 57, 51, 52, 99, 97, 52, 57, 53, 57, 57, 49, 98, 55, 56, 53, 50, 98, 56, 53, 53]⟩
def bB : ByteArray := ⟨#[98, 97, 55, 56, 49, 54, 98, 102, 56, 102, 48, 49, 99, 102, 101, 97, 52, 49, 52, 49, 52, 48, 100, 101, 53, 100, 97, 101, 50, 50, 50, 51, 98, 48, 48, 51, 54, 49, 97, 51, 57, 54, 49, 55, 55, 97, 57, 99, 98, 52, 49, 48, 102, 102, 54, 49, 102, 50, 48, 48, 49, 53, 97, 100]⟩
def bA : ByteArray := ⟨#[65, 51, 98, 48, 99, 52, 52, 50, 57, 56, 102, 99, 49, 99, 49, 52, 57, 97, 102, 98, 102, 52, 99, 56, 57, 57, 54, 102, 98, 57, 50, 52, 50, 55, 97, 101, 52, 49, 101, 52, 54, 52, 57, 98, 57, 51, 52, 99, 97, 52, 57, 53, 57, 57, 49, 98, 55, 56, 53, 50, 98, 56, 53, 53]⟩
def b3 : ByteArray := ⟨#[51, 98, 48, 99, 52, 52, 50, 57, 56, 102, 99, 49, 99, 49, 52, 57, 97, 102, 98, 102, 52, 99, 56, 57, 57, 54, 102, 98, 57, 50, 52, 50, 55, 97, 101, 52, 49, 101, 52, 54, 52, 57, 98, 57, 51, 52, 99, 97, 52, 57, 53, 57, 57, 49, 98, 55, 56, 53, 50, 98, 56, 53, 53]⟩
theorem stN : st nN 64 = bN := by kernel_rfl
theorem stA : st nA 64 = bA := by kernel_rfl
theorem st3 : st n3 63 = b3 := by kernel_rfl
theorem parseN (w : World) : Calls Tryd.prog 15 #[.string bN] w fun e w' => e = .returned (.tuple #[.agg (ints .u8 (pa nN 32) 32).toArray, .int .i64 0]) ∧ Below w.heap.size w w' := by
  have h := Parse_ok nN (getD_lt (by decide +kernel)) (by decide +kernel) w
  rw [stN] at h
  exact h
theorem parseA (w : World) : Calls Tryd.prog 15 #[.string bA] w fun e w' => e = .returned (.tuple #[.agg (ints .u8 (fun _ => 0) 32).toArray, .int .i64 4]) ∧ Below w.heap.size w w' := by
  have h := Parse_bad nA (getD_lt (by decide +kernel)) (by decide +kernel) w
  rw [stA] at h
  exact h
theorem parse3 (w : World) : Calls Tryd.prog 15 #[.string b3] w fun e w' => e = .returned (.tuple #[.agg (ints .u8 (fun _ => 0) 32).toArray, .int .i64 4]) ∧ Below w.heap.size w w' := by
  have h := Parse_len n3 63 (getD_lt (by decide +kernel)) (by decide) w
  rw [st3] at h
  exact h
theorem bo_lt (s : Nat → Nat) (n j : Nat) : bo s n j < 256 := by
  have h := bo_get s n (j / 4) (j % 4) (by omega)
  rw [show 4 * (j / 4) + j % 4 = j by omega] at h
  rw [h]
  split
  · exact Nat.mod_lt _ (by decide)
  · decide
theorem fz_lt (s r : Nat → Nat) (c j : Nat) : fz s r c j < 256 := by
  unfold fz
  split
  · exact bo_lt _ _ _
  · split <;> exact bo_lt _ _ _
theorem dg0_lt (f : Nat → Nat) (n j : Nat) : dg0 f n j < 256 := fz_lt _ _ _ _
theorem txt_eq (f : Nat → Nat) (l : List UInt8) (h : (((List.range 64).map fun j => (f j : Int)).map fun n => UInt8.ofNat n.toNat) = l) : st f 64 = ⟨l.toArray⟩ := by
  unfold st strOfNums
  rw [h]
theorem txt0 : st (tx (dg0 (fun _ => 0) 0) 32) 64 = bN := txt_eq _ [101, 51, 98, 48, 99, 52, 52, 50, 57, 56, 102, 99, 49, 99, 49, 52, 57, 97, 102, 98, 102, 52, 99, 56, 57, 57, 54, 102, 98, 57, 50, 52, 50, 55, 97, 101, 52, 49, 101, 52, 54, 52, 57, 98, 57, 51, 52, 99, 97, 52, 57, 53, 57, 57, 49, 98, 55, 56, 53, 50, 98, 56, 53, 53] (by decide +kernel)
theorem txt3 : st (tx (dg0 (fun j => [97, 98, 99].getD j 0) 3) 32) 64 = bB := txt_eq _ [98, 97, 55, 56, 49, 54, 98, 102, 56, 102, 48, 49, 99, 102, 101, 97, 52, 49, 52, 49, 52, 48, 100, 101, 53, 100, 97, 101, 50, 50, 50, 51, 98, 48, 48, 51, 54, 49, 97, 51, 57, 54, 49, 55, 55, 97, 57, 99, 98, 52, 49, 48, 102, 102, 54, 49, 102, 50, 48, 48, 49, 53, 97, 100] (by decide +kernel)
theorem txtH : st (tx (fz (hby (fun j => [98, 99].getD j 0) (hby (fun j => [97].getD j 0) (⟨fT, fun _ => 0, 0⟩ : Hq) 1) 2).s (hby (fun j => [98, 99].getD j 0) (hby (fun j => [97].getD j 0) (⟨fT, fun _ => 0, 0⟩ : Hq) 1) 2).r (hby (fun j => [98, 99].getD j 0) (hby (fun j => [97].getD j 0) (⟨fT, fun _ => 0, 0⟩ : Hq) 1) 2).c) 32) 64 = bB := txt_eq _ [98, 97, 55, 56, 49, 54, 98, 102, 56, 102, 48, 49, 99, 102, 101, 97, 52, 49, 52, 49, 52, 48, 100, 101, 53, 100, 97, 101, 50, 50, 50, 51, 98, 48, 48, 51, 54, 49, 97, 51, 57, 54, 49, 55, 55, 97, 57, 99, 98, 52, 49, 48, 102, 102, 54, 49, 102, 50, 48, 48, 49, 53, 97, 100] (by decide +kernel)
theorem alJ : ((List.range 32).all fun j => decide ((fz (hby (e8 (c64 0) 8) (⟨fT, fun _ => 0, 0⟩ : Hq) 8).s (hby (e8 (c64 0) 8) (⟨fT, fun _ => 0, 0⟩ : Hq) 8).r (hby (e8 (c64 0) 8) (⟨fT, fun _ => 0, 0⟩ : Hq) 8).c) j = (dg0 (fun _ => 0) 8) j)) = true := by decide +kernel
theorem alP : ((List.range 32).all fun j => decide (pa nN 32 j = (dg0 (fun _ => 0) 0) j)) = true := by decide +kernel
section
variable {ρ : Operand → Value} {o : Oper} {x y : Operand} {g : Nat} {w : World}
theorem ex_eqS {a b : ByteArray} (h : a = b) (ho : o.op = .binOp .eql 9 x y 9) (hx : ρ x = .string a) (hy : ρ y = .string b) : (execOp ρ o).run Tryd.prog w = .ok (.value (.bool true)) w := by
  subst h
  simp only [execOp, ho, hx, hy]
  clear ho hx hy
  go_simp
theorem ex_cvS {n c : Nat} (ho : o.op = .convert 22 22 x) (hx : ρ x = .slice (some ⟨g, 0, none⟩) n c) : (execOp ρ o).run Tryd.prog w = .ok (.value (.slice (some ⟨g, 0, none⟩) n c)) (mkw w g) := by
  have h5 : Tryd.prog.underlying 5 = some (.int .u8) := by kernel_rfl
  simp only [execOp, ho, hx]
  unfold mkw
  cases hs : w.shape? g <;> simp [convert, run_underlying Tryd.underlying22, run_underlying h5, markStringish, hs, Result.andThen]
theorem mkw_kp (w : World) (g : Nat) : Kp g w (mkw w g) := by
  obtain ⟨m1, m2, m3, m4, m5⟩ := mkw_heap w g
  exact ⟨m1, m2, m3, by rw [m4]; exact Nat.le_refl _, fun i _ hg => m5 i hg⟩
theorem mkw_mm {cs : List Value} {t : TypeId} (h : w.heap[g]? = some (.cells cs.toArray t (0, 0))) : Mm (mkw w g) [(g, cs)] := by
  refine ⟨fun p hp => ?_, List.pairwise_singleton _ _⟩
  rw [List.mem_singleton.1 hp]
  exact ⟨by rw [(mkw_heap w g).2.2.2.1]; exact (Array.getElem?_eq_some_iff.1 h).1, mkw_blk h⟩
theorem ex_sub1 (ho : o.op = .slice 9 x (some y) none none) (hx : ρ x = .string bN) (hy : ρ y = .int .i64 1) : (execOp ρ o).run Tryd.prog w = .ok (.value (.string b3)) w := by
  simp only [execOp, ho, hx, hy, Option.map_some, Option.map_none]
  kernel_rfl
theorem ex_addA (ho : o.op = .binOp .add 9 x y 9) (hx : ρ x = .string ⟨#[65]⟩) (hy : ρ y = .string b3) : (execOp ρ o).run Tryd.prog w = .ok (.value (.string bA)) w := by
  simp only [execOp, ho, hx, hy]
  kernel_rfl
theorem ex_l1 (ho : o.op = .buildSlice 22 1 #[(0, .const (.int .u8 97))]) (hc : ∀ v, ρ (.const v) = v) : (execOp ρ o).run Tryd.prog w = .ok (.value (.slice (some ⟨w.heap.size, 0, none⟩) 1 1)) (w.alloc (.cells (ints .u8 (fun j => [97].getD j 0) 1).toArray 5)) := by
  simp only [execOp, ho, List.map_toArray, List.map_cons, List.map_nil, hc]
  kernel_rfl
theorem ex_l2 (ho : o.op = .buildSlice 22 2 #[(0, .const (.int .u8 98)), (1, .const (.int .u8 99))]) (hc : ∀ v, ρ (.const v) = v) : (execOp ρ o).run Tryd.prog w = .ok (.value (.slice (some ⟨w.heap.size, 0, none⟩) 2 2)) (w.alloc (.cells (ints .u8 (fun j => [98, 99].getD j 0) 2).toArray 5)) := by
  simp only [execOp, ho, List.map_toArray, List.map_cons, List.map_nil, hc]
  kernel_rfl
theorem ex_l3 (ho : o.op = .buildSlice 22 3 #[(0, .const (.int .u8 97)), (1, .const (.int .u8 98)), (2, .const (.int .u8 99))]) (hc : ∀ v, ρ (.const v) = v) : (execOp ρ o).run Tryd.prog w = .ok (.value (.slice (some ⟨w.heap.size, 0, none⟩) 3 3)) (w.alloc (.cells (ints .u8 (fun j => [97, 98, 99].getD j 0) 3).toArray 5)) := by
  simp only [execOp, ho, List.map_toArray, List.map_cons, List.map_nil, hc]
  kernel_rfl
theorem ex_l29 (ho : o.op = .buildSlice 29 1 #[(0, .const (.slice none 0 0))]) (hc : ∀ v, ρ (.const v) = v) : (execOp ρ o).run Tryd.prog w = .ok (.value (.slice (some ⟨w.heap.size, 0, none⟩) 1 1)) (w.alloc (.cells ([Value.slice none 0 0] : List Value).toArray 22)) := by
  simp only [execOp, ho, List.map_toArray, List.map_cons, List.map_nil, hc]
  kernel_rfl
theorem ex_m8 (ho : o.op = .makeSlice 22 x y) (hx : ρ x = .int .i64 8) (hy : ρ y = .int .i64 8) : (execOp ρ o).run Tryd.prog w = .ok (.value (.slice (some ⟨w.heap.size, 0, none⟩) 8 8)) (w.alloc (.cells (ints .u8 (fun _ => 0) 8).toArray 5)) := by
  simp only [execOp, ho, hx, hy]
  kernel_rfl
end
theorem call14 : ∀ args w, (callFunc 14 args).run Tryd.prog w = .ok (.enter 14 args) w := by intro args w; go_simp
theorem call15 : ∀ args w, (callFunc 15 args).run Tryd.prog w = .ok (.enter 15 args) w := by intro args w; go_simp
theorem call19 : ∀ args w, (callFunc 19 args).run Tryd.prog w = .ok (.enter 19 args) w := by intro args w; go_simp
theorem call21 : ∀ args w, (callFunc 21 args).run Tryd.prog w = .ok (.enter 21 args) w := by intro args w; go_simp
set_option maxHeartbeats 8000000 in
set_option maxRecDepth 100000 in
theorem known_law  (w : World) (hm : Mm w [(0, ints .u32 fT 8), (1, ints .u32 kT 64)]) :
    Calls Tryd.prog 7 #[] w fun e w' => e = .returned (.bool true) ∧ Below w.heap.size w w' := by
  have H0 : Hid (_ ∧ _) := ⟨hm, Below.refl w.heap.size w⟩
  clear hm
  go_enter Tryd.func7, Tryd.ntmps7
  refine wp_seq ?_
  refine walk_seqB 1 [.quiet (.bool false)] H0 ?ho1 ?he1
  case ho1 => exact ak (fun _ => ⟨rfl, fun _ _ => rfl⟩) trivial
  intro _ w1 H1
  refine rest0 rfl (then_normal (wp_seq ?_))
  refine walk_seqB 1 [.quiet (.string bN)] H1 ?ho2 ?he2
  case ho2 => exact ak (fun _ => ⟨rfl, fun _ _ => rfl⟩) trivial
  intro _ w2 H2
  clear H1
  refine rest0 rfl (then_normal (wp_seq ?_))
  refine walk_seqB 1 [.quiet (.string bB)] H2 ?ho3 ?he3
  case ho3 => exact ak (fun _ => ⟨rfl, fun _ _ => rfl⟩) trivial
  intro _ w3 H3
  clear H2
  refine rest0 rfl (then_normal (wp_seq ?_))
  refine walk_seqA 1 [.born (fun g => PT g 0) (hs true fT (fun _ => 0) 0)] (sB H3) ?ho4 ?he4
  case ho4 => exact ak (fun γ => ⟨rfl, fun w' h => ⟨21, #[], exec_call rfl call21 rfl (mpn rfl), New_any w' (h.one 0 rfl)⟩⟩) trivial
  intro γ w4 l hM hl
  have H4 : Hid (Mm w4 [(γ 0, hs true fT (fun _ => 0) 0), (0, ints .u32 fT 8), (1, ints .u32 kT 64)] ∧ _) := growB H3 hM (Nat.le_refl _) hl [0] rfl (by decide)
  have o4_0 := ownB H3 hM (Nat.le_refl _) hl (i := 0) rfl
  clear hM hl l H3
  generalize γ 0 = γ4_0 at H4 o4_0 ⊢
  clear γ
  refine rest_at (l := [1]) rfl ?_
  refine rest_set (d := 3) (v := PT γ4_0 0) (w' := w4) rfl rfl rfl rfl ?_
  simp only [Act.put, sa, sz, ss]
  refine rest_nil (then_normal ?_)
  refine wp_seq (wp_seq ?_)
  refine walk_seqB 4 [.quiet (PT γ4_0 0), .quiet (.bool false), .quiet (.bool false), .quiet (PT γ4_0 0)] H4 ?ho5 ?he5
  case ho5 => exact ak (fun _ => ⟨rfl, fun _ _ => rfl⟩) (ak (by refine fun γ => ⟨rfl, fun w' h => ?_⟩; clear h; go_simp) (ak (fun _ => ⟨rfl, fun _ _ => rfl⟩) (ak (fun _ => ⟨rfl, fun _ _ => rfl⟩) trivial)))
  intro _ w5 H5
  clear H4
  refine rest_at (l := [4, 5, 6, 7, 8, 9, 10, 11, 12, 13, 14, 15]) rfl ?_
  refine rest_set (d := 15) (v := .slice (some ⟨w5.heap.size, 0, none⟩) 1 1) (w' := (w5.alloc (.cells (ints .u8 (fun j => [97].getD j 0) 1 : List Value).toArray 5))) rfl rfl rfl (ex_l1 rfl (fun _ => rfl)) ?_
  simp only [Act.put, sa, sz, ss]
  have o_γs6 : Hid (w.heap.size ≤ w5.heap.size) := H5.out.2.size
  have H6 : Hid (Mm (w5.alloc (.cells (ints .u8 (fun j => [97].getD j 0) 1 : List Value).toArray 5)) ((w5.heap.size, ints .u8 (fun j => [97].getD j 0) 1) :: [(γ4_0, hs true fT (fun _ => 0) 0), (0, ints .u32 fT 8), (1, ints .u32 kT 64)]) ∧ Below w.heap.size w (w5.alloc (.cells (ints .u8 (fun j => [97].getD j 0) 1 : List Value).toArray 5))) := ⟨H5.out.1.alloc _ 5 rfl, H5.out.2.alloc H5.out.2.size _⟩
  have R6 : Hid ((w5.alloc (.cells (ints .u8 (fun j => [97].getD j 0) 1 : List Value).toArray 5)).heap[w5.heap.size]? = some (.cells (ints .u8 (fun j => [97].getD j 0) 1 : List Value).toArray 5 (0, 0))) := heap_alloc_new _ _
  clear H5
  generalize hgw : (w5.alloc (.cells (ints .u8 (fun j => [97].getD j 0) 1 : List Value).toArray 5)) = w6 at H6 R6 ⊢
  clear hgw
  generalize w5.heap.size = γs6 at o_γs6 H6 R6 ⊢
  refine rest_set (d := 16) (v := .slice (some ⟨γs6, 0, none⟩) 1 1) (w' := mkw w6 γs6) rfl rfl rfl (ex_cvS rfl rfl) ?_
  simp only [Act.put, sa, sz, ss]
  have H7 : Hid (Mm (mkw w6 γs6) [(γs6, ints .u8 (fun j => [97].getD j 0) 1), (γ4_0, hs true fT (fun _ => 0) 0), (0, ints .u32 fT 8), (1, ints .u32 kT 64)] ∧ Below w.heap.size w (mkw w6 γs6)) := ⟨by have h := H6.out.1.change 0 rfl (mkw_kp w6 γs6) (mkw_mm R6.out); exact h, Below.kp H6.out.2 (mkw_kp _ _) o_γs6.out H6.out.2.size⟩
  clear H6 R6
  generalize mkw w6 γs6 = w7 at H7 ⊢
  refine rest_enter (d := 17) (R := fun vv w' => vv = .int .i64 0 ∧ Mm w' [(γ4_0, hs true ((hby (fun j => [97].getD j 0) (⟨fT, fun _ => 0, 0⟩ : Hq) 1).s) ((hby (fun j => [97].getD j 0) (⟨fT, fun _ => 0, 0⟩ : Hq) 1).r) ((hby (fun j => [97].getD j 0) (⟨fT, fun _ => 0, 0⟩ : Hq) 1).c))] ∧ Kp γ4_0 w7 w') rfl rfl rfl (exec_call (args := #[PT γ4_0 0, .slice (some ⟨γs6, 0, none⟩) 1 1]) rfl call22 rfl (mpn rfl)) (Calls.mono (Write_ok γ4_0 γs6 0 1 1 (⟨fT, fun _ => 0, 0⟩ : Hq) (fun j => [97].getD j 0) _ (Bv.start _ _ _ _) (by decide) (by decide) w7 (H7.out.1.two 1 3 rfl rfl (by decide)) (H7.out.1.src 1 0 rfl rfl (by decide) (by decide))) (fun e w2 hh => ⟨_, hh.1, rfl, hh.2⟩)) ?_
  rintro _ w8 ⟨rfl, hn, hp⟩
  have H8 : Hid (Mm w8 [(γs6, ints .u8 (fun j => [97].getD j 0) 1), (γ4_0, hs true ((hby (fun j => [97].getD j 0) (⟨fT, fun _ => 0, 0⟩ : Hq) 1).s) ((hby (fun j => [97].getD j 0) (⟨fT, fun _ => 0, 0⟩ : Hq) 1).r) ((hby (fun j => [97].getD j 0) (⟨fT, fun _ => 0, 0⟩ : Hq) 1).c)), (0, ints .u32 fT 8), (1, ints .u32 kT 64)] ∧ Below w.heap.size w w8) := ⟨H7.out.1.change 1 rfl hp hn, Below.kp H7.out.2 hp o4_0.out H7.out.2.size⟩
  clear hn hp H7
  simp only [Act.put, sa, sz, ss]
  refine rest_set (d := 18) (v := .bool false) (w' := w8) rfl rfl rfl (by go_simp) ?_
  simp only [Act.put, sa, sz, ss]
  refine rest_set (d := 19) (v := .bool false) (w' := w8) rfl rfl rfl (by go_simp) ?_
  simp only [Act.put, sa, sz, ss]
  refine rest_set (d := 20) (v := .bool false) (w' := w8) rfl rfl rfl rfl ?_
  simp only [Act.put, sa, sz, ss]
  refine rest_set (d := 21) (v := PT γ4_0 0) (w' := w8) rfl rfl rfl rfl ?_
  simp only [Act.put, sa, sz, ss]
  refine rest_set (d := 22) (v := .slice (some ⟨w8.heap.size, 0, none⟩) 2 2) (w' := (w8.alloc (.cells (ints .u8 (fun j => [98, 99].getD j 0) 2 : List Value).toArray 5))) rfl rfl rfl (ex_l2 rfl (fun _ => rfl)) ?_
  simp only [Act.put, sa, sz, ss]
  have o_γs9 : Hid (w.heap.size ≤ w8.heap.size) := H8.out.2.size
  have H9 : Hid (Mm (w8.alloc (.cells (ints .u8 (fun j => [98, 99].getD j 0) 2 : List Value).toArray 5)) ((w8.heap.size, ints .u8 (fun j => [98, 99].getD j 0) 2) :: [(γs6, ints .u8 (fun j => [97].getD j 0) 1), (γ4_0, hs true ((hby (fun j => [97].getD j 0) (⟨fT, fun _ => 0, 0⟩ : Hq) 1).s) ((hby (fun j => [97].getD j 0) (⟨fT, fun _ => 0, 0⟩ : Hq) 1).r) ((hby (fun j => [97].getD j 0) (⟨fT, fun _ => 0, 0⟩ : Hq) 1).c)), (0, ints .u32 fT 8), (1, ints .u32 kT 64)]) ∧ Below w.heap.size w (w8.alloc (.cells (ints .u8 (fun j => [98, 99].getD j 0) 2 : List Value).toArray 5))) := ⟨H8.out.1.alloc _ 5 rfl, H8.out.2.alloc H8.out.2.size _⟩
  have R9 : Hid ((w8.alloc (.cells (ints .u8 (fun j => [98, 99].getD j 0) 2 : List Value).toArray 5)).heap[w8.heap.size]? = some (.cells (ints .u8 (fun j => [98, 99].getD j 0) 2 : List Value).toArray 5 (0, 0))) := heap_alloc_new _ _
  clear H8
  generalize hgw : (w8.alloc (.cells (ints .u8 (fun j => [98, 99].getD j 0) 2 : List Value).toArray 5)) = w9 at H9 R9 ⊢
  clear hgw
  generalize w8.heap.size = γs9 at o_γs9 H9 R9 ⊢
  refine rest_set (d := 23) (v := .slice (some ⟨γs9, 0, none⟩) 2 2) (w' := mkw w9 γs9) rfl rfl rfl (ex_cvS rfl rfl) ?_
  simp only [Act.put, sa, sz, ss]
  have H10 : Hid (Mm (mkw w9 γs9) [(γs9, ints .u8 (fun j => [98, 99].getD j 0) 2), (γs6, ints .u8 (fun j => [97].getD j 0) 1), (γ4_0, hs true ((hby (fun j => [97].getD j 0) (⟨fT, fun _ => 0, 0⟩ : Hq) 1).s) ((hby (fun j => [97].getD j 0) (⟨fT, fun _ => 0, 0⟩ : Hq) 1).r) ((hby (fun j => [97].getD j 0) (⟨fT, fun _ => 0, 0⟩ : Hq) 1).c)), (0, ints .u32 fT 8), (1, ints .u32 kT 64)] ∧ Below w.heap.size w (mkw w9 γs9)) := ⟨by have h := H9.out.1.change 0 rfl (mkw_kp w9 γs9) (mkw_mm R9.out); exact h, Below.kp H9.out.2 (mkw_kp _ _) o_γs9.out H9.out.2.size⟩
  clear H9 R9
  generalize mkw w9 γs9 = w10 at H10 ⊢
  refine rest_enter (d := 24) (R := fun vv w' => vv = .int .i64 0 ∧ Mm w' [(γ4_0, hs true ((hby (fun j => [98, 99].getD j 0) (hby (fun j => [97].getD j 0) (⟨fT, fun _ => 0, 0⟩ : Hq) 1) 2).s) ((hby (fun j => [98, 99].getD j 0) (hby (fun j => [97].getD j 0) (⟨fT, fun _ => 0, 0⟩ : Hq) 1) 2).r) ((hby (fun j => [98, 99].getD j 0) (hby (fun j => [97].getD j 0) (⟨fT, fun _ => 0, 0⟩ : Hq) 1) 2).c))] ∧ Kp γ4_0 w10 w') rfl rfl rfl (exec_call (args := #[PT γ4_0 0, .slice (some ⟨γs9, 0, none⟩) 2 2]) rfl call22 rfl (mpn rfl)) (Calls.mono (Write_ok γ4_0 γs9 0 2 2 (hby (fun j => [97].getD j 0) (⟨fT, fun _ => 0, 0⟩ : Hq) 1) (fun j => [98, 99].getD j 0) _ (Bv.start _ _ _ _) (by decide) (by rw [hby_c]; decide) w10 (H10.out.1.two 2 4 rfl rfl (by decide)) (H10.out.1.src 2 0 rfl rfl (by decide) (by decide))) (fun e w2 hh => ⟨_, hh.1, rfl, hh.2⟩)) ?_
  rintro _ w11 ⟨rfl, hn, hp⟩
  have H11 : Hid (Mm w11 [(γs9, ints .u8 (fun j => [98, 99].getD j 0) 2), (γs6, ints .u8 (fun j => [97].getD j 0) 1), (γ4_0, hs true ((hby (fun j => [98, 99].getD j 0) (hby (fun j => [97].getD j 0) (⟨fT, fun _ => 0, 0⟩ : Hq) 1) 2).s) ((hby (fun j => [98, 99].getD j 0) (hby (fun j => [97].getD j 0) (⟨fT, fun _ => 0, 0⟩ : Hq) 1) 2).r) ((hby (fun j => [98, 99].getD j 0) (hby (fun j => [97].getD j 0) (⟨fT, fun _ => 0, 0⟩ : Hq) 1) 2).c)), (0, ints .u32 fT 8), (1, ints .u32 kT 64)] ∧ Below w.heap.size w w11) := ⟨H10.out.1.change 2 rfl hp hn, Below.kp H10.out.2 hp o4_0.out H10.out.2.size⟩
  clear hn hp H10
  simp only [Act.put, sa, sz, ss]
  refine rest_set (d := 25) (v := .bool false) (w' := w11) rfl rfl rfl (by go_simp) ?_
  simp only [Act.put, sa, sz, ss]
  refine rest_set (d := 26) (v := .bool false) (w' := w11) rfl rfl rfl (by go_simp) ?_
  simp only [Act.put, sa, sz, ss]
  refine rest_nil (then_normal ?_)
  refine wp_cond_false rfl (wp_skip ?_)
  refine then_normal (wp_seq ?_)
  refine walk_seqA 9 [.quiet (.string bN), .quiet (.string b3), .call (.tuple #[.agg (ints .u8 (fun _ => 0) 32).toArray, .int .i64 4]), .quiet (.tuple #[.agg (ints .u8 (fun _ => 0) 32).toArray, .int .i64 4]), .quiet (.agg (ints .u8 (fun _ => 0) 32).toArray), .quiet (.int .i64 4), .made (ints .u8 (fun _ => 0) 32) 25, .laid 6 (ints .u8 (fun _ => 0) 32) (ints .u8 (fun _ => 0) 32), .quiet (.int .i64 4)] (sB H11) ?ho6 ?he6 (hL := ?hL6)
  case hL6 => exact ⟨⟨_, rfl⟩, trivial⟩
  case ho6 => exact ak (fun _ => ⟨rfl, fun _ _ => rfl⟩) (ak (fun γ => ⟨rfl, fun w' _ => ex_sub1 rfl rfl rfl⟩) (ak (fun γ => ⟨rfl, fun w' h => ⟨15, #[.string b3], exec_call rfl call15 rfl (mpn rfl), parse3 w'⟩⟩) (ak (fun _ => ⟨rfl, fun _ _ => rfl⟩) (ak (by refine fun γ => ⟨rfl, fun w' h => ?_⟩; clear h; go_simp) (ak (by refine fun γ => ⟨rfl, fun w' h => ?_⟩; clear h; go_simp) (ak (fun γ => ⟨rfl, fun w' => ex_mk25 rfl⟩) (ak (fun γ => ⟨rfl, rfl, (ints_len _ _ _).trans (ints_len _ _ _).symm, fun w' h => ex_laidI h Tryd.sizeOf25 rfl rfl rfl⟩) (ak (fun _ => ⟨rfl, fun _ _ => rfl⟩) trivial))))))))
  intro γ w12 l hM hl
  have H12 : Hid (Mm w12 [(γ 6, ints .u8 (fun _ => 0) 32), (γs9, ints .u8 (fun j => [98, 99].getD j 0) 2), (γs6, ints .u8 (fun j => [97].getD j 0) 1), (γ4_0, hs true ((hby (fun j => [98, 99].getD j 0) (hby (fun j => [97].getD j 0) (⟨fT, fun _ => 0, 0⟩ : Hq) 1) 2).s) ((hby (fun j => [98, 99].getD j 0) (hby (fun j => [97].getD j 0) (⟨fT, fun _ => 0, 0⟩ : Hq) 1) 2).r) ((hby (fun j => [98, 99].getD j 0) (hby (fun j => [97].getD j 0) (⟨fT, fun _ => 0, 0⟩ : Hq) 1) 2).c)), (0, ints .u32 fT 8), (1, ints .u32 kT 64)] ∧ _) := growB H11 hM (Nat.le_refl _) hl [6] rfl (by decide)
  have o6_6 := ownB H11 hM (Nat.le_refl _) hl (i := 6) rfl
  clear hM hl l H11
  generalize γ 6 = γ6_6 at H12 o6_6 ⊢
  clear γ
  refine rest0 rfl (then_normal (wp_seq ?_))
  refine walk_seqA 10 [.quiet (.string bN), .quiet (.string b3), .quiet (.string bA), .call (.tuple #[.agg (ints .u8 (fun _ => 0) 32).toArray, .int .i64 4]), .quiet (.tuple #[.agg (ints .u8 (fun _ => 0) 32).toArray, .int .i64 4]), .quiet (.agg (ints .u8 (fun _ => 0) 32).toArray), .quiet (.int .i64 4), .made (ints .u8 (fun _ => 0) 32) 25, .laid 7 (ints .u8 (fun _ => 0) 32) (ints .u8 (fun _ => 0) 32), .quiet (.int .i64 4)] (sB H12) ?ho7 ?he7 (hL := ?hL7)
  case hL7 => exact ⟨⟨_, rfl⟩, trivial⟩
  case ho7 => exact ak (fun _ => ⟨rfl, fun _ _ => rfl⟩) (ak (fun γ => ⟨rfl, fun w' _ => ex_sub1 rfl rfl rfl⟩) (ak (fun γ => ⟨rfl, fun w' _ => ex_addA rfl rfl rfl⟩) (ak (fun γ => ⟨rfl, fun w' h => ⟨15, #[.string bA], exec_call rfl call15 rfl (mpn rfl), parseA w'⟩⟩) (ak (fun _ => ⟨rfl, fun _ _ => rfl⟩) (ak (by refine fun γ => ⟨rfl, fun w' h => ?_⟩; clear h; go_simp) (ak (by refine fun γ => ⟨rfl, fun w' h => ?_⟩; clear h; go_simp) (ak (fun γ => ⟨rfl, fun w' => ex_mk25 rfl⟩) (ak (fun γ => ⟨rfl, rfl, (ints_len _ _ _).trans (ints_len _ _ _).symm, fun w' h => ex_laidI h Tryd.sizeOf25 rfl rfl rfl⟩) (ak (fun _ => ⟨rfl, fun _ _ => rfl⟩) trivial)))))))))
  intro γ w13 l hM hl
  have H13 : Hid (Mm w13 [(γ 7, ints .u8 (fun _ => 0) 32), (γ6_6, ints .u8 (fun _ => 0) 32), (γs9, ints .u8 (fun j => [98, 99].getD j 0) 2), (γs6, ints .u8 (fun j => [97].getD j 0) 1), (γ4_0, hs true ((hby (fun j => [98, 99].getD j 0) (hby (fun j => [97].getD j 0) (⟨fT, fun _ => 0, 0⟩ : Hq) 1) 2).s) ((hby (fun j => [98, 99].getD j 0) (hby (fun j => [97].getD j 0) (⟨fT, fun _ => 0, 0⟩ : Hq) 1) 2).r) ((hby (fun j => [98, 99].getD j 0) (hby (fun j => [97].getD j 0) (⟨fT, fun _ => 0, 0⟩ : Hq) 1) 2).c)), (0, ints .u32 fT 8), (1, ints .u32 kT 64)] ∧ _) := growB H12 hM (Nat.le_refl _) hl [7] rfl (by decide)
  have o7_7 := ownB H12 hM (Nat.le_refl _) hl (i := 7) rfl
  clear hM hl l H12
  generalize γ 7 = γ7_7 at H13 o7_7 ⊢
  clear γ
  refine rest0 rfl (then_normal (wp_seq ?_))
  refine walk_seqA 8 [.quiet (.string bN), .call (.tuple #[.agg (ints .u8 (pa nN 32) 32).toArray, .int .i64 0]), .quiet (.tuple #[.agg (ints .u8 (pa nN 32) 32).toArray, .int .i64 0]), .quiet (.agg (ints .u8 (pa nN 32) 32).toArray), .quiet (.int .i64 0), .made (ints .u8 (fun _ => 0) 32) 25, .laid 5 (ints .u8 (fun _ => 0) 32) (ints .u8 (pa nN 32) 32), .quiet (.int .i64 0)] (sB H13) ?ho8 ?he8 (hL := ?hL8)
  case hL8 => exact ⟨⟨_, rfl⟩, trivial⟩
  case ho8 => exact ak (fun _ => ⟨rfl, fun _ _ => rfl⟩) (ak (fun γ => ⟨rfl, fun w' h => ⟨15, #[.string bN], exec_call rfl call15 rfl (mpn rfl), parseN w'⟩⟩) (ak (fun _ => ⟨rfl, fun _ _ => rfl⟩) (ak (by refine fun γ => ⟨rfl, fun w' h => ?_⟩; clear h; go_simp) (ak (by refine fun γ => ⟨rfl, fun w' h => ?_⟩; clear h; go_simp) (ak (fun γ => ⟨rfl, fun w' => ex_mk25 rfl⟩) (ak (fun γ => ⟨rfl, rfl, (ints_len _ _ _).trans (ints_len _ _ _).symm, fun w' h => ex_laidI h Tryd.sizeOf25 rfl rfl rfl⟩) (ak (fun _ => ⟨rfl, fun _ _ => rfl⟩) trivial)))))))
  intro γ w14 l hM hl
  have H14 : Hid (Mm w14 [(γ 5, ints .u8 (pa nN 32) 32), (γ7_7, ints .u8 (fun _ => 0) 32), (γ6_6, ints .u8 (fun _ => 0) 32), (γs9, ints .u8 (fun j => [98, 99].getD j 0) 2), (γs6, ints .u8 (fun j => [97].getD j 0) 1), (γ4_0, hs true ((hby (fun j => [98, 99].getD j 0) (hby (fun j => [97].getD j 0) (⟨fT, fun _ => 0, 0⟩ : Hq) 1) 2).s) ((hby (fun j => [98, 99].getD j 0) (hby (fun j => [97].getD j 0) (⟨fT, fun _ => 0, 0⟩ : Hq) 1) 2).r) ((hby (fun j => [98, 99].getD j 0) (hby (fun j => [97].getD j 0) (⟨fT, fun _ => 0, 0⟩ : Hq) 1) 2).c)), (0, ints .u32 fT 8), (1, ints .u32 kT 64)] ∧ _) := growB H13 hM (Nat.le_refl _) hl [5] rfl (by decide)
  have o8_5 := ownB H13 hM (Nat.le_refl _) hl (i := 5) rfl
  clear hM hl l H13
  generalize γ 5 = γ8_5 at H14 o8_5 ⊢
  clear γ
  refine rest0 rfl (then_normal (wp_seq ?_))
  refine walk_anyA 54 [.call (.agg (ints .u8 (dg0 (fun _ => 0) 0) 32).toArray), .call (.string (st (tx (dg0 (fun _ => 0) 0) 32) 64)), .quiet (.string bN), .quiet (.bool true), .quiet (.bool true), .row (fun g => .slice (some ⟨g, 0, none⟩) 3 3) (ints .u8 (fun j => [97, 98, 99].getD j 0) 3) 5, .same (fun g => .slice (some ⟨g, 0, none⟩) 3 3) 5, .over (.agg (ints .u8 (dg0 (fun j => [97, 98, 99].getD j 0) 3) 32).toArray) 5 (ints .u8 (fun j => [97, 98, 99].getD j 0) 3), .call (.string (st (tx (dg0 (fun j => [97, 98, 99].getD j 0) 3) 32) 64)), .quiet (.string bB), .quiet (.bool true), .quiet (.bool true), .quiet (.bool true), .quiet (PT γ4_0 0), .call (.agg (ints .u8 (fz (hby (fun j => [98, 99].getD j 0) (hby (fun j => [97].getD j 0) (⟨fT, fun _ => 0, 0⟩ : Hq) 1) 2).s (hby (fun j => [98, 99].getD j 0) (hby (fun j => [97].getD j 0) (⟨fT, fun _ => 0, 0⟩ : Hq) 1) 2).r (hby (fun j => [98, 99].getD j 0) (hby (fun j => [97].getD j 0) (⟨fT, fun _ => 0, 0⟩ : Hq) 1) 2).c) 32).toArray), .call (.string (st (tx (fz (hby (fun j => [98, 99].getD j 0) (hby (fun j => [97].getD j 0) (⟨fT, fun _ => 0, 0⟩ : Hq) 1) 2).s (hby (fun j => [98, 99].getD j 0) (hby (fun j => [97].getD j 0) (⟨fT, fun _ => 0, 0⟩ : Hq) 1) 2).r (hby (fun j => [98, 99].getD j 0) (hby (fun j => [97].getD j 0) (⟨fT, fun _ => 0, 0⟩ : Hq) 1) 2).c) 32) 64)), .quiet (.string bB), .quiet (.bool true), .quiet (.bool true), .quiet (.bool true), .quiet (PT γ4_0 0), .call (.int .i64 3), .quiet (.bool true), .quiet (.bool true), .quiet (.bool true), .call (.agg (ints .u8 (fz fT (fun _ => 0) 0) 32).toArray), .call (.agg (ints .u8 (dg0 (fun _ => 0) 0) 32).toArray), .quiet (.bool true), .quiet (.bool true), .quiet (.bool true), .row (fun g => .slice (some ⟨g, 0, none⟩) 1 1) ([Value.slice none 0 0]) 22, .over (.agg (ints .u8 (fz (hby (e8 (c64 0) 8) (⟨fT, fun _ => 0, 0⟩ : Hq) 8).s (hby (e8 (c64 0) 8) (⟨fT, fun _ => 0, 0⟩ : Hq) 8).r (hby (e8 (c64 0) 8) (⟨fT, fun _ => 0, 0⟩ : Hq) 8).c) 32).toArray) 30 ([Value.slice none 0 0]), .row (fun g => .slice (some ⟨g, 0, none⟩) 8 8) (ints .u8 (fun _ => 0) 8) 5, .over (.agg (ints .u8 (dg0 (fun _ => 0) 8) 32).toArray) 32 (ints .u8 (fun _ => 0) 8), .quiet (.bool true), .quiet (.bool true), .quiet (.bool true), .quiet (.int .i64 4), .quiet (.bool true), .quiet (.bool true), .quiet (.bool true), .quiet (.int .i64 4), .quiet (.bool true), .quiet (.bool true), .quiet (.bool true), .quiet (.int .i64 0), .quiet (.bool true), .quiet (.bool true), .quiet (.bool true), .quiet (.agg (ints .u8 (pa nN 32) 32).toArray), .call (.agg (ints .u8 (dg0 (fun _ => 0) 0) 32).toArray), .quiet (.bool true), .quiet (.bool true), .quiet (.bool true)] (sB H14) ?ho9 ?he9 (hL := ?hL9)
  case hL9 => exact ⟨⟨_, rfl⟩, ⟨_, rfl⟩, ⟨_, rfl⟩, trivial⟩
  case ho9 => exact ak (fun γ => ⟨rfl, fun w' h => ⟨10, #[.slice none 0 0], exec_call rfl call10 rfl (mpn rfl), Sum_any 0 0 0 0 (fun _ => 0) _ (Bv.void _ _ _ _ _) (by decide) (by decide) w' (h.two 6 7 rfl rfl (by decide)) (Rs.void _ _ _ _)⟩⟩) (ak (fun γ => ⟨rfl, fun w' h => ⟨19, #[.agg (ints .u8 (dg0 (fun _ => 0) 0) 32).toArray], exec_call rfl call19 rfl (mpn rfl), Text_any (dg0 (fun _ => 0) 0) (dg0_lt _ _) w'⟩⟩) (ak (fun _ => ⟨rfl, fun _ _ => rfl⟩) (ak (fun γ => ⟨rfl, fun w' _ => ex_eqS txt0 rfl rfl rfl⟩) (ak (fun _ => ⟨rfl, fun _ _ => rfl⟩) (ak (fun γ => ⟨rfl, fun w' => ex_l3 rfl (fun _ => rfl)⟩) (ak (fun γ => ⟨rfl, fun w' _ => ex_cvS rfl rfl⟩) (ak (fun γ => ⟨rfl, fun u w' h0 hge h1 hb hlt => by have h := Mm.over h0 hge h1 hb hlt; exact ⟨10, #[.slice (some ⟨(γ 5), 0, none⟩) 3 3], exec_call rfl call10 rfl (mpn rfl), Sum_any _ 0 3 3 (fun j => [97, 98, 99].getD j 0) _ (Bv.start _ _ _ _) (by decide) (by decide) w' (h.two 7 8 rfl rfl (by decide)) (h.rs 0 rfl (by decide))⟩⟩) (ak (fun γ => ⟨rfl, fun w' h => ⟨19, #[.agg (ints .u8 (dg0 (fun j => [97, 98, 99].getD j 0) 3) 32).toArray], exec_call rfl call19 rfl (mpn rfl), Text_any (dg0 (fun j => [97, 98, 99].getD j 0) 3) (dg0_lt _ _) w'⟩⟩) (ak (fun _ => ⟨rfl, fun _ _ => rfl⟩) (ak (fun γ => ⟨rfl, fun w' _ => ex_eqS txt3 rfl rfl rfl⟩) (ak (by refine fun γ => ⟨rfl, fun w' h => ?_⟩; clear h; go_simp) (ak (fun _ => ⟨rfl, fun _ _ => rfl⟩) (ak (fun _ => ⟨rfl, fun _ _ => rfl⟩) (ak (fun γ => ⟨rfl, fun w' h => ⟨25, #[PT γ4_0 0], exec_call rfl call25 rfl (mpn rfl), HSum_ok _ (hby (fun j => [98, 99].getD j 0) (hby (fun j => [97].getD j 0) (⟨fT, fun _ => 0, 0⟩ : Hq) 1) 2) w' (h.two 5 7 rfl rfl (by decide))⟩⟩) (ak (fun γ => ⟨rfl, fun w' h => ⟨19, #[.agg (ints .u8 (fz (hby (fun j => [98, 99].getD j 0) (hby (fun j => [97].getD j 0) (⟨fT, fun _ => 0, 0⟩ : Hq) 1) 2).s (hby (fun j => [98, 99].getD j 0) (hby (fun j => [97].getD j 0) (⟨fT, fun _ => 0, 0⟩ : Hq) 1) 2).r (hby (fun j => [98, 99].getD j 0) (hby (fun j => [97].getD j 0) (⟨fT, fun _ => 0, 0⟩ : Hq) 1) 2).c) 32).toArray], exec_call rfl call19 rfl (mpn rfl), Text_any (fz (hby (fun j => [98, 99].getD j 0) (hby (fun j => [97].getD j 0) (⟨fT, fun _ => 0, 0⟩ : Hq) 1) 2).s (hby (fun j => [98, 99].getD j 0) (hby (fun j => [97].getD j 0) (⟨fT, fun _ => 0, 0⟩ : Hq) 1) 2).r (hby (fun j => [98, 99].getD j 0) (hby (fun j => [97].getD j 0) (⟨fT, fun _ => 0, 0⟩ : Hq) 1) 2).c) (fz_lt _ _ _) w'⟩⟩) (ak (fun _ => ⟨rfl, fun _ _ => rfl⟩) (ak (fun γ => ⟨rfl, fun w' _ => ex_eqS txtH rfl rfl rfl⟩) (ak (by refine fun γ => ⟨rfl, fun w' h => ?_⟩; clear h; go_simp) (ak (fun _ => ⟨rfl, fun _ _ => rfl⟩) (ak (fun _ => ⟨rfl, fun _ _ => rfl⟩) (ak (fun γ => ⟨rfl, fun w' h => ⟨27, #[PT γ4_0 0], exec_call rfl call27 rfl (mpn rfl), Len_ok _ (hby (fun j => [98, 99].getD j 0) (hby (fun j => [97].getD j 0) (⟨fT, fun _ => 0, 0⟩ : Hq) 1) 2) (by rw [hby_c, hby_c]; decide) w' (h.one 5 rfl)⟩⟩) (ak (by refine fun γ => ⟨rfl, fun w' h => ?_⟩; clear h; go_simp <;> omega) (ak (by refine fun γ => ⟨rfl, fun w' h => ?_⟩; clear h; go_simp) (ak (fun _ => ⟨rfl, fun _ _ => rfl⟩) (ak (fun γ => ⟨rfl, fun w' h => ⟨14, #[.slice none 0 0], exec_call rfl call14 rfl (mpn rfl), Join_none w' (h.two 6 7 rfl rfl (by decide))⟩⟩) (ak (fun γ => ⟨rfl, fun w' h => ⟨10, #[.slice none 0 0], exec_call rfl call10 rfl (mpn rfl), Sum_any 0 0 0 0 (fun _ => 0) _ (Bv.void _ _ _ _ _) (by decide) (by decide) w' (h.two 6 7 rfl rfl (by decide)) (Rs.void _ _ _ _)⟩⟩) (ak (fun γ => ⟨rfl, fun w' _ => ex_eq25 (all_self _ _) rfl rfl rfl⟩) (ak (by refine fun γ => ⟨rfl, fun w' h => ?_⟩; clear h; go_simp) (ak (fun _ => ⟨rfl, fun _ _ => rfl⟩) (ak (fun γ => ⟨rfl, fun w' => ex_l29 rfl (fun _ => rfl)⟩) (ak (fun γ => ⟨rfl, fun u w' h0 hge h1 hb hlt => by have h := Mm.over h0 hge h1 hb hlt; exact ⟨14, #[.slice (some ⟨(γ 30), 0, none⟩) 1 1], exec_call rfl call14 rfl (mpn rfl), Join_one _ w' (h.three 7 8 0 rfl rfl rfl (by decide) (by decide) (by decide))⟩⟩) (ak (fun γ => ⟨rfl, fun w' => ex_m8 rfl rfl rfl⟩) (ak (fun γ => ⟨rfl, fun u w' h0 hge h1 hb hlt => by have h := Mm.over h0 hge h1 hb hlt; exact ⟨10, #[.slice (some ⟨(γ 32), 0, none⟩) 8 8], exec_call rfl call10 rfl (mpn rfl), Sum_any _ 0 8 8 (fun _ => 0) _ (Bv.start _ _ _ _) (by decide) (by decide) w' (h.two 7 8 rfl rfl (by decide)) (h.rs 0 rfl (by decide))⟩⟩) (ak (fun γ => ⟨rfl, fun w' _ => ex_eq25 (alJ) rfl rfl rfl⟩) (ak (by refine fun γ => ⟨rfl, fun w' h => ?_⟩; clear h; go_simp) (ak (fun _ => ⟨rfl, fun _ _ => rfl⟩) (ak (fun _ => ⟨rfl, fun _ _ => rfl⟩) (ak (by refine fun γ => ⟨rfl, fun w' h => ?_⟩; clear h; go_simp) (ak (by refine fun γ => ⟨rfl, fun w' h => ?_⟩; clear h; go_simp) (ak (fun _ => ⟨rfl, fun _ _ => rfl⟩) (ak (fun _ => ⟨rfl, fun _ _ => rfl⟩) (ak (by refine fun γ => ⟨rfl, fun w' h => ?_⟩; clear h; go_simp) (ak (by refine fun γ => ⟨rfl, fun w' h => ?_⟩; clear h; go_simp) (ak (fun _ => ⟨rfl, fun _ _ => rfl⟩) (ak (fun _ => ⟨rfl, fun _ _ => rfl⟩) (ak (by refine fun γ => ⟨rfl, fun w' h => ?_⟩; clear h; go_simp) (ak (by refine fun γ => ⟨rfl, fun w' h => ?_⟩; clear h; go_simp) (ak (fun _ => ⟨rfl, fun _ _ => rfl⟩) (ak (fun γ => ⟨rfl, fun w' h => ex_loadT h 0 rfl rfl rfl Tryd.isAgg25 Tryd.sizeOf25 (ints_whole _ _ _) (ints_len _ _ _)⟩) (ak (fun γ => ⟨rfl, fun w' h => ⟨10, #[.slice none 0 0], exec_call rfl call10 rfl (mpn rfl), Sum_any 0 0 0 0 (fun _ => 0) _ (Bv.void _ _ _ _ _) (by decide) (by decide) w' (h.two 6 7 rfl rfl (by decide)) (Rs.void _ _ _ _)⟩⟩) (ak (fun γ => ⟨rfl, fun w' _ => ex_eq25 (alP) rfl rfl rfl⟩) (ak (by refine fun γ => ⟨rfl, fun w' h => ?_⟩; clear h; go_simp) (ak (fun _ => ⟨rfl, fun _ _ => rfl⟩) trivial)))))))))))))))))))))))))))))))))))))))))))))))))))))
  intro γ w15 l hM hl
  have H15 : Hid (Mm w15 [(γ 5, ints .u8 (fun j => [97, 98, 99].getD j 0) 3), (γ 30, [Value.slice none 0 0]), (γ 32, ints .u8 (fun _ => 0) 8), (γ8_5, ints .u8 (pa nN 32) 32), (γ7_7, ints .u8 (fun _ => 0) 32), (γ6_6, ints .u8 (fun _ => 0) 32), (γs9, ints .u8 (fun j => [98, 99].getD j 0) 2), (γs6, ints .u8 (fun j => [97].getD j 0) 1), (γ4_0, hs true ((hby (fun j => [98, 99].getD j 0) (hby (fun j => [97].getD j 0) (⟨fT, fun _ => 0, 0⟩ : Hq) 1) 2).s) ((hby (fun j => [98, 99].getD j 0) (hby (fun j => [97].getD j 0) (⟨fT, fun _ => 0, 0⟩ : Hq) 1) 2).r) ((hby (fun j => [98, 99].getD j 0) (hby (fun j => [97].getD j 0) (⟨fT, fun _ => 0, 0⟩ : Hq) 1) 2).c)), (0, ints .u32 fT 8), (1, ints .u32 kT 64)] ∧ _) := growB H14 hM (Nat.le_refl _) hl [5, 30, 32] rfl (by decide)
  have o9_5 := ownB H14 hM (Nat.le_refl _) hl (i := 5) rfl
  have o9_30 := ownB H14 hM (Nat.le_refl _) hl (i := 30) rfl
  have o9_32 := ownB H14 hM (Nat.le_refl _) hl (i := 32) rfl
  clear hM hl l H14
  generalize γ 5 = γ9_5 at H15 o9_5 ⊢
  generalize γ 30 = γ9_30 at H15 o9_30 ⊢
  generalize γ 32 = γ9_32 at H15 o9_32 ⊢
  clear γ
  refine rest0 rfl (then_normal (wp_ret ?_))
  repeat (first | refine then_ret ?_ | refine block_ret ?_)
  refine bodyPost_ret (v := .bool true) (by simp [results, Tryd.results7, go_sem, *]) rfl ?_
  exact ⟨rfl, H15.out.2⟩
end Rg
end Go.Proofs.YtfboipfpnkngdaaDoor
end
section
namespace Go.Proofs.YtfboipfpnkngdaaDoor
open Go.RowKit
namespace Rg
theorem vl_dgt (k : Nat) (h : k < 16) : vl (dgt k) = k := by
  rcases (by omega : k = 0 ∨ k = 1 ∨ k = 2 ∨ k = 3 ∨ k = 4 ∨ k = 5 ∨ k = 6 ∨ k = 7 ∨ k = 8 ∨ k = 9 ∨ k = 10 ∨ k = 11 ∨ k = 12 ∨ k = 13 ∨ k = 14 ∨ k = 15) with rfl | rfl | rfl | rfl | rfl | rfl | rfl | rfl | rfl | rfl | rfl | rfl | rfl | rfl | rfl | rfl <;> decide
theorem dgt_lt (k : Nat) : dgt k < 256 := getD_lt (by decide) k
theorem tx_even (d : Nat → Nat) : ∀ n i, i < n → tx d n (2 * i) = dgt (d i / 16)
  | 0, _, h => by omega
  | n + 1, i, h => by
    show up (up (tx d n) (2 * n) (dgt (d n / 16))) (2 * n + 1) (dgt (d n % 16)) (2 * i) = _
    unfold up
    rw [if_neg (by omega)]
    by_cases e : i = n
    · rw [if_pos (by omega), e]
    · rw [if_neg (by omega), tx_even d n i (by omega)]
theorem tx_odd (d : Nat → Nat) : ∀ n i, i < n → tx d n (2 * i + 1) = dgt (d i % 16)
  | 0, _, h => by omega
  | n + 1, i, h => by
    show up (up (tx d n) (2 * n) (dgt (d n / 16))) (2 * n + 1) (dgt (d n % 16)) (2 * i + 1) = _
    unfold up
    by_cases e : i = n
    · rw [if_pos (by omega), e]
    · rw [if_neg (by omega), if_neg (by omega), tx_odd d n i (by omega)]
theorem tx_lt (d : Nat → Nat) : ∀ n j, tx d n j < 256
  | 0, _ => by show (0 : Nat) < 256; decide
  | n + 1, j => by
    show up (up (tx d n) (2 * n) (dgt (d n / 16))) (2 * n + 1) (dgt (d n % 16)) j < 256
    unfold up
    split
    · exact dgt_lt _
    · split
      · exact dgt_lt _
      · exact tx_lt d n j
theorem al_tx (d : Nat → Nat) (hd : ∀ j, d j < 256) : ∀ n, n ≤ 32 → al (tx d 32) n < 16
  | 0, _ => by show (0 : Nat) < 16; decide
  | n + 1, h => by
    have a := al_tx d hd n (by omega)
    show o8 (al (tx d 32) n) (o8 (vl (tx d 32 (2 * n))) (vl (tx d 32 (2 * n + 1)))) < 16
    have h1 := hd n
    rw [tx_even d 32 n (by omega), tx_odd d 32 n (by omega), vl_dgt _ (by omega), vl_dgt _ (by omega)]
    unfold o8
    have b : (d n / 16 ||| d n % 16) < 2 ^ 4 := Nat.or_lt_two_pow (by omega) (by omega)
    have c : (al (tx d 32) n ||| (d n / 16 ||| d n % 16) % 256) < 2 ^ 4 := Nat.or_lt_two_pow (by omega) (by omega)
    omega
theorem al_ok (d : Nat → Nat) (hd : ∀ j, d j < 256) : decide ((al (tx d 32) 32 &&& 16) % 256 ≠ 0) = false := by
  have h := al_tx d hd 32 (Nat.le_refl _)
  generalize al (tx d 32) 32 = a at h
  rcases (by omega : a = 0 ∨ a = 1 ∨ a = 2 ∨ a = 3 ∨ a = 4 ∨ a = 5 ∨ a = 6 ∨ a = 7 ∨ a = 8 ∨ a = 9 ∨ a = 10 ∨ a = 11 ∨ a = 12 ∨ a = 13 ∨ a = 14 ∨ a = 15) with rfl | rfl | rfl | rfl | rfl | rfl | rfl | rfl | rfl | rfl | rfl | rfl | rfl | rfl | rfl | rfl <;> decide
theorem pa_tx (d : Nat → Nat) (hd : ∀ j, d j < 256) : ∀ n j, n ≤ 32 → j < n → pa (tx d 32) n j = d j
  | 0, _, _, h => by omega
  | n + 1, j, h, hj => by
    show up (pa (tx d 32) n) n (o8 (vl (tx d 32 (2 * n)) * 16 % 256) (vl (tx d 32 (2 * n + 1)))) j = _
    unfold up
    have h1 := hd n
    by_cases e : j = n
    · rw [if_pos e, e, tx_even d 32 n (by omega), tx_odd d 32 n (by omega), vl_dgt _ (by omega), vl_dgt _ (by omega)]
      unfold o8
      rw [show d n / 16 * 16 % 256 = d n / 16 * 2 ^ 4 by omega, or_low _ _ 4 (by omega)]
      omega
    · rw [if_neg e, pa_tx d hd n j (by omega) (by omega)]
end Rg
end Go.Proofs.YtfboipfpnkngdaaDoor
end
section
namespace Go.Proofs.YtfboipfpnkngdaaDoor
open Go.RowKit
namespace Rg
set_option maxRecDepth 100000
/-- The numbers of a list that is handed in. -/
def Cz (p : Option Addr) (zs : List Int) (w : World) : Prop := ∀ g o, p = some ⟨g, o, none⟩ → ∀ i, i < zs.length → g < w.heap.size ∧ w.cell? ⟨g, o + i, none⟩ = some (.int .i64 (zs.getD i 0))
theorem Cz.below {p : Option Addr} {zs : List Int} {w w' : World} (h : Cz p zs w) (hb : Below w.heap.size w w') : Cz p zs w' := fun g o e i hi => by
  obtain ⟨h1, h2⟩ := h g o e i hi
  exact ⟨Nat.lt_of_lt_of_le h1 hb.size, by rw [hb.cell (p := ⟨g, o + i, none⟩) h1]; exact h2⟩
/-- How many bytes are written behind k cuts. -/
def ic (zs : List Int) (n : Nat) : Nat → Nat
  | 0 => 0
  | k + 1 => if 0 ≤ zs.getD k 0 ∧ zs.getD k 0 ≤ ((n - ic zs n k : Nat) : Int) then ic zs n k + (zs.getD k 0).toNat else ic zs n k
theorem ic_le (zs : List Int) (n : Nat) : ∀ k, ic zs n k ≤ n
  | 0 => Nat.zero_le _
  | k + 1 => by
    have h := ic_le zs n k
    rw [ic]
    split
    · omega
    · exact h
theorem ic_no {zs : List Int} {n k i : Nat} {z : Int} (hz : zs.getD k 0 = z) (hi : ic zs n k = i) (h : z < 0 ∨ ((n - i : Nat) : Int) < z) : ic zs n (k + 1) = i := by
  rw [ic, hz, hi, if_neg (by omega)]
theorem ic_yes {zs : List Int} {n k i m : Nat} (hz : zs.getD k 0 = (m : Int)) (hi : ic zs n k = i) (h : m ≤ n - i) : ic zs n (k + 1) = i + m := by
  rw [ic, hz, hi, if_pos (by omega), Int.toNat_natCast]
theorem cut_cases (z : Int) {n i : Nat} (hi : i ≤ n) : z < 0 ∨ (∃ m : Nat, z = m ∧ n - i < m) ∨ (∃ m : Nat, z = m ∧ m ≤ n - i ∧ i < n) ∨ (z = 0 ∧ i = n) := by
  by_cases h : z < 0
  · exact .inl h
  · obtain ⟨m, rfl⟩ : ∃ m : Nat, z = m := ⟨z.toNat, by omega⟩
    by_cases h2 : n - i < m
    · exact .inr (.inl ⟨m, rfl, h2⟩)
    · by_cases h3 : i < n
      · exact .inr (.inr (.inl ⟨m, rfl, by omega, h3⟩))
      · exact .inr (.inr (.inr ⟨by omega, by omega⟩))
theorem Bv.len {gb o n cp i : Nat} {v : Value} (h : Bv gb o n cp i v) (hi : i ≤ n) : ∃ p c, v = .slice p (n - i) c := by
  by_cases e : i < n
  · exact ⟨_, _, h.1 e⟩
  · obtain ⟨p, c, e2⟩ := h.2 (by omega)
    exact ⟨p, c, by rw [e2, show n - i = 0 by omega]⟩
theorem Bv.shift {gb o n cp i : Nat} {v : Value} (h : Bv gb o n cp i v) (hi : i ≤ n) : Bv gb (o + i) (n - i) (cp - i) 0 v := ⟨fun h0 => h.1 (by omega), fun h0 => h.2 (by omega)⟩
theorem Src.sub {g gb o n : Nat} {f : Nat → Nat} {w : World} (h : Src g gb o n f w) (i m : Nat) (him : i + m ≤ n) : Src g gb (o + i) m (fun j => f (i + j)) w :=
  ⟨fun hm => h.lt (by omega), fun hm => h.ne (by omega), fun j hj => by rw [Nat.add_assoc]; exact h.at_ (i + j) (by omega)⟩
theorem c_n (f : Nat → Nat) (n : Nat) : (hby f (⟨fT, fun _ => 0, 0⟩ : Hq) n).c = n := by rw [hby_c]; exact Nat.zero_add n
section
variable {ρ : Operand → Value} {o : Oper} {x y : Operand} {g off m c j : Nat} {w : World}
theorem ex_ixP60 {p : Option Addr} (he : p = some ⟨g, off, none⟩) (ho : o.op = .indexAddr 60 x y) (hx : ρ x = .slice p m c) (hy : ρ y = .int .i64 ((j : Nat) : Int)) (h : j < m) : (execOp ρ o).run Tryd.prog w = .ok (.value (PT g (off + j))) w := by
  subst he
  simp only [execOp, ho, hx, hy]
  clear ho hx hy
  go_simp
theorem ex_ldZ {p : Option Addr} {zs : List Int} {z : Int} (h : Cz p zs w) (he : p = some ⟨g, off, none⟩) (hk : j < zs.length) (hz : zs.getD j 0 = z) (ho : o.op = .load 3 x) (hx : ρ x = PT g (off + j)) : (execOp ρ o).run Tryd.prog w = .ok (.value (.int .i64 z)) w := by
  have c0 := (h g off he j hk).2
  rw [hz] at c0
  have ha : ∀ w, (isAgg 3).run Tryd.prog w = .ok false w := Tryd.isAgg3
  clear h hz
  simp only [execOp, ho, hx]
  go_simp
theorem ex_slH22 {l : Nat} (ho : o.op = .slice 22 x none (some y) none) (hx : ρ x = .slice (some ⟨g, off, none⟩) m c) (hy : ρ y = .int .i64 ((l : Nat) : Int)) (hh : l ≤ c) : (execOp ρ o).run Tryd.prog w = .ok (.value (.slice (some ⟨g, off, none⟩) l c)) w := by
  simp only [execOp, ho, hx, hy, Option.map_some, Option.map_none]
  clear ho hx hy
  go_simp
theorem ex_slH0 {p : Option Addr} (ho : o.op = .slice 22 x none (some y) none) (hx : ρ x = .slice p 0 c) (hy : ρ y = .int .i64 0) : (execOp ρ o).run Tryd.prog w = .ok (.value (.slice p 0 c)) w := by
  simp only [execOp, ho, hx, hy, Option.map_some, Option.map_none]
  clear ho hx hy
  cases p <;> go_simp
theorem ex_slL0 {p : Option Addr} (ho : o.op = .slice 22 x (some y) none none) (hx : ρ x = .slice p 0 c) (hy : ρ y = .int .i64 0) : (execOp ρ o).run Tryd.prog w = .ok (.value (.slice p 0 c)) w := by
  simp only [execOp, ho, hx, hy, Option.map_some, Option.map_none]
  clear ho hx hy
  cases p <;> go_simp
end
end Rg
end Go.Proofs.YtfboipfpnkngdaaDoor
end
section
namespace Go.Proofs.YtfboipfpnkngdaaDoor
open Go.RowKit
namespace Rg
set_option maxRecDepth 100000
theorem call7 : ∀ args w, (callFunc 7 args).run Tryd.prog w = .ok (.enter 7 args) w := by intro args w; go_simp
set_option maxHeartbeats 8000000 in
set_option maxRecDepth 100000 in
theorem pieces_main (f : Nat → Nat) (n gb o cp : Nat) (p1 p2 : Option Addr) (zs : List Int) (c2 : Nat) (hv0 : Bv gb o n cp 0 (.slice p1 n cp)) (hcp : n ≤ cp) (hp20 : 0 < zs.length → ∃ g o, p2 = some ⟨g, o, none⟩) (hn : n ≤ 20000) (hl : zs.length ≤ 100) (w : World) (hm : Mm w [(0, ints .u32 fT 8), (1, ints .u32 kT 64)]) (hC : Cz p2 zs w) (hR : Rs gb o n f w) :
    Calls Tryd.prog 8 #[.slice p1 n cp, .slice p2 zs.length c2] w fun e w' => e = .returned (.bool true) ∧ Below w.heap.size w w' := by
  have H0 : Hid (_ ∧ _) := ⟨hm, Below.refl w.heap.size w⟩
  clear hm
  have hv : Hid _ := hv0
  have hp2 : Hid _ := hp20
  have CZ : Hid (Cz p2 zs w) := hC
  have R0 : Hid (Rs gb o n f w) := hR
  clear hv0 hp20 hC hR
  go_enter Tryd.func8, Tryd.ntmps8
  refine wp_seq ?_
  refine walk_seqB 1 [.quiet (.bool false)] H0 ?ho1 ?he1
  case ho1 => exact ak (fun _ => ⟨rfl, fun _ _ => rfl⟩) trivial
  intro _ w1 H1
  refine rest0 rfl (then_normal (wp_seq ?_))
  refine walk_seqB 2 [.call (.bool true), .quiet (.bool true)] H1 ?ho2 ?he2
  case ho2 => exact ak (fun γ => ⟨rfl, fun w' h => ⟨7, #[], exec_call rfl call7 rfl (mpn rfl), known_law w' (h.two 0 1 rfl rfl (by decide))⟩⟩) (ak (fun _ => ⟨rfl, fun _ _ => rfl⟩) trivial)
  intro _ w2 H2
  clear H1
  refine rest0 rfl (then_normal (wp_seq (wp_seq ?_)))
  refine walk_seqB 8 [.quiet (.slice p1 n cp), .quiet (.int .i64 ((n : Nat) : Int)), .quiet (.bool false), .quiet (.bool false), .quiet (.slice p2 zs.length c2), .quiet (.int .i64 ((zs.length : Nat) : Int)), .quiet (.bool false), .quiet (.bool false)] H2 ?ho3 ?he3
  case ho3 => exact ak (fun _ => ⟨rfl, fun _ _ => rfl⟩) (ak (by refine fun γ => ⟨rfl, fun w' h => ?_⟩; clear h; go_simp) (ak (by refine fun γ => ⟨rfl, fun w' h => ?_⟩; clear h; go_simp <;> omega) (ak (fun _ => ⟨rfl, fun _ _ => rfl⟩) (ak (fun _ => ⟨rfl, fun _ _ => rfl⟩) (ak (by refine fun γ => ⟨rfl, fun w' h => ?_⟩; clear h; go_simp) (ak (by refine fun γ => ⟨rfl, fun w' h => ?_⟩; clear h; go_simp <;> omega) (ak (by refine fun γ => ⟨rfl, fun w' h => ?_⟩; clear h; go_simp) trivial)))))))
  intro _ w3 H3
  clear H2
  refine rest0 rfl (then_normal (wp_cond_false rfl ?_))
  refine wp_skip (then_normal (wp_seq ?_))
  refine walk_seqA 1 [.born (fun g => PT g 0) (hs true fT (fun _ => 0) 0)] (sB H3) ?ho4 ?he4
  case ho4 => exact ak (fun γ => ⟨rfl, fun w' h => ⟨21, #[], exec_call rfl call21 rfl (mpn rfl), New_any w' (h.one 0 rfl)⟩⟩) trivial
  intro γ w4 l hM hl
  have H4 : Hid (Mm w4 [(γ 0, hs true fT (fun _ => 0) 0), (0, ints .u32 fT 8), (1, ints .u32 kT 64)] ∧ _) := growB H3 hM (Nat.le_refl _) hl [0] rfl (by decide)
  have o4_0 := ownB H3 hM (Nat.le_refl _) hl (i := 0) rfl
  clear hM hl l H3
  generalize γ 0 = γ4_0 at H4 o4_0 ⊢
  clear γ
  refine rest_at (l := [1]) rfl ?_
  refine rest_set (d := 6) rfl rfl rfl rfl ?_
  simp only [Act.put, sa, sz, ss]
  refine rest_nil (then_normal ?_)
  refine wp_seq (wp_seq ?_)
  refine walk_seqB 2 [.quiet (PT γ4_0 0), .quiet (.bool false)] H4 ?ho5 ?he5
  case ho5 => exact ak (fun _ => ⟨rfl, fun _ _ => rfl⟩) (ak (by refine fun γ => ⟨rfl, fun w' h => ?_⟩; clear h; go_simp) trivial)
  intro _ w5 H5
  clear H4
  refine rest0 rfl (then_normal (wp_cond_false rfl ?_))
  refine wp_skip (then_normal (wp_seq ?_))
  refine walk_seqB 2 [.quiet (.slice p1 n cp), .quiet (.slice p1 n cp)] H5 ?ho6 ?he6
  case ho6 => exact ak (fun _ => ⟨rfl, fun _ _ => rfl⟩) (ak (fun _ => ⟨rfl, fun _ _ => rfl⟩) trivial)
  intro _ w6 H6
  clear H5
  refine rest0 rfl (then_normal (wp_seq (wp_seq ?_)))
  refine walk_seqB 1 [.quiet (.int .i64 0)] H6 ?ho7 ?he7
  case ho7 => exact ak (fun _ => ⟨rfl, fun _ _ => rfl⟩) trivial
  intro _ w7 H7
  clear H6
  refine rest0 rfl (then_normal (wp_block ?_))
  refine loop_ghost (α := Nat) (fun k a' w' => ∃ s0 : Nat → Value, a' = ⟨#[.slice p1 n cp, .slice p2 zs.length c2, undef, undef, s0 4, .bool true, PT γ4_0 0, s0 7, .int .i64 ((k : Nat) : Int), s0 9, undef, undef, undef, .bool true, .slice p1 n cp, .int .i64 ((n : Nat) : Int), .bool false, .bool false, .slice p2 zs.length c2, .int .i64 ((zs.length : Nat) : Int), .bool false, .bool false, undef, PT γ4_0 0, PT γ4_0 0, .bool false, .slice p1 n cp, s0 27, s0 28, s0 29, s0 30, s0 31, s0 32, s0 33, s0 34, s0 35, s0 36, s0 37, s0 38, s0 39, s0 40, s0 41, s0 42, s0 43, s0 44, s0 45, s0 46, s0 47, s0 48, s0 49, s0 50, s0 51, s0 52, s0 53, undef, undef, undef, undef, undef, undef, undef, undef, undef, undef, undef, undef, undef, undef, undef, undef, undef, undef, undef, undef, undef, undef, undef, undef, undef, undef, undef, undef, undef, undef, undef, undef, undef, undef, undef, undef, undef, undef, undef, undef, undef], []⟩ ∧ (Mm w' [(γ4_0, hs true ((hby f (⟨fT, fun _ => 0, 0⟩ : Hq) (ic zs n k)).s) ((hby f (⟨fT, fun _ => 0, 0⟩ : Hq) (ic zs n k)).r) ((hby f (⟨fT, fun _ => 0, 0⟩ : Hq) (ic zs n k)).c)), (0, ints .u32 fT 8), (1, ints .u32 kT 64)] ∧ Below w.heap.size w w') ∧ k ≤ zs.length ∧ Bv gb o n cp (ic zs n k) (s0 7)) (fun k => zs.length - k) 0 ?st0 ?rd0
  case st0 => exact ⟨(slotfn [undef, undef, undef, undef, .bool false, undef, undef, .slice p1 n cp, undef, undef, undef, undef, undef, undef, undef, undef, undef, undef, undef, undef, undef, undef, undef, undef, undef, undef, undef, undef, undef, undef, undef, undef, undef, undef, undef, undef, undef, undef, undef, undef, undef, undef, undef, undef, undef, undef, undef, undef, undef, undef, undef, undef, undef, undef]), rfl, ⟨H7.out.1, H7.out.2⟩, ⟨Nat.zero_le _, hv.out⟩⟩
  intro k a' w8 hI
  obtain ⟨s0, rfl, hMB, hk0⟩ := hI
  have H8 : Hid (_ ∧ _) := hMB
  clear hMB H7
  by_cases hlt : k < zs.length
  · have hrd : True := trivial
    clear hrd
    obtain ⟨g2, o2, e2⟩ := hp2.out (by omega)
    have E2 : Hid (p2 = some ⟨g2, o2, none⟩) := e2
    clear e2
    have hin := ic_le zs n k
    generalize hi0 : ic zs n k = i at hin hk0 H8
    have hi : Hid (ic zs n k = i) := hi0
    clear hi0
    generalize hz0 : zs.getD k 0 = z
    rcases cut_cases z hin with hK | hK | hK | hK
    · have hrd : True := trivial
      clear hrd
      have hz : Hid (zs.getD k 0 = z) := hz0
      clear hz0
      refine wp_seq (wp_seq ?_)
      refine walk_seqB 4 [.quiet (.int .i64 ((k : Nat) : Int)), .quiet (.slice p2 zs.length c2), .quiet (.int .i64 ((zs.length : Nat) : Int)), .quiet (.bool true)] H8 ?ho8A ?he8A
      case ho8A => exact ak (fun _ => ⟨rfl, fun _ _ => rfl⟩) (ak (fun _ => ⟨rfl, fun _ _ => rfl⟩) (ak (by refine fun γ => ⟨rfl, fun w' h => ?_⟩; clear h; go_simp) (ak (by refine fun γ => ⟨rfl, fun w' h => ?_⟩; clear h; go_simp <;> omega) trivial)))
      intro _ w9 H9
      clear H8
      refine rest0 rfl (then_normal (wp_cond_true rfl ?_))
      refine wp_skip (then_normal ?_)
      refine wp_seq (wp_block (wp_seq ?_))
      refine (walk_seq) 5 [.quiet (.slice p2 zs.length c2), .quiet (.int .i64 ((k : Nat) : Int)), .quiet (PT g2 (o2 + k)), .quiet (.int .i64 z), .quiet (.int .i64 z)] (fun u' => Mm u' [(γ4_0, hs true ((hby f (⟨fT, fun _ => 0, 0⟩ : Hq) i).s) ((hby f (⟨fT, fun _ => 0, 0⟩ : Hq) i).r) ((hby f (⟨fT, fun _ => 0, 0⟩ : Hq) i).c)), (0, ints .u32 fT 8), (1, ints .u32 kT 64)] ∧ (Cz p2 zs u' ∧ Rs gb o n f u')) ?pre9A ?F9A ?hpre9A (fun γ => ?hF9A) (by kernel_rfl) ?hL9A ?hS9A ?ho9A ?he9A
      case hpre9A => simp only [tk, tz]; rfl
      case hF9A => simp only [fill, Kind.val, Act.put, sa, sz, ss]; rfl
      case hL9A => exact trivial
      case hS9A => exact fun w' hb => ⟨H9.out.1.below hb, ⟨Cz.below CZ.out (H9.out.2.trans (hb.mono H9.out.2.size)), R0.out.below (H9.out.2.trans (hb.mono H9.out.2.size))⟩⟩
      case ho9A =>
        refine ak (fun _ => ⟨rfl, fun _ _ => rfl⟩) ?_
        refine ak (fun _ => ⟨rfl, fun _ _ => rfl⟩) ?_
        refine ak (fun γ => ⟨rfl, fun w' _ => ex_ixP60 (j := k) E2.out rfl rfl rfl (by omega)⟩) ?_
        refine ak (fun γ => ⟨rfl, fun w' hX => ex_ldZ (j := k) hX.2.1 E2.out (by omega) hz.out rfl rfl⟩) ?_
        refine ak (fun _ => ⟨rfl, fun _ _ => rfl⟩) ?_
        exact trivial
      intro γ w10 l hM hl
      have H10 := keepB H9 hM.below
      clear hM hl l H9 γ
      refine rest0 rfl (then_normal (wp_seq (wp_seq ?_)))
      refine walk_seqB 8 [.quiet (.int .i64 z), .quiet (.bool true), .quiet (.bool true), .gone, .gone, .gone, .gone, .quiet (.bool true)] H10 ?ho10A ?he10A
      case ho10A => exact ak (fun _ => ⟨rfl, fun _ _ => rfl⟩) (ak (by refine fun γ => ⟨rfl, fun w' h => ?_⟩; clear h; go_simp <;> omega) (ak (fun _ => ⟨rfl, fun _ _ => rfl⟩) (ak (fun γ => rfl) (ak (fun γ => rfl) (ak (fun γ => rfl) (ak (fun γ => rfl) (ak (by refine fun γ => ⟨rfl, fun w' h => ?_⟩; clear h; go_simp) trivial)))))))
      intro _ w11 H11
      clear H10
      refine rest0 rfl (then_normal (wp_cond_true rfl ?_))
      refine wp_exit ?_
      repeat refine then_exit ?_
      refine block_exit ?_
      refine then_normal ?_
      refine walk_seqB 2 [.quiet (.int .i64 ((k : Nat) : Int)), .quiet (.int .i64 ((k + 1 : Nat) : Int))] H11 ?ho11A ?he11A
      case ho11A => exact ak (fun _ => ⟨rfl, fun _ _ => rfl⟩) (ak (by refine fun γ => ⟨rfl, fun w' h => ?_⟩; clear h; go_simp; rw [IntKind.wrap_i64]; omega) trivial)
      intro _ w12 H12
      clear H11
      refine rest_at (l := [2]) rfl ?_
      refine rest_set (d := 8) rfl rfl rfl rfl ?_
      simp only [Act.put, sa, sz, ss]
      refine rest_nil (then_normal ?_)
      have E := ic_no hz.out hi.out (.inl hK)
      exact ⟨k + 1, ⟨(slotfn [undef, undef, undef, undef, s0 4, undef, undef, s0 7, undef, .int .i64 z, undef, undef, undef, undef, undef, undef, undef, undef, undef, undef, undef, undef, undef, undef, undef, undef, undef, .int .i64 ((k : Nat) : Int), .slice p2 zs.length c2, .int .i64 ((zs.length : Nat) : Int), .bool true, .int .i64 ((k : Nat) : Int), .int .i64 ((k + 1 : Nat) : Int), .slice p2 zs.length c2, .int .i64 ((k : Nat) : Int), PT g2 (o2 + k), .int .i64 z, .int .i64 z, .bool true, .bool true, undef, undef, undef, undef, .bool true, s0 45, s0 46, s0 47, s0 48, s0 49, s0 50, s0 51, s0 52, s0 53]), rfl, ⟨by rw [E]; exact H12.out.1, H12.out.2⟩, ⟨by omega, by rw [E]; first | exact hk0.2 | exact sl22_bv hcp | (have hb := hk0.2; rw [E7.out] at hb; exact hb)⟩⟩, by omega⟩
    · have hrd : True := trivial
      clear hrd
      obtain ⟨m, rfl, hm1⟩ := hK
      have hz : Hid (zs.getD k 0 = (m : Int)) := hz0
      clear hz0
      obtain ⟨p7, c7, e7⟩ := hk0.2.len hin
      rw [e7]
      have E7 : Hid (s0 7 = _) := e7
      clear e7
      refine wp_seq (wp_seq ?_)
      refine walk_seqB 4 [.quiet (.int .i64 ((k : Nat) : Int)), .quiet (.slice p2 zs.length c2), .quiet (.int .i64 ((zs.length : Nat) : Int)), .quiet (.bool true)] H8 ?ho12B ?he12B
      case ho12B => exact ak (fun _ => ⟨rfl, fun _ _ => rfl⟩) (ak (fun _ => ⟨rfl, fun _ _ => rfl⟩) (ak (by refine fun γ => ⟨rfl, fun w' h => ?_⟩; clear h; go_simp) (ak (by refine fun γ => ⟨rfl, fun w' h => ?_⟩; clear h; go_simp <;> omega) trivial)))
      intro _ w13 H13
      clear H8
      refine rest0 rfl (then_normal (wp_cond_true rfl ?_))
      refine wp_skip (then_normal ?_)
      refine wp_seq (wp_block (wp_seq ?_))
      refine (walk_seq) 5 [.quiet (.slice p2 zs.length c2), .quiet (.int .i64 ((k : Nat) : Int)), .quiet (PT g2 (o2 + k)), .quiet (.int .i64 ((m : Nat) : Int)), .quiet (.int .i64 ((m : Nat) : Int))] (fun u' => Mm u' [(γ4_0, hs true ((hby f (⟨fT, fun _ => 0, 0⟩ : Hq) i).s) ((hby f (⟨fT, fun _ => 0, 0⟩ : Hq) i).r) ((hby f (⟨fT, fun _ => 0, 0⟩ : Hq) i).c)), (0, ints .u32 fT 8), (1, ints .u32 kT 64)] ∧ (Cz p2 zs u' ∧ Rs gb o n f u')) ?pre13B ?F13B ?hpre13B (fun γ => ?hF13B) (by kernel_rfl) ?hL13B ?hS13B ?ho13B ?he13B
      case hpre13B => simp only [tk, tz]; rfl
      case hF13B => simp only [fill, Kind.val, Act.put, sa, sz, ss]; rfl
      case hL13B => exact trivial
      case hS13B => exact fun w' hb => ⟨H13.out.1.below hb, ⟨Cz.below CZ.out (H13.out.2.trans (hb.mono H13.out.2.size)), R0.out.below (H13.out.2.trans (hb.mono H13.out.2.size))⟩⟩
      case ho13B =>
        refine ak (fun _ => ⟨rfl, fun _ _ => rfl⟩) ?_
        refine ak (fun _ => ⟨rfl, fun _ _ => rfl⟩) ?_
        refine ak (fun γ => ⟨rfl, fun w' _ => ex_ixP60 (j := k) E2.out rfl rfl rfl (by omega)⟩) ?_
        refine ak (fun γ => ⟨rfl, fun w' hX => ex_ldZ (j := k) hX.2.1 E2.out (by omega) hz.out rfl rfl⟩) ?_
        refine ak (fun _ => ⟨rfl, fun _ _ => rfl⟩) ?_
        exact trivial
      intro γ w14 l hM hl
      have H14 := keepB H13 hM.below
      clear hM hl l H13 γ
      refine rest0 rfl (then_normal (wp_seq (wp_seq ?_)))
      refine walk_seqB 8 [.quiet (.int .i64 ((m : Nat) : Int)), .quiet (.bool false), .quiet (.bool false), .quiet (.int .i64 ((m : Nat) : Int)), .quiet (.slice p7 (n - i) c7), .quiet (.int .i64 (((n - i) : Nat) : Int)), .quiet (.bool true), .quiet (.bool true)] H14 ?ho14B ?he14B
      case ho14B => exact ak (fun _ => ⟨rfl, fun _ _ => rfl⟩) (ak (by refine fun γ => ⟨rfl, fun w' h => ?_⟩; clear h; go_simp <;> omega) (ak (fun _ => ⟨rfl, fun _ _ => rfl⟩) (ak (fun _ => ⟨rfl, fun _ _ => rfl⟩) (ak (fun _ => ⟨rfl, fun _ _ => rfl⟩) (ak (by refine fun γ => ⟨rfl, fun w' h => ?_⟩; clear h; go_simp) (ak (by refine fun γ => ⟨rfl, fun w' h => ?_⟩; clear h; go_simp <;> omega) (ak (by refine fun γ => ⟨rfl, fun w' h => ?_⟩; clear h; go_simp) trivial)))))))
      intro _ w15 H15
      clear H14
      refine rest0 rfl (then_normal (wp_cond_true rfl ?_))
      refine wp_exit ?_
      repeat refine then_exit ?_
      refine block_exit ?_
      refine then_normal ?_
      refine walk_seqB 2 [.quiet (.int .i64 ((k : Nat) : Int)), .quiet (.int .i64 ((k + 1 : Nat) : Int))] H15 ?ho15B ?he15B
      case ho15B => exact ak (fun _ => ⟨rfl, fun _ _ => rfl⟩) (ak (by refine fun γ => ⟨rfl, fun w' h => ?_⟩; clear h; go_simp; rw [IntKind.wrap_i64]; omega) trivial)
      intro _ w16 H16
      clear H15
      refine rest_at (l := [2]) rfl ?_
      refine rest_set (d := 8) rfl rfl rfl rfl ?_
      simp only [Act.put, sa, sz, ss]
      refine rest_nil (then_normal ?_)
      have E := ic_no hz.out hi.out (.inr (by omega))
      exact ⟨k + 1, ⟨(slotfn [undef, undef, undef, undef, s0 4, undef, undef, .slice p7 (n - i) c7, undef, .int .i64 ((m : Nat) : Int), undef, undef, undef, undef, undef, undef, undef, undef, undef, undef, undef, undef, undef, undef, undef, undef, undef, .int .i64 ((k : Nat) : Int), .slice p2 zs.length c2, .int .i64 ((zs.length : Nat) : Int), .bool true, .int .i64 ((k : Nat) : Int), .int .i64 ((k + 1 : Nat) : Int), .slice p2 zs.length c2, .int .i64 ((k : Nat) : Int), PT g2 (o2 + k), .int .i64 ((m : Nat) : Int), .int .i64 ((m : Nat) : Int), .bool false, .bool false, .int .i64 ((m : Nat) : Int), .slice p7 (n - i) c7, .int .i64 (((n - i) : Nat) : Int), .bool true, .bool true, s0 45, s0 46, s0 47, s0 48, s0 49, s0 50, s0 51, s0 52, s0 53]), rfl, ⟨by rw [E]; exact H16.out.1, H16.out.2⟩, ⟨by omega, by rw [E]; first | exact hk0.2 | exact sl22_bv hcp | (have hb := hk0.2; rw [E7.out] at hb; exact hb)⟩⟩, by omega⟩
    · have hrd : True := trivial
      clear hrd
      obtain ⟨m, rfl, hm1, hm2⟩ := hK
      have hz : Hid (zs.getD k 0 = (m : Int)) := hz0
      clear hz0
      have e7 := hk0.2.1 hm2
      rw [e7]
      clear e7
      refine wp_seq (wp_seq ?_)
      refine walk_seqB 4 [.quiet (.int .i64 ((k : Nat) : Int)), .quiet (.slice p2 zs.length c2), .quiet (.int .i64 ((zs.length : Nat) : Int)), .quiet (.bool true)] H8 ?ho16C ?he16C
      case ho16C => exact ak (fun _ => ⟨rfl, fun _ _ => rfl⟩) (ak (fun _ => ⟨rfl, fun _ _ => rfl⟩) (ak (by refine fun γ => ⟨rfl, fun w' h => ?_⟩; clear h; go_simp) (ak (by refine fun γ => ⟨rfl, fun w' h => ?_⟩; clear h; go_simp <;> omega) trivial)))
      intro _ w17 H17
      clear H8
      refine rest0 rfl (then_normal (wp_cond_true rfl ?_))
      refine wp_skip (then_normal ?_)
      refine wp_seq (wp_block (wp_seq ?_))
      refine (walk_seq) 5 [.quiet (.slice p2 zs.length c2), .quiet (.int .i64 ((k : Nat) : Int)), .quiet (PT g2 (o2 + k)), .quiet (.int .i64 ((m : Nat) : Int)), .quiet (.int .i64 ((m : Nat) : Int))] (fun u' => Mm u' [(γ4_0, hs true ((hby f (⟨fT, fun _ => 0, 0⟩ : Hq) i).s) ((hby f (⟨fT, fun _ => 0, 0⟩ : Hq) i).r) ((hby f (⟨fT, fun _ => 0, 0⟩ : Hq) i).c)), (0, ints .u32 fT 8), (1, ints .u32 kT 64)] ∧ (Cz p2 zs u' ∧ Rs gb o n f u')) ?pre17C ?F17C ?hpre17C (fun γ => ?hF17C) (by kernel_rfl) ?hL17C ?hS17C ?ho17C ?he17C
      case hpre17C => simp only [tk, tz]; rfl
      case hF17C => simp only [fill, Kind.val, Act.put, sa, sz, ss]; rfl
      case hL17C => exact trivial
      case hS17C => exact fun w' hb => ⟨H17.out.1.below hb, ⟨Cz.below CZ.out (H17.out.2.trans (hb.mono H17.out.2.size)), R0.out.below (H17.out.2.trans (hb.mono H17.out.2.size))⟩⟩
      case ho17C =>
        refine ak (fun _ => ⟨rfl, fun _ _ => rfl⟩) ?_
        refine ak (fun _ => ⟨rfl, fun _ _ => rfl⟩) ?_
        refine ak (fun γ => ⟨rfl, fun w' _ => ex_ixP60 (j := k) E2.out rfl rfl rfl (by omega)⟩) ?_
        refine ak (fun γ => ⟨rfl, fun w' hX => ex_ldZ (j := k) hX.2.1 E2.out (by omega) hz.out rfl rfl⟩) ?_
        refine ak (fun _ => ⟨rfl, fun _ _ => rfl⟩) ?_
        exact trivial
      intro γ w18 l hM hl
      have H18 := keepB H17 hM.below
      clear hM hl l H17 γ
      refine rest0 rfl (then_normal (wp_seq (wp_seq ?_)))
      refine walk_seqB 8 [.quiet (.int .i64 ((m : Nat) : Int)), .quiet (.bool false), .quiet (.bool false), .quiet (.int .i64 ((m : Nat) : Int)), .quiet (.slice (some ⟨gb, (o + i), none⟩) (n - i) (cp - i)), .quiet (.int .i64 (((n - i) : Nat) : Int)), .quiet (.bool false), .quiet (.bool false)] H18 ?ho18C ?he18C
      case ho18C => exact ak (fun _ => ⟨rfl, fun _ _ => rfl⟩) (ak (by refine fun γ => ⟨rfl, fun w' h => ?_⟩; clear h; go_simp <;> omega) (ak (fun _ => ⟨rfl, fun _ _ => rfl⟩) (ak (fun _ => ⟨rfl, fun _ _ => rfl⟩) (ak (fun _ => ⟨rfl, fun _ _ => rfl⟩) (ak (by refine fun γ => ⟨rfl, fun w' h => ?_⟩; clear h; go_simp) (ak (by refine fun γ => ⟨rfl, fun w' h => ?_⟩; clear h; go_simp <;> omega) (ak (by refine fun γ => ⟨rfl, fun w' h => ?_⟩; clear h; go_simp) trivial)))))))
      intro _ w19 H19
      clear H18
      refine rest0 rfl (then_normal (wp_cond_false rfl ?_))
      refine wp_skip (then_normal ?_)
      refine wp_seq (wp_seq ?_)
      refine walk_seqB 4 [.quiet (PT γ4_0 0), .quiet (.slice (some ⟨gb, (o + i), none⟩) (n - i) (cp - i)), .quiet (.int .i64 ((m : Nat) : Int)), .quiet (.slice (some ⟨gb, (o + i), none⟩) m (cp - i))] H19 ?ho19C ?he19C
      case ho19C => exact ak (fun _ => ⟨rfl, fun _ _ => rfl⟩) (ak (fun _ => ⟨rfl, fun _ _ => rfl⟩) (ak (fun _ => ⟨rfl, fun _ _ => rfl⟩) (ak (fun γ => ⟨rfl, fun w' _ => ex_slH22 (l := m) rfl rfl rfl (by omega)⟩) trivial)))
      intro _ w20 H20
      clear H19
      refine rest_at (l := [4, 5]) rfl ?_
      refine rest_enter (d := 49) (R := fun vv w' => vv = .int .i64 0 ∧ Mm w' [(γ4_0, hs true ((hby f (⟨fT, fun _ => 0, 0⟩ : Hq) (i + m)).s) ((hby f (⟨fT, fun _ => 0, 0⟩ : Hq) (i + m)).r) ((hby f (⟨fT, fun _ => 0, 0⟩ : Hq) (i + m)).c))] ∧ Kp γ4_0 w20 w') rfl rfl rfl (exec_call (args := #[PT γ4_0 0, .slice (some ⟨gb, (o + i), none⟩) m (cp - i)]) rfl call22 rfl (mpn rfl)) (Calls.mono ((show Calls Tryd.prog 22 #[PT γ4_0 0, .slice (some ⟨gb, (o + i), none⟩) m (cp - i)] w20 (fun e w' => e = .returned (.int .i64 0) ∧ Mm w' [(γ4_0, hs true ((hby f (⟨fT, fun _ => 0, 0⟩ : Hq) (i + m)).s) ((hby f (⟨fT, fun _ => 0, 0⟩ : Hq) (i + m)).r) ((hby f (⟨fT, fun _ => 0, 0⟩ : Hq) (i + m)).c))] ∧ Kp γ4_0 w20 w') from by have hh := Write_ok γ4_0 gb (o + i) m (cp - i) (hby f (⟨fT, fun _ => 0, 0⟩ : Hq) i) (fun j => f (i + j)) _ (Bv.start _ _ _ _) (by omega) (by rw [hby_c]; show 0 + i + m < _; omega) w20 (H20.out.1.two 0 2 rfl rfl (by decide)) ((R0.out.src H20.out.2 o4_0.out).sub i m (by omega)); rw [← hby_add] at hh; exact hh)) (fun e w2 hh => ⟨_, hh.1, rfl, hh.2⟩)) ?_
      rintro _ w21 ⟨rfl, hn, hp⟩
      have H21 : Hid (Mm w21 [(γ4_0, hs true ((hby f (⟨fT, fun _ => 0, 0⟩ : Hq) (i + m)).s) ((hby f (⟨fT, fun _ => 0, 0⟩ : Hq) (i + m)).r) ((hby f (⟨fT, fun _ => 0, 0⟩ : Hq) (i + m)).c)), (0, ints .u32 fT 8), (1, ints .u32 kT 64)] ∧ Below w.heap.size w w21) := ⟨H20.out.1.change 0 rfl hp hn, Below.kp H20.out.2 hp o4_0.out H20.out.2.size⟩
      clear hn hp H20
      simp only [Act.put, sa, sz, ss]
      refine rest_set (d := 50) (v := .bool false) (w' := w21) rfl rfl rfl (by go_simp) ?_
      simp only [Act.put, sa, sz, ss]
      refine rest_nil (then_normal ?_)
      refine wp_cond_false rfl (wp_skip (then_normal ?_))
      refine walk_seqB 3 [.quiet (.slice (some ⟨gb, (o + i), none⟩) (n - i) (cp - i)), .quiet (.int .i64 ((m : Nat) : Int)), .quiet (sl22 gb (o + i) (n - i) (cp - i) m)] H21 ?ho20C ?he20C
      case ho20C => exact ak (fun _ => ⟨rfl, fun _ _ => rfl⟩) (ak (fun _ => ⟨rfl, fun _ _ => rfl⟩) (ak (fun γ => ⟨rfl, fun w' _ => ex_sl22 (l := m) rfl rfl rfl (by omega) (by omega)⟩) trivial))
      intro _ w22 H22
      clear H21
      refine rest_at (l := [3]) rfl ?_
      refine rest_set (d := 7) rfl rfl rfl rfl ?_
      simp only [Act.put, sa, sz, ss]
      refine rest_nil (block_normal (then_normal ?_))
      refine walk_seqB 2 [.quiet (.int .i64 ((k : Nat) : Int)), .quiet (.int .i64 ((k + 1 : Nat) : Int))] H22 ?ho21C ?he21C
      case ho21C => exact ak (fun _ => ⟨rfl, fun _ _ => rfl⟩) (ak (by refine fun γ => ⟨rfl, fun w' h => ?_⟩; clear h; go_simp; rw [IntKind.wrap_i64]; omega) trivial)
      intro _ w23 H23
      clear H22
      refine rest_at (l := [2]) rfl ?_
      refine rest_set (d := 8) rfl rfl rfl rfl ?_
      simp only [Act.put, sa, sz, ss]
      refine rest_nil (then_normal ?_)
      have E := ic_yes hz.out hi.out hm1
      exact ⟨k + 1, ⟨(slotfn [undef, undef, undef, undef, s0 4, undef, undef, sl22 gb (o + i) (n - i) (cp - i) m, undef, .int .i64 ((m : Nat) : Int), undef, undef, undef, undef, undef, undef, undef, undef, undef, undef, undef, undef, undef, undef, undef, undef, undef, .int .i64 ((k : Nat) : Int), .slice p2 zs.length c2, .int .i64 ((zs.length : Nat) : Int), .bool true, .int .i64 ((k : Nat) : Int), .int .i64 ((k + 1 : Nat) : Int), .slice p2 zs.length c2, .int .i64 ((k : Nat) : Int), PT g2 (o2 + k), .int .i64 ((m : Nat) : Int), .int .i64 ((m : Nat) : Int), .bool false, .bool false, .int .i64 ((m : Nat) : Int), .slice (some ⟨gb, (o + i), none⟩) (n - i) (cp - i), .int .i64 (((n - i) : Nat) : Int), .bool false, .bool false, PT γ4_0 0, .slice (some ⟨gb, (o + i), none⟩) (n - i) (cp - i), .int .i64 ((m : Nat) : Int), .slice (some ⟨gb, (o + i), none⟩) m (cp - i), .int .i64 0, .bool false, .slice (some ⟨gb, (o + i), none⟩) (n - i) (cp - i), .int .i64 ((m : Nat) : Int), sl22 gb (o + i) (n - i) (cp - i) m]), rfl, ⟨by rw [E]; exact H23.out.1, H23.out.2⟩, ⟨by omega, by rw [E]; first | exact hk0.2 | exact sl22_bv hcp | (have hb := hk0.2; rw [E7.out] at hb; exact hb)⟩⟩, by omega⟩
    · have hrd : True := trivial
      clear hrd
      obtain ⟨rfl, hm1⟩ := hK
      have hz : Hid (zs.getD k 0 = 0) := hz0
      clear hz0
      obtain ⟨p7, c7, e7⟩ := hk0.2.2 hm1
      rw [e7]
      have E7 : Hid (s0 7 = _) := e7
      clear e7
      refine wp_seq (wp_seq ?_)
      refine walk_seqB 4 [.quiet (.int .i64 ((k : Nat) : Int)), .quiet (.slice p2 zs.length c2), .quiet (.int .i64 ((zs.length : Nat) : Int)), .quiet (.bool true)] H8 ?ho22D ?he22D
      case ho22D => exact ak (fun _ => ⟨rfl, fun _ _ => rfl⟩) (ak (fun _ => ⟨rfl, fun _ _ => rfl⟩) (ak (by refine fun γ => ⟨rfl, fun w' h => ?_⟩; clear h; go_simp) (ak (by refine fun γ => ⟨rfl, fun w' h => ?_⟩; clear h; go_simp <;> omega) trivial)))
      intro _ w24 H24
      clear H8
      refine rest0 rfl (then_normal (wp_cond_true rfl ?_))
      refine wp_skip (then_normal ?_)
      refine wp_seq (wp_block (wp_seq ?_))
      refine (walk_seq) 5 [.quiet (.slice p2 zs.length c2), .quiet (.int .i64 ((k : Nat) : Int)), .quiet (PT g2 (o2 + k)), .quiet (.int .i64 0), .quiet (.int .i64 0)] (fun u' => Mm u' [(γ4_0, hs true ((hby f (⟨fT, fun _ => 0, 0⟩ : Hq) i).s) ((hby f (⟨fT, fun _ => 0, 0⟩ : Hq) i).r) ((hby f (⟨fT, fun _ => 0, 0⟩ : Hq) i).c)), (0, ints .u32 fT 8), (1, ints .u32 kT 64)] ∧ (Cz p2 zs u' ∧ Rs gb o n f u')) ?pre23D ?F23D ?hpre23D (fun γ => ?hF23D) (by kernel_rfl) ?hL23D ?hS23D ?ho23D ?he23D
      case hpre23D => simp only [tk, tz]; rfl
      case hF23D => simp only [fill, Kind.val, Act.put, sa, sz, ss]; rfl
      case hL23D => exact trivial
      case hS23D => exact fun w' hb => ⟨H24.out.1.below hb, ⟨Cz.below CZ.out (H24.out.2.trans (hb.mono H24.out.2.size)), R0.out.below (H24.out.2.trans (hb.mono H24.out.2.size))⟩⟩
      case ho23D =>
        refine ak (fun _ => ⟨rfl, fun _ _ => rfl⟩) ?_
        refine ak (fun _ => ⟨rfl, fun _ _ => rfl⟩) ?_
        refine ak (fun γ => ⟨rfl, fun w' _ => ex_ixP60 (j := k) E2.out rfl rfl rfl (by omega)⟩) ?_
        refine ak (fun γ => ⟨rfl, fun w' hX => ex_ldZ (j := k) hX.2.1 E2.out (by omega) hz.out rfl rfl⟩) ?_
        refine ak (fun _ => ⟨rfl, fun _ _ => rfl⟩) ?_
        exact trivial
      intro γ w25 l hM hl
      have H25 := keepB H24 hM.below
      clear hM hl l H24 γ
      refine rest0 rfl (then_normal (wp_seq (wp_seq ?_)))
      refine walk_seqB 8 [.quiet (.int .i64 0), .quiet (.bool false), .quiet (.bool false), .quiet (.int .i64 0), .quiet (.slice p7 0 c7), .quiet (.int .i64 0), .quiet (.bool false), .quiet (.bool false)] H25 ?ho24D ?he24D
      case ho24D => exact ak (fun _ => ⟨rfl, fun _ _ => rfl⟩) (ak (by refine fun γ => ⟨rfl, fun w' h => ?_⟩; clear h; go_simp <;> omega) (ak (fun _ => ⟨rfl, fun _ _ => rfl⟩) (ak (fun _ => ⟨rfl, fun _ _ => rfl⟩) (ak (fun _ => ⟨rfl, fun _ _ => rfl⟩) (ak (by refine fun γ => ⟨rfl, fun w' h => ?_⟩; clear h; go_simp) (ak (by refine fun γ => ⟨rfl, fun w' h => ?_⟩; clear h; go_simp <;> omega) (ak (by refine fun γ => ⟨rfl, fun w' h => ?_⟩; clear h; go_simp) trivial)))))))
      intro _ w26 H26
      clear H25
      refine rest0 rfl (then_normal (wp_cond_false rfl ?_))
      refine wp_skip (then_normal ?_)
      refine wp_seq (wp_seq ?_)
      refine walk_seqB 4 [.quiet (PT γ4_0 0), .quiet (.slice p7 0 c7), .quiet (.int .i64 0), .quiet (.slice p7 0 c7)] H26 ?ho25D ?he25D
      case ho25D => exact ak (fun _ => ⟨rfl, fun _ _ => rfl⟩) (ak (fun _ => ⟨rfl, fun _ _ => rfl⟩) (ak (fun _ => ⟨rfl, fun _ _ => rfl⟩) (ak (fun γ => ⟨rfl, fun w' _ => ex_slH0 rfl rfl rfl⟩) trivial)))
      intro _ w27 H27
      clear H26
      refine rest_at (l := [4, 5]) rfl ?_
      refine rest_enter (d := 49) (R := fun vv w' => vv = .int .i64 0 ∧ Mm w' [(γ4_0, hs true ((hby f (⟨fT, fun _ => 0, 0⟩ : Hq) i).s) ((hby f (⟨fT, fun _ => 0, 0⟩ : Hq) i).r) ((hby f (⟨fT, fun _ => 0, 0⟩ : Hq) i).c))] ∧ Kp γ4_0 w27 w') rfl rfl rfl (exec_call (args := #[PT γ4_0 0, .slice p7 0 c7]) rfl call22 rfl (mpn rfl)) (Calls.mono (Write_ok γ4_0 0 0 0 0 (hby f (⟨fT, fun _ => 0, 0⟩ : Hq) i) (fun _ => 0) _ (Bv.void _ _ _ _ _) (by decide) (by rw [hby_c]; show 0 + i + 0 < _; omega) w27 (H27.out.1.two 0 2 rfl rfl (by decide)) (Src.void _ _ _ _ _)) (fun e w2 hh => ⟨_, hh.1, rfl, hh.2⟩)) ?_
      rintro _ w28 ⟨rfl, hn, hp⟩
      have H28 : Hid (Mm w28 [(γ4_0, hs true ((hby f (⟨fT, fun _ => 0, 0⟩ : Hq) i).s) ((hby f (⟨fT, fun _ => 0, 0⟩ : Hq) i).r) ((hby f (⟨fT, fun _ => 0, 0⟩ : Hq) i).c)), (0, ints .u32 fT 8), (1, ints .u32 kT 64)] ∧ Below w.heap.size w w28) := ⟨H27.out.1.change 0 rfl hp hn, Below.kp H27.out.2 hp o4_0.out H27.out.2.size⟩
      clear hn hp H27
      simp only [Act.put, sa, sz, ss]
      refine rest_set (d := 50) (v := .bool false) (w' := w28) rfl rfl rfl (by go_simp) ?_
      simp only [Act.put, sa, sz, ss]
      refine rest_nil (then_normal ?_)
      refine wp_cond_false rfl (wp_skip (then_normal ?_))
      refine walk_seqB 3 [.quiet (.slice p7 0 c7), .quiet (.int .i64 0), .quiet (.slice p7 0 c7)] H28 ?ho26D ?he26D
      case ho26D => exact ak (fun _ => ⟨rfl, fun _ _ => rfl⟩) (ak (fun _ => ⟨rfl, fun _ _ => rfl⟩) (ak (fun γ => ⟨rfl, fun w' _ => ex_slL0 rfl rfl rfl⟩) trivial))
      intro _ w29 H29
      clear H28
      refine rest_at (l := [3]) rfl ?_
      refine rest_set (d := 7) rfl rfl rfl rfl ?_
      simp only [Act.put, sa, sz, ss]
      refine rest_nil (block_normal (then_normal ?_))
      refine walk_seqB 2 [.quiet (.int .i64 ((k : Nat) : Int)), .quiet (.int .i64 ((k + 1 : Nat) : Int))] H29 ?ho27D ?he27D
      case ho27D => exact ak (fun _ => ⟨rfl, fun _ _ => rfl⟩) (ak (by refine fun γ => ⟨rfl, fun w' h => ?_⟩; clear h; go_simp; rw [IntKind.wrap_i64]; omega) trivial)
      intro _ w30 H30
      clear H29
      refine rest_at (l := [2]) rfl ?_
      refine rest_set (d := 8) rfl rfl rfl rfl ?_
      simp only [Act.put, sa, sz, ss]
      refine rest_nil (then_normal ?_)
      have E := ic_yes (m := 0) hz.out hi.out (by omega)
      exact ⟨k + 1, ⟨(slotfn [undef, undef, undef, undef, s0 4, undef, undef, .slice p7 0 c7, undef, .int .i64 0, undef, undef, undef, undef, undef, undef, undef, undef, undef, undef, undef, undef, undef, undef, undef, undef, undef, .int .i64 ((k : Nat) : Int), .slice p2 zs.length c2, .int .i64 ((zs.length : Nat) : Int), .bool true, .int .i64 ((k : Nat) : Int), .int .i64 ((k + 1 : Nat) : Int), .slice p2 zs.length c2, .int .i64 ((k : Nat) : Int), PT g2 (o2 + k), .int .i64 0, .int .i64 0, .bool false, .bool false, .int .i64 0, .slice p7 0 c7, .int .i64 0, .bool false, .bool false, PT γ4_0 0, .slice p7 0 c7, .int .i64 0, .slice p7 0 c7, .int .i64 0, .bool false, .slice p7 0 c7, .int .i64 0, .slice p7 0 c7]), rfl, ⟨by rw [E]; exact H30.out.1, H30.out.2⟩, ⟨by omega, by rw [E]; first | exact hk0.2 | exact sl22_bv hcp | (have hb := hk0.2; rw [E7.out] at hb; exact hb)⟩⟩, by omega⟩
  have hin := ic_le zs n k
  generalize hi0 : ic zs n k = i at hin hk0 H8
  clear hi0
  refine wp_seq (wp_seq ?_)
  refine walk_seqB 4 [.quiet (.int .i64 ((k : Nat) : Int)), .quiet (.slice p2 zs.length c2), .quiet (.int .i64 ((zs.length : Nat) : Int)), .quiet (.bool false)] H8 ?ho28o ?he28o
  case ho28o => exact ak (fun _ => ⟨rfl, fun _ _ => rfl⟩) (ak (fun _ => ⟨rfl, fun _ _ => rfl⟩) (ak (by refine fun γ => ⟨rfl, fun w' h => ?_⟩; clear h; go_simp) (ak (by refine fun γ => ⟨rfl, fun w' h => ?_⟩; clear h; go_simp <;> omega) trivial)))
  intro _ w31 H31
  clear H8
  refine rest0 rfl (then_normal (wp_cond_false rfl ?_))
  refine wp_exit ?_
  repeat refine then_exit ?_
  refine block_exit ?_
  refine then_normal (wp_seq (wp_seq ?_))
  refine walk_seqB 2 [.quiet (PT γ4_0 0), .quiet (s0 7)] H31 ?ho29o ?he29o
  case ho29o => exact ak (fun _ => ⟨rfl, fun _ _ => rfl⟩) (ak (fun _ => ⟨rfl, fun _ _ => rfl⟩) trivial)
  intro _ w32 H32
  clear H31
  refine rest_at (l := [2, 3]) rfl ?_
  refine rest_enter (d := 56) (R := fun vv w' => vv = .int .i64 0 ∧ Mm w' [(γ4_0, hs true ((hby f (⟨fT, fun _ => 0, 0⟩ : Hq) n).s) ((hby f (⟨fT, fun _ => 0, 0⟩ : Hq) n).r) ((hby f (⟨fT, fun _ => 0, 0⟩ : Hq) n).c))] ∧ Kp γ4_0 w32 w') rfl rfl rfl (exec_call (args := #[PT γ4_0 0, s0 7]) rfl call22 rfl (mpn rfl)) (Calls.mono ((show Calls Tryd.prog 22 #[PT γ4_0 0, s0 7] w32 (fun e w' => e = .returned (.int .i64 0) ∧ Mm w' [(γ4_0, hs true ((hby f (⟨fT, fun _ => 0, 0⟩ : Hq) n).s) ((hby f (⟨fT, fun _ => 0, 0⟩ : Hq) n).r) ((hby f (⟨fT, fun _ => 0, 0⟩ : Hq) n).c))] ∧ Kp γ4_0 w32 w') from by have hh := Write_ok γ4_0 gb (o + i) (n - i) (cp - i) (hby f (⟨fT, fun _ => 0, 0⟩ : Hq) i) (fun j => f (i + j)) (s0 7) (hk0.2.shift hin) (by omega) (by rw [hby_c]; show 0 + i + (n - i) < _; omega) w32 (H32.out.1.two 0 2 rfl rfl (by decide)) ((R0.out.src H32.out.2 o4_0.out).sub i (n - i) (by omega)); rw [← hby_add, show i + (n - i) = n by omega] at hh; exact hh)) (fun e w2 hh => ⟨_, hh.1, rfl, hh.2⟩)) ?_
  rintro _ w33 ⟨rfl, hn, hp⟩
  have H33 : Hid (Mm w33 [(γ4_0, hs true ((hby f (⟨fT, fun _ => 0, 0⟩ : Hq) n).s) ((hby f (⟨fT, fun _ => 0, 0⟩ : Hq) n).r) ((hby f (⟨fT, fun _ => 0, 0⟩ : Hq) n).c)), (0, ints .u32 fT 8), (1, ints .u32 kT 64)] ∧ Below w.heap.size w w33) := ⟨H32.out.1.change 0 rfl hp hn, Below.kp H32.out.2 hp o4_0.out H32.out.2.size⟩
  clear hn hp H32
  simp only [Act.put, sa, sz, ss]
  refine rest_set (d := 57) (v := .bool false) (w' := w33) rfl rfl rfl (by go_simp) ?_
  simp only [Act.put, sa, sz, ss]
  refine rest_nil (then_normal ?_)
  refine wp_cond_false rfl (wp_skip ?_)
  refine then_normal (wp_seq ?_)
  refine (walk_seq) 4 [.quiet (.slice p1 n cp), .call (.agg (ints .u8 (dg0 f n) 32).toArray), .made (ints .u8 (fun _ => 0) 32) 25, .laid 2 (ints .u8 (fun _ => 0) 32) (ints .u8 (dg0 f n) 32)] (fun u' => Mm u' [(γ4_0, hs true ((hby f (⟨fT, fun _ => 0, 0⟩ : Hq) n).s) ((hby f (⟨fT, fun _ => 0, 0⟩ : Hq) n).r) ((hby f (⟨fT, fun _ => 0, 0⟩ : Hq) n).c)), (0, ints .u32 fT 8), (1, ints .u32 kT 64)] ∧ (Cz p2 zs u' ∧ Rs gb o n f u')) ?pre30o ?F30o ?hpre30o (fun γ => ?hF30o) (by kernel_rfl) ?hL30o ?hS30o ?ho30o ?he30o
  case hpre30o => simp only [tk, tz]; rfl
  case hF30o => simp only [fill, Kind.val, Act.put, sa, sz, ss]; rfl
  case hL30o => exact ⟨⟨_, rfl⟩, trivial⟩
  case hS30o => exact fun w' hb => ⟨H33.out.1.below hb, ⟨Cz.below CZ.out (H33.out.2.trans (hb.mono H33.out.2.size)), R0.out.below (H33.out.2.trans (hb.mono H33.out.2.size))⟩⟩
  case ho30o =>
    refine ak (fun _ => ⟨rfl, fun _ _ => rfl⟩) ?_
    refine ak (fun γ => ⟨rfl, fun w' hX => have h := hX.1; ⟨10, #[.slice p1 n cp], exec_call rfl call10 rfl (mpn rfl), Sum_any gb o n cp f _ hv.out hcp (by omega) w' (h.two 1 2 rfl rfl (by decide)) hX.2.2⟩⟩) ?_
    refine ak (fun γ => ⟨rfl, fun w' => ex_mk25 rfl⟩) ?_
    refine ak (fun γ => ⟨rfl, rfl, (ints_len _ _ _).trans (ints_len _ _ _).symm, fun w' h => ex_laidI h Tryd.sizeOf25 rfl rfl rfl⟩) ?_
    exact trivial
  intro γ w34 l hM hl
  have H34 : Hid (Mm w34 [(γ 2, ints .u8 (dg0 f n) 32), (γ4_0, hs true ((hby f (⟨fT, fun _ => 0, 0⟩ : Hq) n).s) ((hby f (⟨fT, fun _ => 0, 0⟩ : Hq) n).r) ((hby f (⟨fT, fun _ => 0, 0⟩ : Hq) n).c)), (0, ints .u32 fT 8), (1, ints .u32 kT 64)] ∧ _) := growB H33 hM (Nat.le_refl _) hl [2] rfl (by decide)
  have o30_2 := ownB H33 hM (Nat.le_refl _) hl (i := 2) rfl
  clear hM hl l H33
  generalize γ 2 = γ30_2 at H34 o30_2 ⊢
  clear γ
  refine rest0 rfl (then_normal (wp_seq ?_))
  refine walk_seqA 9 [.quiet (.agg (ints .u8 (dg0 f n) 32).toArray), .call (.string (st (tx (dg0 f n) 32) 64)), .call (.tuple #[.agg (ints .u8 (pa (tx (dg0 f n) 32) 32) 32).toArray, .int .i64 0]), .quiet (.tuple #[.agg (ints .u8 (pa (tx (dg0 f n) 32) 32) 32).toArray, .int .i64 0]), .quiet (.agg (ints .u8 (pa (tx (dg0 f n) 32) 32) 32).toArray), .quiet (.int .i64 0), .made (ints .u8 (fun _ => 0) 32) 25, .laid 6 (ints .u8 (fun _ => 0) 32) (ints .u8 (pa (tx (dg0 f n) 32) 32) 32), .quiet (.int .i64 0)] (sB H34) ?ho31o ?he31o (hL := ?hL31o)
  case hL31o => exact ⟨⟨_, rfl⟩, trivial⟩
  case ho31o => exact ak (fun γ => ⟨rfl, fun w' h => ex_loadT h 0 rfl rfl rfl Tryd.isAgg25 Tryd.sizeOf25 (ints_whole _ _ _) (ints_len _ _ _)⟩) (ak (fun γ => ⟨rfl, fun w' h => ⟨19, #[.agg (ints .u8 (dg0 f n) 32).toArray], exec_call rfl call19 rfl (mpn rfl), Text_any (dg0 f n) (dg0_lt _ _) w'⟩⟩) (ak (fun γ => ⟨rfl, fun w' h => ⟨15, #[.string (st (tx (dg0 f n) 32) 64)], exec_call rfl call15 rfl (mpn rfl), Parse_ok (tx (dg0 f n) 32) (tx_lt _ _) (al_ok _ (dg0_lt _ _)) w'⟩⟩) (ak (fun _ => ⟨rfl, fun _ _ => rfl⟩) (ak (by refine fun γ => ⟨rfl, fun w' h => ?_⟩; clear h; go_simp) (ak (by refine fun γ => ⟨rfl, fun w' h => ?_⟩; clear h; go_simp) (ak (fun γ => ⟨rfl, fun w' => ex_mk25 rfl⟩) (ak (fun γ => ⟨rfl, rfl, (ints_len _ _ _).trans (ints_len _ _ _).symm, fun w' h => ex_laidI h Tryd.sizeOf25 rfl rfl rfl⟩) (ak (fun _ => ⟨rfl, fun _ _ => rfl⟩) trivial))))))))
  intro γ w35 l hM hl
  have H35 : Hid (Mm w35 [(γ 6, ints .u8 (pa (tx (dg0 f n) 32) 32) 32), (γ30_2, ints .u8 (dg0 f n) 32), (γ4_0, hs true ((hby f (⟨fT, fun _ => 0, 0⟩ : Hq) n).s) ((hby f (⟨fT, fun _ => 0, 0⟩ : Hq) n).r) ((hby f (⟨fT, fun _ => 0, 0⟩ : Hq) n).c)), (0, ints .u32 fT 8), (1, ints .u32 kT 64)] ∧ _) := growB H34 hM (Nat.le_refl _) hl [6] rfl (by decide)
  have o31_6 := ownB H34 hM (Nat.le_refl _) hl (i := 6) rfl
  clear hM hl l H34
  generalize γ 6 = γ31_6 at H35 o31_6 ⊢
  clear γ
  refine rest0 rfl (then_normal (wp_seq ?_))
  refine walk_anyB 30 [.quiet (.bool true), .quiet (.bool true), .quiet (PT γ4_0 0), .call (.agg (ints .u8 (fz (hby f (⟨fT, fun _ => 0, 0⟩ : Hq) n).s (hby f (⟨fT, fun _ => 0, 0⟩ : Hq) n).r (hby f (⟨fT, fun _ => 0, 0⟩ : Hq) n).c) 32).toArray), .quiet (.agg (ints .u8 (dg0 f n) 32).toArray), .quiet (.bool true), .quiet (.bool true), .quiet (.bool true), .quiet (PT γ4_0 0), .call (.int .i64 ((n : Nat) : Int)), .quiet (.slice p1 n cp), .quiet (.int .i64 ((n : Nat) : Int)), .quiet (.bool true), .quiet (.bool true), .quiet (.bool true), .quiet (.int .i64 0), .quiet (.bool true), .quiet (.bool true), .quiet (.bool true), .quiet (.agg (ints .u8 (pa (tx (dg0 f n) 32) 32) 32).toArray), .quiet (.agg (ints .u8 (dg0 f n) 32).toArray), .quiet (.bool true), .quiet (.bool true), .quiet (.bool true), .quiet (.agg (ints .u8 (dg0 f n) 32).toArray), .call (.string (st (tx (dg0 f n) 32) 64)), .quiet (.int .i64 64), .quiet (.bool true), .quiet (.bool true), .quiet (.bool true)] H35 ?ho32o ?he32o (hL := ?hL32o)
  case hL32o => exact trivial
  case ho32o => exact ak (fun _ => ⟨rfl, fun _ _ => rfl⟩) (ak (fun _ => ⟨rfl, fun _ _ => rfl⟩) (ak (fun _ => ⟨rfl, fun _ _ => rfl⟩) (ak (fun γ => ⟨rfl, fun w' h => ⟨25, #[PT γ4_0 0], exec_call rfl call25 rfl (mpn rfl), HSum_ok _ (hby f (⟨fT, fun _ => 0, 0⟩ : Hq) n) w' (h.two 2 4 rfl rfl (by decide))⟩⟩) (ak (fun γ => ⟨rfl, fun w' h => ex_loadT h 1 rfl rfl rfl Tryd.isAgg25 Tryd.sizeOf25 (ints_whole _ _ _) (ints_len _ _ _)⟩) (ak (fun γ => ⟨rfl, fun w' _ => ex_eq25 (all_of (fun _ _ => rfl)) rfl rfl rfl⟩) (ak (by refine fun γ => ⟨rfl, fun w' h => ?_⟩; clear h; go_simp) (ak (fun _ => ⟨rfl, fun _ _ => rfl⟩) (ak (fun _ => ⟨rfl, fun _ _ => rfl⟩) (ak (fun γ => ⟨rfl, fun w' h => ⟨27, #[PT γ4_0 0], exec_call rfl call27 rfl (mpn rfl), (by have hh := Len_ok _ (hby f (⟨fT, fun _ => 0, 0⟩ : Hq) n) (by rw [c_n]; omega) w' (h.one 2 rfl); rw [c_n] at hh; exact hh)⟩⟩) (ak (fun _ => ⟨rfl, fun _ _ => rfl⟩) (ak (by refine fun γ => ⟨rfl, fun w' h => ?_⟩; clear h; go_simp) (ak (by refine fun γ => ⟨rfl, fun w' h => ?_⟩; clear h; go_simp <;> omega) (ak (by refine fun γ => ⟨rfl, fun w' h => ?_⟩; clear h; go_simp) (ak (fun _ => ⟨rfl, fun _ _ => rfl⟩) (ak (fun _ => ⟨rfl, fun _ _ => rfl⟩) (ak (by refine fun γ => ⟨rfl, fun w' h => ?_⟩; clear h; go_simp) (ak (by refine fun γ => ⟨rfl, fun w' h => ?_⟩; clear h; go_simp) (ak (fun _ => ⟨rfl, fun _ _ => rfl⟩) (ak (fun γ => ⟨rfl, fun w' h => ex_loadT h 0 rfl rfl rfl Tryd.isAgg25 Tryd.sizeOf25 (ints_whole _ _ _) (ints_len _ _ _)⟩) (ak (fun γ => ⟨rfl, fun w' h => ex_loadT h 1 rfl rfl rfl Tryd.isAgg25 Tryd.sizeOf25 (ints_whole _ _ _) (ints_len _ _ _)⟩) (ak (fun γ => ⟨rfl, fun w' _ => ex_eq25 (all_of (fun j hj => pa_tx _ (dg0_lt _ _) 32 j (by decide) hj)) rfl rfl rfl⟩) (ak (by refine fun γ => ⟨rfl, fun w' h => ?_⟩; clear h; go_simp) (ak (fun _ => ⟨rfl, fun _ _ => rfl⟩) (ak (fun γ => ⟨rfl, fun w' h => ex_loadT h 1 rfl rfl rfl Tryd.isAgg25 Tryd.sizeOf25 (ints_whole _ _ _) (ints_len _ _ _)⟩) (ak (fun γ => ⟨rfl, fun w' h => ⟨19, #[.agg (ints .u8 (dg0 f n) 32).toArray], exec_call rfl call19 rfl (mpn rfl), Text_any (dg0 f n) (dg0_lt _ _) w'⟩⟩) (ak (fun γ => ⟨rfl, fun w' _ => ex_lenS (n := 64) rfl rfl⟩) (ak (by refine fun γ => ⟨rfl, fun w' h => ?_⟩; clear h; go_simp <;> omega) (ak (by refine fun γ => ⟨rfl, fun w' h => ?_⟩; clear h; go_simp) (ak (fun _ => ⟨rfl, fun _ _ => rfl⟩) trivial)))))))))))))))))))))))))))))
  intro _ w36 H36
  clear H35
  refine rest0 rfl (then_normal (wp_ret ?_))
  repeat (first | refine then_ret ?_ | refine block_ret ?_)
  refine bodyPost_ret (v := .bool true) (by simp [results, Tryd.results8, go_sem, *]) rfl ?_
  exact ⟨rfl, H36.out.2⟩
set_option maxHeartbeats 8000000 in
set_option maxRecDepth 100000 in
theorem pieces_long1 (f : Nat → Nat) (n gb o cp : Nat) (p1 p2 : Option Addr) (zs : List Int) (c2 : Nat) (hv0 : Bv gb o n cp 0 (.slice p1 n cp)) (_ : n ≤ cp) (hp20 : 0 < zs.length → ∃ g o, p2 = some ⟨g, o, none⟩) (hn : 20000 < n) (w : World) (hm : Mm w [(0, ints .u32 fT 8), (1, ints .u32 kT 64)]) (hC : Cz p2 zs w) (hR : Rs gb o n f w) :
    Calls Tryd.prog 8 #[.slice p1 n cp, .slice p2 zs.length c2] w fun e w' => e = .returned (.bool true) ∧ Below w.heap.size w w' := by
  have H0 : Hid (_ ∧ _) := ⟨hm, Below.refl w.heap.size w⟩
  clear hm
  have hv : Hid _ := hv0
  have hp2 : Hid _ := hp20
  have CZ : Hid (Cz p2 zs w) := hC
  have R0 : Hid (Rs gb o n f w) := hR
  clear hv0 hp20 hC hR
  go_enter Tryd.func8, Tryd.ntmps8
  refine wp_seq ?_
  refine walk_seqB 1 [.quiet (.bool false)] H0 ?ho1 ?he1
  case ho1 => exact ak (fun _ => ⟨rfl, fun _ _ => rfl⟩) trivial
  intro _ w1 H1
  refine rest0 rfl (then_normal (wp_seq ?_))
  refine walk_seqB 2 [.call (.bool true), .quiet (.bool true)] H1 ?ho2 ?he2
  case ho2 => exact ak (fun γ => ⟨rfl, fun w' h => ⟨7, #[], exec_call rfl call7 rfl (mpn rfl), known_law w' (h.two 0 1 rfl rfl (by decide))⟩⟩) (ak (fun _ => ⟨rfl, fun _ _ => rfl⟩) trivial)
  intro _ w2 H2
  clear H1
  refine rest0 rfl (then_normal (wp_seq (wp_seq ?_)))
  refine walk_seqB 8 [.quiet (.slice p1 n cp), .quiet (.int .i64 ((n : Nat) : Int)), .quiet (.bool true), .quiet (.bool true), .gone, .gone, .gone, .quiet (.bool true)] H2 ?ho3 ?he3
  case ho3 => exact ak (fun _ => ⟨rfl, fun _ _ => rfl⟩) (ak (by refine fun γ => ⟨rfl, fun w' h => ?_⟩; clear h; go_simp) (ak (by refine fun γ => ⟨rfl, fun w' h => ?_⟩; clear h; go_simp <;> omega) (ak (fun _ => ⟨rfl, fun _ _ => rfl⟩) (ak (fun γ => rfl) (ak (fun γ => rfl) (ak (fun γ => rfl) (ak (by refine fun γ => ⟨rfl, fun w' h => ?_⟩; clear h; go_simp) trivial)))))))
  intro _ w3 H3
  clear H2
  refine rest0 rfl (then_normal (wp_cond_true rfl (wp_seq ?_)))
  refine walk_seqB 2 [.quiet (.bool true), .quiet (.bool true)] H3 ?ho4 ?he4
  case ho4 => exact ak (fun _ => ⟨rfl, fun _ _ => rfl⟩) (ak (fun _ => ⟨rfl, fun _ _ => rfl⟩) trivial)
  intro _ w4 H4
  clear H3
  refine rest0 rfl (then_normal (wp_ret ?_))
  repeat (first | refine then_ret ?_ | refine block_ret ?_)
  refine bodyPost_ret (v := .bool true) (by simp [results, Tryd.results8, go_sem, *]) rfl ?_
  exact ⟨rfl, H4.out.2⟩
set_option maxHeartbeats 8000000 in
set_option maxRecDepth 100000 in
theorem pieces_long2 (f : Nat → Nat) (n gb o cp : Nat) (p1 p2 : Option Addr) (zs : List Int) (c2 : Nat) (hv0 : Bv gb o n cp 0 (.slice p1 n cp)) (_ : n ≤ cp) (hp20 : 0 < zs.length → ∃ g o, p2 = some ⟨g, o, none⟩) (hn : n ≤ 20000) (hl : 100 < zs.length) (w : World) (hm : Mm w [(0, ints .u32 fT 8), (1, ints .u32 kT 64)]) (hC : Cz p2 zs w) (hR : Rs gb o n f w) :
    Calls Tryd.prog 8 #[.slice p1 n cp, .slice p2 zs.length c2] w fun e w' => e = .returned (.bool true) ∧ Below w.heap.size w w' := by
  have H0 : Hid (_ ∧ _) := ⟨hm, Below.refl w.heap.size w⟩
  clear hm
  have hv : Hid _ := hv0
  have hp2 : Hid _ := hp20
  have CZ : Hid (Cz p2 zs w) := hC
  have R0 : Hid (Rs gb o n f w) := hR
  clear hv0 hp20 hC hR
  go_enter Tryd.func8, Tryd.ntmps8
  refine wp_seq ?_
  refine walk_seqB 1 [.quiet (.bool false)] H0 ?ho1 ?he1
  case ho1 => exact ak (fun _ => ⟨rfl, fun _ _ => rfl⟩) trivial
  intro _ w1 H1
  refine rest0 rfl (then_normal (wp_seq ?_))
  refine walk_seqB 2 [.call (.bool true), .quiet (.bool true)] H1 ?ho2 ?he2
  case ho2 => exact ak (fun γ => ⟨rfl, fun w' h => ⟨7, #[], exec_call rfl call7 rfl (mpn rfl), known_law w' (h.two 0 1 rfl rfl (by decide))⟩⟩) (ak (fun _ => ⟨rfl, fun _ _ => rfl⟩) trivial)
  intro _ w2 H2
  clear H1
  refine rest0 rfl (then_normal (wp_seq (wp_seq ?_)))
  refine walk_seqB 8 [.quiet (.slice p1 n cp), .quiet (.int .i64 ((n : Nat) : Int)), .quiet (.bool false), .quiet (.bool false), .quiet (.slice p2 zs.length c2), .quiet (.int .i64 ((zs.length : Nat) : Int)), .quiet (.bool true), .quiet (.bool true)] H2 ?ho3 ?he3
  case ho3 => exact ak (fun _ => ⟨rfl, fun _ _ => rfl⟩) (ak (by refine fun γ => ⟨rfl, fun w' h => ?_⟩; clear h; go_simp) (ak (by refine fun γ => ⟨rfl, fun w' h => ?_⟩; clear h; go_simp <;> omega) (ak (fun _ => ⟨rfl, fun _ _ => rfl⟩) (ak (fun _ => ⟨rfl, fun _ _ => rfl⟩) (ak (by refine fun γ => ⟨rfl, fun w' h => ?_⟩; clear h; go_simp) (ak (by refine fun γ => ⟨rfl, fun w' h => ?_⟩; clear h; go_simp <;> omega) (ak (by refine fun γ => ⟨rfl, fun w' h => ?_⟩; clear h; go_simp) trivial)))))))
  intro _ w3 H3
  clear H2
  refine rest0 rfl (then_normal (wp_cond_true rfl (wp_seq ?_)))
  refine walk_seqB 2 [.quiet (.bool true), .quiet (.bool true)] H3 ?ho4 ?he4
  case ho4 => exact ak (fun _ => ⟨rfl, fun _ _ => rfl⟩) (ak (fun _ => ⟨rfl, fun _ _ => rfl⟩) trivial)
  intro _ w4 H4
  clear H3
  refine rest0 rfl (then_normal (wp_ret ?_))
  repeat (first | refine then_ret ?_ | refine block_ret ?_)
  refine bodyPost_ret (v := .bool true) (by simp [results, Tryd.results8, go_sem, *]) rfl ?_
  exact ⟨rfl, H4.out.2⟩
end Rg
end Go.Proofs.YtfboipfpnkngdaaDoor
end
section
namespace Go.Proofs.YtfboipfpnkngdaaDoor
open Go.ChangeShapes Go.WideShapes Go.ChangeAt Go.RowKit
theorem Tryd.own : ownKnob Tryd.prog.godebug = none := by kernel_rfl
theorem Tryd.laidOut : laidOutB Tryd.prog = true := by kernel_rfl
theorem Tryd.cells5 : Tryd.prog.cellsOf 5 = 1 := by kernel_rfl
set_option maxRecDepth 100000 in
theorem open_bytes {H : Type} {enc : TypeId × Value → H} {w : World} {base : Nat} {sp : Nat → Bool} {held : Bool} {r : Reach} {b0 : Nat} {v : Value} {d : DataW H} {ps : List MemPlace}
    (hval : Value.okWide Tryd.prog w r b0 22 v) (hd : DataW.Trod enc Tryd.prog w base sp held 22 v d ps) :
    ∃ xs c, BSl w xs c v ∧ (∀ x ∈ xs, 0 ≤ x ∧ x < 256) ∧ (v = .slice none 0 0 ∨ ∃ a k c', v = .slice (some a) k c') ∧ ∀ x ∈ ps, x.block < w.heap.size := by
  obtain ⟨a0, len, cap, rfl⟩ := okWide_slice Tryd.underlying22 hval
  obtain ⟨fuel, hf⟩ := hd
  rcases open_ints Tryd.underlying22 Tryd.underlying5 Tryd.cells5 hf with ⟨hcs, hx⟩ | ⟨a, len', cap', zs, hcs, _, hl, hm, hz, hx, hcell, hwz⟩
  · simp [Value.cells] at hcs
    obtain ⟨rfl, rfl, rfl⟩ := hcs
    simp only [Prod.mk.injEq] at hx
    obtain ⟨_, rfl⟩ := hx
    exact ⟨[], 0, .void none rfl, by simp, .inl rfl, by simp⟩
  · simp [Value.cells] at hcs
    obtain ⟨rfl, rfl, rfl⟩ := hcs
    simp only [Prod.mk.injEq] at hx
    obtain ⟨_, rfl⟩ := hx
    have hlz : len ≤ zs.length := by rw [hz]; split <;> omega
    have hps : ∀ x ∈ MemPlace.row a zs.length, x.block < w.heap.size := fun x hx => by
      obtain ⟨i, hi, rfl⟩ := MemPlace.mem_row.1 hx
      have := World.block_lt_of_cell? w _ (hcell i hi)
      obtain ⟨b, off, rfl, _⟩ := ints_at hcell (by omega)
      exact World.block_lt_of_cell? w _ (hcell 0 (by omega))
    have hb : ∀ x ∈ zs, 0 ≤ x ∧ x < 256 := fun x hx => by
      have := bounds_u8 (hwz x hx)
      omega
    by_cases h0 : len = 0
    · subst h0
      exact ⟨[], cap, .void (some a) rfl, by simp, .inr ⟨_, _, _, rfl⟩, hps⟩
    · obtain ⟨b, off, rfl, hc⟩ := ints_at hcell (by omega)
      refine ⟨zs.take len, cap, ?_, fun x hx => hb x (List.mem_of_mem_take hx), .inr ⟨_, _, _, rfl⟩, hps⟩
      have hlen : (zs.take len).length = len := by simp; omega
      have hf : BSl w (zs.take len) cap (.slice (some ⟨b, off, none⟩) (zs.take len).length cap) := .full b off (World.block_lt_of_cell? w _ (hc 0 (by omega))) (by rw [hlen]; exact hl) (fun i hi => by
        rw [hlen] at hi
        rw [hc i (by omega)]
        simp [hi])
      rw [hlen] at hf
      exact hf
namespace Rg
abbrev laidL : List (String × DataW Unit) := Rows.digestSumsRow.laid
abbrev laidN : List (String × DataW Unit) := Rows.digestNilRow.laid
abbrev nmA : String := match laidL with
  | (n, _) :: _ => n
  | [] => Tryd.f3.name
abbrev nmB : String := match laidN with
  | (n, _) :: _ => n
  | [] => Tryd.f3.name
theorem gA' : Tryd.prog.globalNamed nmA = some 0 := by kernel_rfl
theorem gB' : Tryd.prog.globalNamed nmB = some 1 := by kernel_rfl
theorem tA : (Tryd.prog.globals[0]?).map (·.type) = some 53 := by kernel_rfl
theorem tB : (Tryd.prog.globals[1]?).map (·.type) = some 66 := by kernel_rfl
theorem datA : (Rows.laid_reliquary_digest_first : DataW Unit) = Lib.tabData .u32 ((List.range 8).map fun j => (fT j : Int)) := by kernel_rfl
theorem datB : (Rows.laid_reliquary_digest_rounds : DataW Unit) = Lib.tabData .u32 ((List.range 64).map fun j => (kT j : Int)) := by kernel_rfl
theorem map_ints (f : Nat → Nat) (n : Nat) : (((List.range n).map fun j => (f j : Int)).map fun z => Value.int .u32 z) = ints .u32 f n := by
  unfold ints
  rw [List.map_map]
  rfl
theorem blk_of {W : World} {g n : Nat} {f : Nat → Nat} {nm : String} {cs : Array Value} (hg : Tryd.prog.globalNamed nm = some g) (hv : W.var? Tryd.prog nm = some cs) (hcs : cs.toList = ints .u32 f n) (hn : 0 < n) {ps : List MemPlace} (hpl : ∀ i, i < n → MemPlace.cell g i ∈ ps)
    (hc : ∀ b off, MemPlace.cell b off ∈ ps → (∃ c t, W.heap[b]? = some (.cells c t (0, 0))) ∧ ∀ u v, W.cell? ⟨b, off, Option.none⟩ = some (.iface u v) → Value.okWide Tryd.prog W .any 0 u v) : g < W.heap.size ∧ Blk W g (ints .u32 f n) := by
  obtain ⟨⟨c0, t0, hheap⟩, _⟩ := hc g 0 (hpl 0 hn)
  refine ⟨?_, fun j v hj => ⟨?_, ?_⟩⟩
  · rcases Nat.lt_or_ge g W.heap.size with h' | h'
    · exact h'
    · rw [Array.getElem?_eq_none (by omega)] at hheap; cases hheap
  · rw [World.var?_cell hg hv j]
    rw [← hcs] at hj
    simpa using hj
  · unfold World.frozen?
    rw [hheap]
    simp
set_option maxRecDepth 100000 in
theorem tabs_of_laid {W : World} (h : laidMetH Tryd.prog laidL W) : Mm W [(0, ints .u32 fT 8), (1, ints .u32 kT 64)] := by
  rw [MakeChecks.laidMetH_plain _ _ _ (by kernel_rfl)] at h
  obtain ⟨ps, ⟨g, t, cs, fuel, p, q, hg, ht, hv, hd, ⟨g2, t2, cs2, fuel2, p2, q2, hg2, ht2, hv2, hd2, hq2, hps2⟩, hps⟩, hnd, hc⟩ := h
  obtain rfl := Option.some.inj (gA'.symm.trans hg)
  obtain rfl := Option.some.inj (tA.symm.trans ht)
  obtain rfl := Option.some.inj (gB'.symm.trans hg2)
  obtain rfl := Option.some.inj (tB.symm.trans ht2)
  rw [datA] at hd
  rw [datB] at hd2
  have e1 := Lib.cells_of_tab (P := Tryd.prog) (t := 53) (e := 51) (n := 8) (k := .u32) (by kernel_rfl) (by kernel_rfl) (by kernel_rfl) (by kernel_rfl) hd
  have e2 := Lib.cells_of_tab (P := Tryd.prog) (t := 66) (e := 51) (n := 64) (k := .u32) (by kernel_rfl) (by kernel_rfl) (by kernel_rfl) (by kernel_rfl) hd2
  rw [map_ints] at e1 e2
  have s1 : cs.size = 8 := by rw [← Array.length_toList, e1, ints_len]
  have s2 : cs2.size = 64 := by rw [← Array.length_toList, e2, ints_len]
  have b1 := blk_of (f := fT) (n := 8) hg hv e1 (by decide) (ps := ps) (fun i hi => by
    rw [hps]
    refine List.mem_append_left _ (List.mem_append_left _ ?_)
    unfold MemPlace.row
    simp [s1]
    omega) hc
  have b2 := blk_of (f := kT) (n := 64) hg2 hv2 e2 (by decide) (ps := ps) (fun i hi => by
    rw [hps, hps2]
    refine List.mem_append_right _ (List.mem_append_left _ (List.mem_append_left _ ?_))
    unfold MemPlace.row
    simp [s2]
    omega) hc
  refine ⟨fun pq hpq => ?_, ?_⟩
  · rcases List.mem_cons.1 hpq with rfl | hpq
    · exact b1
    · rw [List.mem_singleton.1 hpq]; exact b2
  · simp
theorem door_met (os : Os) (args : Array Value) : laidMetH Tryd.prog laidL ((World.doorLaid Tryd.prog 400 os).forCall (fun _ _ => 0) ⟨#[], args, []⟩).memory :=
  laidMetH_of_parts3 (fuel := 8) (laidMet_of_run' 8 (by kernel_rfl) (by kernel_rfl)) (by kernel_rfl) (by kernel_rfl)
end Rg
end Go.Proofs.YtfboipfpnkngdaaDoor
end
section
namespace Go.Proofs.YtfboipfpnkngdaaDoor
open Go.ChangeShapes Go.WideShapes Go.ChangeAt Go.RowKit
namespace Rg
theorem bsl_parts {w : World} {xs : List Int} {c : Nat} {v : Value} (hx : ∀ x ∈ xs, 0 ≤ x ∧ x < 256) (h : BSl w xs c v) : ∃ gb o p, v = .slice p xs.length c ∧ Bv gb o xs.length c 0 v ∧ xs.length ≤ c ∧ Rs gb o xs.length (lf xs) w := by
  cases h using BSl.each with
  | full g o hg hc hcell =>
    refine ⟨g, o, _, rfl, Bv.start _ _ _ _, hc, fun _ => hg, fun i hi => ?_⟩
    rw [hcell i hi]
    show some (Value.int .u8 (xs.getD i 0)) = some (Value.int .u8 ((lf xs i : Nat) : Int))
    rw [lf_int hx i]
    unfold lent
    rw [if_pos hi]
  | void p hx' =>
    subst hx'
    exact ⟨0, 0, p, rfl, Bv.void _ _ _ _ _, Nat.zero_le _, Rs.void _ _ _ _⟩
theorem pieces_any (xs : List Int) (c : Nat) (v : Value) (hx : ∀ x ∈ xs, 0 ≤ x ∧ x < 256) (zs : List Int) (p2 : Option Addr) (c2 : Nat) (hp : 0 < zs.length → ∃ g o, p2 = some ⟨g, o, Option.none⟩) (w : World) (hm : Mm w [(0, ints .u32 fT 8), (1, ints .u32 kT 64)]) (h : BSl w xs c v) (_h0 : v = .slice Option.none 0 0 ∨ ∃ a k c', v = .slice (some a) k c') (hC : Cz p2 zs w) : Calls Tryd.prog 8 #[v, .slice p2 zs.length c2] w fun e w' => e = .returned (.bool true) ∧ Below w.heap.size w w' := by
  obtain ⟨gb, o, p1, rfl, hv, hcp, hR⟩ := bsl_parts hx h
  by_cases h1 : xs.length ≤ 20000
  · by_cases h2 : zs.length ≤ 100
    · exact pieces_main (lf xs) xs.length gb o c p1 p2 zs c2 hv hcp hp h1 h2 w hm hC hR
    · exact pieces_long2 (lf xs) xs.length gb o c p1 p2 zs c2 hv hcp hp h1 (by omega) w hm hC hR
  · exact pieces_long1 (lf xs) xs.length gb o c p1 p2 zs c2 hv hcp hp (by omega) w hm hC hR
end Rg
theorem Tryd.cells3 : Tryd.prog.cellsOf 3 = 1 := by kernel_rfl
set_option maxRecDepth 100000 in
theorem open_cuts {H : Type} {enc : TypeId × Value → H} {w : World} {base : Nat} {sp : Nat → Bool} {held : Bool} {r : Reach} {b0 : Nat} {v : Value} {d : DataW H} {ps : List MemPlace}
    (hval : Value.okWide Tryd.prog w r b0 60 v) (hd : DataW.Trod enc Tryd.prog w base sp held 60 v d ps) :
    ∃ zs p c, v = .slice p zs.length c ∧ Rg.Cz p zs w ∧ (0 < zs.length → ∃ g o, p = some ⟨g, o, none⟩) ∧ ∀ x ∈ ps, x.block < w.heap.size := by
  obtain ⟨a0, len, cap, rfl⟩ := okWide_slice Tryd.underlying60 hval
  obtain ⟨fuel, hf⟩ := hd
  rcases open_ints Tryd.underlying60 Tryd.underlying3 Tryd.cells3 hf with ⟨hcs, hx⟩ | ⟨a, len', cap', zs, hcs, _, hl, hm, hz, hx, hcell, hwz⟩
  · simp [Value.cells] at hcs
    obtain ⟨rfl, rfl, rfl⟩ := hcs
    simp only [Prod.mk.injEq] at hx
    obtain ⟨_, rfl⟩ := hx
    exact ⟨[], none, 0, rfl, fun g o e => (by cases e), fun h => absurd h (by decide), by simp⟩
  · simp [Value.cells] at hcs
    obtain ⟨rfl, rfl, rfl⟩ := hcs
    simp only [Prod.mk.injEq] at hx
    obtain ⟨_, rfl⟩ := hx
    have hlz : len ≤ zs.length := by rw [hz]; split <;> omega
    have hps : ∀ x ∈ MemPlace.row a zs.length, x.block < w.heap.size := fun x hx => by
      obtain ⟨i, hi, rfl⟩ := MemPlace.mem_row.1 hx
      have := World.block_lt_of_cell? w _ (hcell i hi)
      obtain ⟨b, off, rfl, _⟩ := ints_at hcell (by omega)
      exact World.block_lt_of_cell? w _ (hcell 0 (by omega))
    by_cases h0 : len = 0
    · subst h0
      exact ⟨[], some a, cap, rfl, fun g o _ i hi => absurd hi (by simp), fun h => absurd h (by decide), hps⟩
    · obtain ⟨b, off, rfl, hc⟩ := ints_at hcell (by omega)
      have hlen : (zs.take len).length = len := by simp; omega
      refine ⟨zs.take len, some ⟨b, off, none⟩, cap, by rw [hlen], fun g o e i hi => ?_, fun _ => ⟨b, off, rfl⟩, hps⟩
      injection e with e
      injection e with e1 e2
      subst e1 e2
      rw [hlen] at hi
      refine ⟨World.block_lt_of_cell? w _ (hc 0 (by omega)), ?_⟩
      rw [hc i (by omega)]
      simp [hi]
end Go.Proofs.YtfboipfpnkngdaaDoor
end
