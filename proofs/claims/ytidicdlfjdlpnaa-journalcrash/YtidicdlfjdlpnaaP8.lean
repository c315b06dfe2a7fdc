/- Texts of the proof, joined. -/
import Derived.Test.YtidicdlfjdlpnaaP7
import Derived.RangeFuncNested
import Derived.RangeFuncBound
import Derived.RangeFuncCalls
import Derived.RangeFuncLeaves
import Derived.RangeFuncBox
import Derived.Shelf.Abstract
import Derived.Shelf.RegionOpen
import Derived.WalkKit
import Derived.OwnWalkIn
import Derived.TacticsInMore
import Derived.LoopNIn
import Derived.LoopIn
import Derived.Maps.OwnIn
import Derived.Lib.SlMapFilter
import Derived.Maps.Ext
import Derived.Maps.RangeWalk
import Derived.Laws.IdiomRangeMap
import Derived.Deep.LoopGhost
import Derived.ProofKit
import Derived.OpenShut
import Derived.ChangeSlices
import Derived.ChangeMaps5
import Derived.Test.YtidicdlfjdlpnaaRows
section
namespace Go.Proofs.Ytidicdlfjdlpnaa
open Go.RowKit
namespace Rg
namespace Wi
set_option maxRecDepth 100000
open Go.Shelf
attribute [local go_sem] Oper.semAt_some
/-- What a crash is told to keep of a file: a name, how many operations, how many bytes of the next one. -/
abbrev Kv := { x : ByteArray × Int × Int // x.1.size ≤ maxLen ∧ (Lit.int .i64 x.2.1).wf = true ∧ (Lit.int .i64 x.2.2).wf = true }
def kvv (x : Kv) : Value := .agg #[.string x.1.1, .int .i64 x.1.2.1, .int .i64 x.1.2.2]
def kv0 : Kv := ⟨(ByteArray.empty, 0, 0), by decide, by decide, by decide⟩
def kup {α : Type} (f : Nat → α) (k : Nat) : List α := (List.range k).map f
theorem kup_succ {α : Type} (f : Nat → α) (k : Nat) : kup f (k + 1) = kup f k ++ [f k] := by simp [kup, List.range_succ]
theorem kup_length {α : Type} (f : Nat → α) (k : Nat) : (kup f k).length = k := by simp [kup]
/-- What a round keeps: what lay below n₀, and the block of the slice. -/
def Kb (n₀ Bs : Nat) (W W' : World) : Prop := Below n₀ W W' ∧ W'.heap[Bs]? = W.heap[Bs]?
theorem Kb.refl (n₀ Bs : Nat) (W : World) : Kb n₀ Bs W W := ⟨Below.refl _ _, rfl⟩
theorem Kb.trans {n₀ Bs : Nat} {A B C : World} (h : Kb n₀ Bs A B) (k : Kb n₀ Bs B C) : Kb n₀ Bs A C := ⟨h.1.trans k.1, k.2.trans h.2⟩
theorem Kb.put {n₀ Bs : Nat} {w : World} (h1 : n₀ ≤ w.heap.size) (h2 : Bs < w.heap.size) (W : World) (l : Nat) (o o' : Obj) (hl : w.heap.size ≤ l) (ho : W.heap[l]? = some o) (hc : o.isCells = false) (hw : o.isWalk = false) : Kb n₀ Bs W (W.putObj l o') :=
  ⟨belowK_b h1 W l o o' hl ho hc hw, by simp [World.putObj]; rw [Array.getElem?_setIfInBounds_ne (by omega)]⟩
/-- The j-th pair that Backward hands on. -/
def kbk (len : Nat) (zs : Nat → Kv) (j : Nat) : Nat × Kv := (len - 1 - j, zs (len - 1 - j))
set_option maxHeartbeats 2000000 in
theorem back1_in (F : Fence) (n : Nat) (h8 : F.fn 105) (hro : F.round = none) (hn : 1 ≤ n) (l Bs n₀ b off len cap : Nat) (zs : Nat → Kv) (hreach : len ≤ 1152921504606846976) (hb : b < n₀) (J Jx : List (Nat × Kv) → World → Prop)
    (hY : ∀ pre x W, J pre W → pre.length < len → YieldAt F (n - 1) Try.prog l #[.int .i64 (x.1 : Int), kvv x.2] W fun e W' =>
      (e = .returned (.bool true) ∧ J (pre ++ [x]) W' ∧ Kb n₀ Bs W W') ∨ (e = .returned (.bool false) ∧ Jx (pre ++ [x]) W'))
    (W : World) (hBs : W.cell? ⟨Bs, 0, none⟩ = some (.slice (some ⟨b, off, none⟩) len cap)) (hc : ∀ j, j < len → W.cell? ⟨b, off + j * 3, none⟩ = some (.string (zs j).1.1) ∧ W.cell? ⟨b, off + j * 3 + 1, none⟩ = some (.int .i64 (zs j).1.2.1) ∧ W.cell? ⟨b, off + j * 3 + 2, none⟩ = some (.int .i64 (zs j).1.2.2)) (h0 : J [] W) :
    CallsIn F n Try.prog 105 #[.func (.yield l) #[] #[], .pointer (some ⟨Bs, 0, none⟩)] W fun e W' => (∃ v, e = .returned v) ∧
      ((∃ ys, ys = kup (kbk len zs) len ∧ J ys W') ∨ (∃ pre, (∃ k, k ≤ len ∧ pre = kup (kbk len zs) k) ∧ Jx pre W')) := by
  refine callsIn_of_wp Try.func105 rfl h8 ?_ hro
  simp only [Try.ntmps105, List.size_toArray, List.length_cons, List.length_nil, Nat.reduceAdd, Nat.reduceSub, Array.replicate_succ, Array.replicate_zero, List.push_toArray, List.append_toArray, List.nil_append, List.cons_append]
  gi_wp2
  gi_loopw [3] (fun i wr => ∃ k : Nat, k ≤ len ∧ i = .int .i64 ((len : Int) - 1 - k) ∧ J (kup (kbk len zs) k) wr ∧ Kb n₀ Bs W wr)
    (fun i _ => (RowKit.intOf i + 1).toNat)
  case atStart => exact ⟨0, Nat.zero_le _, by simp, h0, Kb.refl _ _ _⟩
  case round =>
    obtain ⟨k, hk, rfl, hJs, hnx⟩ := hrel
    by_cases hlt : k < len
    · obtain ⟨hc1, hc2, hc3⟩ := hc (len - 1 - k) (by omega)
      have hcx := fun (o : Nat) => hnx.1.cell (p := ⟨b, o, none⟩) hb
      rw [← hcx] at hc1 hc2 hc3
      have hBs' := (World.cell?_of_block (a := ⟨Bs, 0, none⟩) hnx.2).trans hBs
      obtain ⟨fn, tmps, assign, body, hy, hR⟩ := hY _ (kbk len zs k) wr hJs (by rw [kup_length]; exact hlt)
      obtain ⟨jj, hjj⟩ : ∃ jj : Nat, jj = len - 1 - k := ⟨_, rfl⟩
      have ejj : (len : Int) - 1 - k = (jj : Int) := by omega
      rw [ejj]
      unfold kbk kvv at hy
      rw [← hjj] at hc1 hc2 hc3 hy
      dsimp only at hy
      have hjl : jj < len := by omega
      have HJ : Hid (jj = len - 1 - k ∧ k < len) := ⟨hjj, hlt⟩
      clear hjj ejj hlt hk hBs hc hcx
      gi_wp2
      refine hR.mono ?_
      have hjj := HJ.out.1
      have hlt := HJ.out.2
      rintro e W3 (⟨rfl, hJ3, hk3⟩ | ⟨rfl, hJx3⟩)
      · clear hjj hlt
        gi_wp2
        have hjj := HJ.out.1
        have hlt := HJ.out.2
        go_roundw
        case rel => exact ⟨k + 1, by omega, by simp; omega, by rw [kup_succ]; exact hJ3, hnx.trans hk3⟩
        case measure => simp [RowKit.intOf]
      · clear hjj hlt
        gi_wp2
        have hlt := HJ.out.2
        refine bodyPost_ret (results_none rfl _ _ _) rfl ?_
        exact ⟨⟨_, rfl⟩, .inr ⟨_, ⟨k + 1, by omega, (kup_succ _ _).symm⟩, hJx3⟩⟩
    · obtain rfl : k = len := by omega
      have em : (k : Int) - 1 - k = -1 := by omega
      rw [em]
      gi_wp2
      go_end0
      exact ⟨⟨_, rfl⟩, .inl ⟨_, rfl, hJs⟩⟩
set_option maxHeartbeats 1000000 in
theorem back1_nil_in (F : Fence) (n : Nat) (h8 : F.fn 105) (hro : F.round = none) (l Bs : Nat) (J : List (Nat × Kv) → World → Prop) (W : World) (hBs : W.cell? ⟨Bs, 0, none⟩ = some (.slice none 0 0)) (h0 : J [] W) :
    CallsIn F n Try.prog 105 #[.func (.yield l) #[] #[], .pointer (some ⟨Bs, 0, none⟩)] W fun e W' => (∃ v, e = .returned v) ∧ J [] W' := by
  refine callsIn_of_wp Try.func105 rfl h8 ?_ hro
  simp only [Try.ntmps105, List.size_toArray, List.length_cons, List.length_nil, Nat.reduceAdd, Nat.reduceSub, Array.replicate_succ, Array.replicate_zero, List.push_toArray, List.append_toArray, List.nil_append, List.cons_append]
  gi_wp2
  gi_loopw [3] (fun i wr => i = .int .i64 (-1) ∧ J [] wr) (fun _ _ => 0)
  case atStart => exact ⟨by simp, h0⟩
  case round =>
    obtain ⟨rfl, hJs⟩ := hrel
    gi_wp2
    go_end0
    exact ⟨⟨_, rfl⟩, hJs⟩
set_option maxHeartbeats 1000000 in
theorem back_in (F : Fence) (n : Nat) (h6 : F.fn 76) (hro : F.round = none) (a : Option Addr) (len cap : Nat) (w : World) :
    CallsIn F n Try.prog 76 #[.slice a len cap] w fun e w' => e = .returned (.func (.func 105) #[] #[.pointer (some ⟨w.heap.size, 0, none⟩)]) ∧ w' = w.alloc (.cells #[.slice a len cap] 35) := by
  refine callsIn_of_wp Try.func76 rfl h6 ?_ hro
  simp only [Try.ntmps76, List.size_toArray, List.length_cons, List.length_nil, Nat.reduceAdd, Nat.reduceSub, Array.replicate_succ, Array.replicate_zero, List.push_toArray, List.append_toArray, List.nil_append, List.cons_append]
  gi_wp2
  go_ret
  exact ⟨rfl, rfl⟩
/-- The slice sv holds len keeps zs in a block below n₀; or it is nil, and there are none. -/
def Kps (n₀ : Nat) (W : World) (sv : Value) (len : Nat) (zs : Nat → Kv) : Prop :=
  (sv = .slice none 0 0 ∧ len = 0) ∨ ∃ b off cap, sv = .slice (some ⟨b, off, none⟩) len cap ∧ b < n₀ ∧ ∀ j, j < len → W.cell? ⟨b, off + j * 3, none⟩ = some (.string (zs j).1.1) ∧ W.cell? ⟨b, off + j * 3 + 1, none⟩ = some (.int .i64 (zs j).1.2.1) ∧ W.cell? ⟨b, off + j * 3 + 2, none⟩ = some (.int .i64 (zs j).1.2.2)
theorem Kps.below {n₀ : Nat} {A B : World} (h : Below n₀ A B) {sv : Value} {len : Nat} {zs : Nat → Kv} : Kps n₀ A sv len zs → Kps n₀ B sv len zs
  | .inl e => .inl e
  | .inr ⟨b, off, cap, e, hb, hc⟩ => .inr ⟨b, off, cap, e, hb, fun j hj => ⟨(h.cell (p := ⟨b, _, none⟩) hb).trans (hc j hj).1, (h.cell (p := ⟨b, _, none⟩) hb).trans (hc j hj).2.1, (h.cell (p := ⟨b, _, none⟩) hb).trans (hc j hj).2.2⟩⟩
theorem back_stops (F : Fence) (n : Nat) (h8 : F.fn 105) (hro : F.round = none) (hn : 1 ≤ n) (Bs n₀ : Nat) (sv : Value) (len : Nat) (zs : Nat → Kv) (hreach : len ≤ 1152921504606846976) (w : World) (hBs : Bs < w.heap.size) (hn₀ : n₀ ≤ w.heap.size)
    (hc : w.cell? ⟨Bs, 0, none⟩ = some sv) (hI : Kps n₀ w sv len zs) :
    SeqStopsK F n Try.prog 105 #[.pointer (some ⟨Bs, 0, none⟩)] (fun x : Nat × Kv => #[Value.int .i64 (x.1 : Int), kvv x.2]) (Kb n₀ Bs) (fun ys => ys = kup (kbk len zs) len)
      (fun pre => ∃ k, k ≤ len ∧ pre = kup (kbk len zs) k) len w := fun l J Jx W hW _ _ hY h0 => by
  have hc' := (hW.cell (p := ⟨Bs, 0, none⟩) hBs).trans hc
  rcases hI.below (hW.mono hn₀) with ⟨rfl, rfl⟩ | ⟨b, off, cap, rfl, hb, hcs⟩
  · exact (back1_nil_in F n h8 hro l Bs J W hc' h0).mono fun e W' ⟨he, hj⟩ => ⟨he, .inl ⟨_, rfl, hj⟩⟩
  · exact back1_in F n h8 hro hn l Bs n₀ b off len cap zs hreach hb J Jx hY W hc' hcs h0
end Wi
end Rg
end Go.Proofs.Ytidicdlfjdlpnaa
end
section
namespace Go.Proofs.Ytidicdlfjdlpnaa
open Go.RowKit
namespace Rg
namespace Wi
set_option maxRecDepth 100000
open Go.Shelf
attribute [local go_sem] Oper.semAt_some
/-- How a keep reads. -/
def RK : Value → Option (DataW Nat × List MemPlace)
  | .agg ⟨[.string s, .int .i64 a, .int .i64 b]⟩ => some (.agg [.lit (.string s.data.toList), .lit (.int .i64 a), .lit (.int .i64 b)], [])
  | _ => none
def kdt (x : Kv) : DataW Nat := .agg [.lit (.string x.1.1.data.toList), .lit (.int .i64 x.1.2.1), .lit (.int .i64 x.1.2.2)]
theorem RK_kvv (x : Kv) : RK (kvv x) = some (kdt x, []) := rfl
/-- The map of what came. -/
def fD (pre : List (Nat × Kv)) : DataW Nat := pre.foldl (fun D x => D.put (ky x.2.1.1) (kdt x.2)) (.map [])
theorem fD_snoc (pre : List (Nat × Kv)) (x : Nat × Kv) : fD (pre ++ [x]) = (fD pre).put (ky x.2.1.1) (kdt x.2) := by simp [fD]
set_option maxHeartbeats 4000000 in
theorem crash_in (Q : Nat → World → Prop) (d mb rb : Nat) (k : Int) (a : Option Addr) (len cap : Nat) (zs : Nat → Kv) (hlen : len ≤ 1152921504606846976) (w : World) (hm : Mm w [(d, [Value.map (some mb), Value.map (some rb), Value.int .i64 k])]) (hK : Kps w.heap.size w (.slice a len cap) len zs)
    (hdf : ∀ W bx m, Below w.heap.size w W → w.heap.size ≤ bx → w.heap.size ≤ m → Boxed W bx 123 (.map (some m)) → W.ownsMap Try.prog 9 RK m len (fD (kup (kbk len zs) len)) →
      Calls Try.prog 77 #[.map (some mb), .func (.func 78) #[] #[.pointer (some ⟨bx, 0, none⟩)]] W fun e W' => e = .returned (.tuple #[]) ∧ (∀ D, w.heap.size ≤ D → D < W.heap.size → W'.heap[D]? = W.heap[D]?) ∧ Q W.heap.size W') :
    Calls Try.prog 24 #[PT d 0, .slice a len cap] w fun e w' => e = .returned (.int .i64 0) ∧ ∃ N W2 D, Q N W2 ∧ w.heap.size ≤ D ∧ D < N ∧ W2.heap[D]? = some (.deferred (some [])) ∧ w' = W2.putObj D (.deferred none) := by
  have HD : Hid _ := hdf
  clear hdf
  refine (callsIn_wide (n := 9)).1 ?_
  have hmm := @run_makeMap Try.prog
  have hro : Fence.wide.round = none := rfl
  refine callsIn_of_wp_marks Try.func24 rfl trivial ?_ hro
  simp only [Try.ntmps24, List.size_toArray, List.length_cons, List.length_nil, Nat.reduceAdd, Nat.reduceSub, Array.replicate_succ, Array.replicate_zero, List.push_toArray, List.append_toArray, List.nil_append, List.cons_append]
  gi_wp2_with (first
    | (gi_at_call 75; refine (callsIn_wide.2 (made_ok d mb rb k w hm)).mono ?_; rintro e w1 ⟨rfl, hb1⟩)
    | (refine ⟨trivial, ?_⟩; gi_at_call 75; refine (callsIn_wide.2 (made_ok d mb rb k w hm)).mono ?_; rintro e w1 ⟨rfl, hb1⟩)
    | (gi_at_call 76; refine (back_in Fence.wide _ trivial hro _ _ _ _).mono ?_; rintro e w' ⟨rfl, rfl⟩)
    | (refine ⟨trivial, ?_⟩; gi_at_call 76; refine (back_in Fence.wide _ trivial hro _ _ _ _).mono ?_; rintro e w' ⟨rfl, rfl⟩))
  have hm0 := ((World.ownsMap_made w1 Try.prog 9 RK).alloc (.cells #[.map (some w1.heap.size)] 123)).alloc (.cells #[.slice a len cap] 35)
  have bF := (Boxed.new (w1.alloc (.map #[] 0)) 123 (.map (some w1.heap.size))).alloc (.cells #[.slice a len cap] 35)
  have bN := Boxed.new ((w1.alloc (.map #[] 0)).alloc (.cells #[.map (some w1.heap.size)] 123)) 35 (.slice a len cap)
  simp only [World.size_alloc] at bF bN
  have hs1 := hb1.size
  have hB0 : Below w.heap.size w (((w1.alloc (.map #[] 0)).alloc (.cells #[.map (some w1.heap.size)] 123)).alloc (.cells #[.slice a len cap] 35)) := ((hb1.alloc hs1 _).alloc (by simp; omega) _).alloc (by simp; omega) _
  have hsz : (((w1.alloc (.map #[] 0)).alloc (.cells #[.map (some w1.heap.size)] 123)).alloc (.cells #[.slice a len cap] 35)).heap.size = w1.heap.size + 3 := by simp
  obtain ⟨W0, hW0⟩ : ∃ W0, ((w1.alloc (.map #[] 0)).alloc (.cells #[.map (some w1.heap.size)] 123)).alloc (.cells #[.slice a len cap] 35) = W0 := ⟨_, rfl⟩
  rw [hW0] at hm0 bF bN hB0 hsz ⊢
  clear hW0
  refine wpIn_rangeFunc_ownH hro (by decide) (gf := 105) (lb := #[.pointer (some ⟨w1.heap.size + 1 + 1, 0, none⟩)]) rfl trivial (enters_of Try.func105 (by kernel_rfl) rfl)
    (back_stops Fence.wide _ trivial hro (by decide) (w1.heap.size + 1 + 1) w.heap.size (.slice a len cap) len zs hlen W0 (by omega) (by omega) bN.cell (hK.below hB0)) Kb.trans (Kb.put (by omega) (by omega)) (Below.refl _ _) (fun _ => rfl)
    (fun pre W => (Boxed W (w1.heap.size + 1) 123 (.map (some w1.heap.size)) ∧ W.ownsMap Try.prog 9 RK w1.heap.size pre.length (fD pre)) ∧ (Below w.heap.size w W ∧ w1.heap.size + 3 ≤ W.heap.size))
    (fun _ _ _ => False)
    (OwnFrom.and (OwnFrom.and (Own.from (boxed_own _ _ _) _) (fun s A B row hs hg hr => hs.kept hg (fun e => by have := (hr _ e.symm).1; omega))) (OwnFrom.and (ownFrom_below (Nat.le_refl _) (by omega)) (fun s A B row hs hg hr => Nat.le_trans hs hg.size)))
    (fun _ _ _ _ _ hs _ _ => hs)
    ⟨⟨bF, hm0⟩, hB0, by omega⟩
    (fun x a' W => ∃ Bx, w1.heap.size + 3 ≤ Bx ∧ W.heap[Bx]? = some (.cells #[.string x.2.1.1, .int .i64 x.2.1.2.1, .int .i64 x.2.1.2.2] 57 (0, 0)) ∧ a' = { tmps := #[PT d 0, .slice a len cap, undef, undef, .int .i64 0, .pointer (some ⟨w1.heap.size + 1, 0, none⟩), undef, .pointer (some ⟨Bx, 0, none⟩), PT d 0, .bool true, .bool false, .map (some w1.heap.size), .slice a len cap, .func (.func 105) #[] #[.pointer (some ⟨w1.heap.size + 1 + 1, 0, none⟩)], .int .i64 (x.1 : Int), kvv x.2, undef, undef, undef, undef, undef, undef, undef, undef, undef, undef], defers := [] })
    (fun x a' _ X Y row hs hg hr => by
      obtain ⟨Bx, h1, h2, h3⟩ := hs
      exact ⟨Bx, h1, (hg.block Bx (Array.getElem?_eq_some_iff.1 h2).1 (fun e => by obtain ⟨_, o, ho, hc⟩ := hr Bx e.symm; rw [h2] at ho; cases ho; cases hc)).trans h2, h3⟩)
    ?assign ?body ?done ?stop
  case assign =>
    rintro l pre x W K ⟨⟨bS1, hM1⟩, hB1, hz1⟩ hK'
    unfold kvv
    gi_wp2
    exact hK' _ _ ((KeepsOthers.alloc _ _).from _) ⟨(Below.refl _ W).alloc hB1.size _, Below.heap_alloc W _ _ (by omega)⟩ ⟨⟨bS1.alloc _, hM1.alloc _⟩, hB1.alloc hB1.size _, by simp; omega⟩ ⟨W.heap.size, hz1, World.alloc_heap_new W _, rfl⟩
  case body =>
    rintro l pre x a' W hl ⟨r, hr⟩ ⟨⟨bS1, hM1⟩, hB1, hz1⟩ ⟨Bx, hBx, bX, rfl⟩ hlt
    have cS := bS1.cell
    have cX0 : W.cell? ⟨Bx, 0, none⟩ = some (.string x.2.1.1) := by simp [World.cell?, bX]
    have cX1 : W.cell? ⟨Bx, 1, none⟩ = some (.int .i64 x.2.1.2.1) := by simp [World.cell?, bX]
    have cX2 : W.cell? ⟨Bx, 2, none⟩ = some (.int .i64 x.2.1.2.2) := by simp [World.cell?, bX]
    gi_wp2_with (gi_at_mapUpdate; refine wpListIn_mapUpdate_own _ rfl _ _ _ 123 rfl 9 57 (Maps.string_keyed Try.underlying9) Try.underlying123 _ w1.heap.size pre.length _ rfl hM1 (by unfold maxLen; omega) _ _ _ rfl rfl (WideMaps.keyOf_string_mk Try.underlying9 x.2.2.1) _ [] (RK_kvv x.2) ?_; intro w2 hown1 hgrow1)
    exact ⟨KeepsFrom.of_grownBy hgrow1 (fun j e => by cases e; omega), ⟨(Below.refl _ W).grown hgrow1 hB1.size (fun k e => by cases e; omega), hgrow1.block _ (by omega) (fun e => absurd (Option.some.inj e) (by omega))⟩,
      ⟨⟨bS1.kept hgrow1 (fun e => absurd (Option.some.inj e) (by omega)), by rw [fD_snoc, List.length_append]; exact hown1⟩, hB1.grown hgrow1 hB1.size (fun k e => by cases e; omega), Nat.le_trans hz1 hgrow1.size⟩⟩
  case done =>
    rintro D ys W hD rfl ⟨⟨bS1, hM1⟩, hB1, hz1⟩ hKd
    have hm1 := hm.below hB1
    have cD := ((hm1.blk _ (List.mem_cons_self ..)).2 0 _ rfl).1
    dsimp only at cD
    have hMl := hM1
    rw [kup_length] at hMl
    have hDlt := (Array.getElem?_eq_some_iff.1 hKd).1
    gi_wp2_with (first
      | (gi_at_call 77; refine (callsIn_wide.2 (HD.out W (w1.heap.size + 1) w1.heap.size hB1 (by omega) (by omega) bS1 hMl)).mono ?_; rintro e W2 ⟨rfl, hDk, hQ⟩)
      | (refine ⟨trivial, ?_⟩; gi_at_call 77; refine (callsIn_wide.2 (HD.out W (w1.heap.size + 1) w1.heap.size hB1 (by omega) (by omega) bS1 hMl)).mono ?_; rintro e W2 ⟨rfl, hDk, hQ⟩))
    have hKd2 := (hDk D (by omega) hDlt).trans hKd
    refine ⟨by simp, .inl ⟨_, _, rfl, run_takeDeferred hKd2, ?_⟩⟩
    exact ⟨_, results_tmp rfl _ _ _, rfl, W.heap.size, W2, D, hQ, by omega, hDlt, hKd2, rfl⟩
  case stop =>
    rintro D c pre W _ _ h _
    exact h.elim
end Wi
end Rg
end Go.Proofs.Ytidicdlfjdlpnaa
end
section
namespace Go.Proofs.Ytidicdlfjdlpnaa
open Go.RowKit
namespace Rg
namespace Wi
set_option maxRecDepth 100000
open Go.Maps
theorem ranges_keep {w w' : World} {b r n cnt : Nat} {D : DataW Nat} {left : Lit → Bool} (h : w.ranges Try.prog 9 RF b r n D left cnt) (hb : w'.heap[b]? = w.heap[b]?) (hr : w'.heap[r]? = w.heap[r]?) : w'.ranges Try.prog 9 RF b r n D left cnt := by
  obtain ⟨es, clock, since, seen, c0, h1, F, hs, hD, h2, rest⟩ := h
  exact ⟨es, clock, since, seen, c0, hb.trans h1, F, hs, hD, hr.trans h2, rest⟩
theorem find_keep {α : Type} {p q : α → Bool} : ∀ (l : List α), (∀ x, p x = true → q x = true) → (l.filter q).find? p = l.find? p
  | [], _ => rfl
  | x :: r, h => by
    cases hq : q x with
    | true =>
      rw [List.filter_cons_of_pos hq, List.find?_cons, List.find?_cons, find_keep r h]
    | false =>
      have hp : p x = false := by
        cases hp : p x with
        | false => rfl
        | true => rw [h x hp] at hq; cases hq
      rw [List.filter_cons_of_neg (by rw [hq]; decide), List.find?_cons, hp, find_keep r h]
theorem Fk_at {pd : Lit → DataW Nat → Bool} {es0 : List (Lit × DataW Nat)} {left : Lit → Bool} {kl : Lit} (hl : left kl = true) (zd : DataW Nat) : (Fk pd es0 left).atKey kl zd = (DataW.map es0).atKey kl zd := by
  unfold Fk DataW.atKey
  simp only
  rw [find_keep es0 (fun p hp => by rw [WideAt.sameKey_eq hp, hl, Bool.or_true])]
set_option maxHeartbeats 4000000 in
theorem delfunc_I (I : Nat → (Lit → Bool) → World → Prop) (pd : Lit → DataW Nat → Bool) (g : Nat) (cb : Array Value) (b n : Nat) (D : DataW Nat) (w : World)
    (eg : ∀ args w, (callFunc g args).run Try.prog w = .ok (.enter g args) w) (hown : w.ownsMap Try.prog 9 RF b n D)
    (h0 : ∀ w', w'.heap.size = w.heap.size + 1 → w.grownBy w' none → I w.heap.size (Maps.has D) w')
    (hst : ∀ r left u u' x, I r left u → (x = r ∨ x = b) → u.grownBy u' (some x) → I r left u')
    (hdel : ∀ r left (u : World) (key val : Value) (kl : Lit) (yd : DataW Nat) (yp : List MemPlace), I r left u → keyOf Try.prog 9 key = some kl → RF val = some (yd, yp) → left kl = true → (∀ zd, D.atKey kl zd = yd) →
      Calls Try.prog g (#[key, val] ++ cb) u fun e u' => e = .returned (.bool (pd kl yd)) ∧ I r (fun z => left z && !z.sameKey kl) u' ∧ u.heap.size ≤ u'.heap.size ∧ u'.heap[b]? = u.heap[b]? ∧ u'.heap[r]? = u.heap[r]?) :
    Calls Try.prog 77 #[.map (some b), .func (.func g) #[] cb] w fun e w' => e = .returned (.tuple #[]) ∧ w'.ownsMap Try.prog 9 RF b n (Lib.deleteFuncD pd D) ∧ ∃ r left, (∀ kl, left kl = false) ∧ I r left w' := by
  have K : Keyed Try.prog 9 := Maps.string_keyed Try.underlying9
  obtain ⟨es0, rfl, hap, hkeys⟩ := hown.entries K
  have HD : Hid _ := hdel
  have HS : Hid _ := hst
  have H0 : Hid _ := h0
  clear hdel hst h0
  go_enter Try.func77, Try.ntmps77
  go_wp2_with (first
    | (at_range; refine wpList_range_own _ rfl _ 39 rfl 9 111 K Try.underlying39 RF b n _ rfl hown ?_; intro w0 hrg0 hg0 hs0)
    | go_in)
  go_frame
  go_loopw [8] (fun _ wr => ∃ (left : Lit → Bool) (cnt : Nat), wr.ranges Try.prog 9 RF b w.heap.size n (Fk pd es0 left) left cnt ∧ I w.heap.size left wr)
    (fun _ wr => wr.rangeLeft b w.heap.size)
  case atStart => exact ⟨_, _, by rw [Fk_start hkeys]; exact hrg0, H0.out w0 hs0 hg0⟩
  case round =>
    obtain ⟨left, cnt, hrg, hI⟩ := hrel
    go_wp2_with (first
      | (at_next; refine wpList_next_ranges _ rfl _ rfl 9 K RF id id (fun key _ _ => ⟨key, rfl⟩) (fun v _ _ => ⟨v, rfl⟩) b w.heap.size n _ _ _ rfl hrg ?_ ?_)
      | go_in)
    · intro _ hl0
      go_wp2
      go_end0
      exact ⟨rfl, by rw [← Fk_end hl0]; exact hrg.owns, _, _, hl0, hI⟩
    · intro x c kl yd yp w1 cnt1 hkey hlx hv hat hrg1 hlt hg1 hs1 hen
      have hI1 := HS.out _ _ _ _ _ hI (.inl rfl) hg1
      have hc := HD.out _ left w1 x c kl yd yp hI1 hkey hv hlx (fun zd => (Fk_at hlx zd).symm.trans (hat zd))
      have hbl := hrg1.owns.lt
      have hrl := hrg1.lt
      cases hp : pd kl yd <;> rw [hp] at hc
      · go_wp2_with (first
          | (go_at_fn g; refine hc.mono ?_; rintro e w2 ⟨rfl, hI2, hz, hk1, hk2⟩)
          | go_in)
        have hrg2 := ranges_keep hrg1 hk1 hk2
        go_roundw
        case rel => exact ⟨_, cnt1, by rw [← Fk_stays hap (K.key hkey) hlx hp hat]; exact hrg2, hI2⟩
        case measure => rw [hrg2.left_eq, hrg.left_eq]; exact hlt
      · go_wp2_with (first
          | (go_at_fn g; refine hc.mono ?_; rintro e w2 ⟨rfl, hI2, hz, hk1, hk2⟩; have hrg2 := ranges_keep hrg1 hk1 hk2)
          | (at_delete; refine wpList_delete_ranges _ rfl _ _ 39 9 rfl 111 K Try.underlying39 RF b w.heap.size n _ _ _ rfl hrg2 _ _ rfl hkey ?_; intro w3 cnt3 hrg3 hle hturn; go_frame)
          | go_in)
        rw [strike_twice] at hrg3
        go_roundw
        case rel => exact ⟨_, cnt3, by rw [← Fk_struck hap (K.key hkey) hlx hp hat]; exact hrg3, HS.out _ _ _ _ _ hI2 (.inr rfl) hturn.grown⟩
        case measure => rw [hrg3.left_eq, hrg.left_eq]; omega
end Wi
end Rg
end Go.Proofs.Ytidicdlfjdlpnaa
end
section
namespace Go.Proofs.Ytidicdlfjdlpnaa
open Go.RowKit
namespace Rg
namespace Wi
set_option maxRecDepth 100000
open Go.Shelf Go.Maps
theorem key_string {v : Value} {kl : Lit} (h : keyOf Try.prog 9 v = some kl) : ∃ s : ByteArray, v = .string s ∧ kl = ky s ∧ s.size ≤ maxLen := by
  rw [keyOf_string Try.underlying9] at h
  unfold mapKey at h
  rw [Try.underlying9] at h
  split at h
  · exact absurd (by assumption : some TypeDesc.string = some TypeDesc.bool) (by simp)
  · have := ‹some TypeDesc.string = some (TypeDesc.int _)›
    cases this
  · rename_i s _
    split at h
    · rename_i hs
      exact ⟨s, rfl, (Option.some.inj h).symm, hs⟩
    · cases h
  · cases h
theorem RK_inv {v : Value} {x : Kv} {ps : List MemPlace} (h : RK v = some (kdt x, ps)) : v = kvv x := by
  unfold RK at h
  split at h
  · rename_i s a c
    simp only [Option.some.injEq, Prod.mk.injEq, kdt, DataW.agg.injEq, List.cons.injEq, DataW.lit.injEq, Lit.int.injEq, true_and, and_true] at h
    obtain ⟨⟨h1, h2, h3⟩, h4⟩ := h
    have := ky_inj (s := s) (t := x.1.1) h1
    subst this
    subst h2
    subst h3
    rfl
  · cases h
set_option maxHeartbeats 2000000 in
theorem crash1_f (f : Fq) (x : Kv) (bx m : Nat) (w : World) (h : FOk w f) (hb : Boxed w bx 123 (.map (some m))) (hlk : (Instr.lookup 123 (.map (some m)) (.string f.nm) false).run Try.prog w = .ok (kvv x) w) :
    Calls Try.prog 78 #[.string f.nm, PT f.g 0, .pointer (some ⟨bx, 0, none⟩)] w fun e w' => e = .returned (.bool (!f.there x.1.2.1 x.1.2.2)) ∧ ∃ s', FOk w' (f.set s' x.1.2.1 x.1.2.2) ∧ Chg f.bl w w' ∧ ∀ y ∈ (f.set s' x.1.2.1 x.1.2.2).bl, y ∈ f.bl ∨ w.heap.size ≤ y := by
  have cB := hb.cell
  have HF : Hid _ := h
  clear h hb
  unfold kvv at hlk
  go_enter Try.func78, Try.ntmps78
  go_wp2_with (first
    | (go_at_call 73; refine (settle_f f _ _ _ (HF.out.below ((Below.refl _ w).alloc (Nat.le_refl _) _))).mono ?_; rintro e w2 ⟨rfl, s', h1, h2⟩)
    | go_in)
  go_ret
  obtain ⟨h3, h4, h5⟩ := (HF.out.below ((Below.refl _ w).alloc (Nat.le_refl _) _)).settled h1 h2
  exact ⟨rfl, s', h3, (Chg.of ((Below.refl _ w).alloc (Nat.le_refl _) _)).trans h4 (fun _ hx => .inl hx), fun y hy => (h5 y hy).imp_right (fun e => by simp at e; omega)⟩
def kof (pre : List (Nat × Kv)) (s : ByteArray) : Kv := match pre.reverse.find? (fun x => decide (x.2.1.1 = s)) with | some x => x.2 | none => kv0
theorem ky_key {s : ByteArray} (hs : s.size ≤ maxLen) : WideAt.IsKeyLit (ky s) := (Maps.string_keyed Try.underlying9).key (WideMaps.keyOf_string_mk Try.underlying9 hs)
theorem fD_rev (s : ByteArray) : ∀ l : List (Nat × Kv), IsMap (fD l.reverse) ∧ (fD l.reverse).atKey (ky s) (kdt kv0) = kdt (kof l.reverse s)
  | [] => ⟨⟨_, rfl⟩, rfl⟩
  | x :: l => by
    obtain ⟨⟨es, h0⟩, h1⟩ := fD_rev s l
    rw [List.reverse_cons, fD_snoc]
    refine ⟨by rw [h0]; exact ⟨_, rfl⟩, ?_⟩
    unfold kof at h1 ⊢
    rw [List.reverse_reverse] at h1
    rw [List.reverse_append, List.reverse_reverse, List.reverse_cons, List.reverse_nil, List.nil_append, List.cons_append, List.nil_append, List.find?_cons]
    by_cases e : x.2.1.1 = s
    · rw [decide_eq_true e, ← e]
      exact atKey_put_same ⟨es, h0⟩ (ky_key x.2.2.1) _ _
    · rw [decide_eq_false e, atKey_put_other (fun hk => e (ky_inj hk).symm)]
      exact h1
theorem fD_at (pre : List (Nat × Kv)) (s : ByteArray) : (fD pre).atKey (ky s) (kdt kv0) = kdt (kof pre s) := by
  have := (fD_rev s pre.reverse).2
  rwa [List.reverse_reverse] at this
/-- A file behind a crash; whether it is still there. -/
def Fq.aft (K : ByteArray → Kv) (σ : ByteArray → Value) (f : Fq) : Fq := f.set (σ f.nm) (K f.nm).1.2.1 (K f.nm).1.2.2
def Fq.stay (K : ByteArray → Kv) (f : Fq) : Bool := f.there (K f.nm).1.2.1 (K f.nm).1.2.2
def cur (K : ByteArray → Kv) (σ : ByteArray → Value) (left : Lit → Bool) (f : Fq) : Fq := match left (ky f.nm) with | true => f | false => f.aft K σ
theorem cur_t {K : ByteArray → Kv} {σ : ByteArray → Value} {left : Lit → Bool} {f : Fq} (h : left (ky f.nm) = true) : cur K σ left f = f := by unfold cur; rw [h]
theorem cur_f {K : ByteArray → Kv} {σ : ByteArray → Value} {left : Lit → Bool} {f : Fq} (h : left (ky f.nm) = false) : cur K σ left f = f.aft K σ := by unfold cur; rw [h]
structure CI (W : World) (D : Dq) (K : ByteArray → Kv) (r : Nat) (left : Lit → Bool) (u : World) : Prop where
  rr : r = W.heap.size
  sz : W.heap.size < u.heap.size
  ch : Chg (r :: D.mb :: D.fs.flatMap Fq.bl) W u
  ex : ∃ σ, (∀ f ∈ D.fs, FOk u (cur K σ left f)) ∧ (∀ f ∈ D.fs, ∀ x ∈ (cur K σ left f).bl, x ∈ f.bl ∨ W.heap.size < x) ∧ ∀ f ∈ D.fs, ∀ g ∈ D.fs, f.nm ≠ g.nm → ∀ x ∈ (cur K σ left f).bl, x ∉ (cur K σ left g).bl
theorem CI.step {W u u' : World} {D : Dq} {K : ByteArray → Kv} {r x : Nat} {left : Lit → Bool} (h : DOk W D) (c : CI W D K r left u) (hx : x = r ∨ x = D.mb) (hg : u.grownBy u' (some x)) : CI W D K r left u' := by
  have hc : Chg [x] u u' := Chg.grown hg
  obtain ⟨σ, h1, h2, h3⟩ := c.ex
  have hmb : D.mb < W.heap.size := h.blt D.mb (by unfold Dq.bl; simp)
  refine ⟨c.rr, Nat.lt_of_lt_of_le c.sz hc.size, c.ch.trans hc (fun y hy => .inl ?_), σ, fun f hf => (h1 f hf).chg hc (fun y hy hm => ?_), h2, h3⟩
  · rw [List.mem_singleton.1 hy]
    rcases hx with e | e <;> rw [e] <;> simp
  · rw [List.mem_singleton.1 hm] at hy
    have hr := c.rr
    rcases h2 f hf x hy with e | e
    · have hlt := (h.fl f hf).lt x e
      rcases hx with hx | hx
      · omega
      · exact (h.hd f hf x e).2.1 hx
    · rcases hx with hx | hx <;> omega
theorem CI.start {W u : World} {D : Dq} {K : ByteArray → Kv} {X : DataW Nat} (h : DOk W D) (hs : u.heap.size = W.heap.size + 1) (hg : W.grownBy u none) (hX : ∀ s, Maps.has X (ky s) = (lk D.fs s).isSome) : CI W D K W.heap.size (Maps.has X) u := by
  have hc : Chg [] W u := Chg.grown hg
  have hl : ∀ f ∈ D.fs, cur K (fun _ => undef) (Maps.has X) f = f := fun f hf => cur_t (by
    rw [hX]
    unfold lk
    rw [List.find?_isSome]
    exact ⟨f, hf, decide_eq_true rfl⟩)
  refine ⟨rfl, by omega, hc.mono (fun x hx => by cases hx), fun _ => undef, fun f hf => ?_, fun f hf x hx => ?_, fun f hf g hg' hne x hx => ?_⟩
  · rw [hl f hf]; exact (h.fl f hf).chg hc (fun _ _ hx => by cases hx)
  · rw [hl f hf] at hx; exact .inl hx
  · rw [hl f hf] at hx; rw [hl g hg']; exact h.ap f hf g hg' hne x hx
theorem CI.del {W u u' : World} {D : Dq} {K : ByteArray → Kv} {r : Nat} {left : Lit → Bool} {f : Fq} {s' : Value} (h : DOk W D) (c : CI W D K r left u) (hf : f ∈ D.fs) (hs : f.nm.size ≤ maxLen) (hl : left (ky f.nm) = true)
    (hF : FOk u' (f.set s' (K f.nm).1.2.1 (K f.nm).1.2.2)) (hc : Chg f.bl u u') (hb : ∀ y ∈ (f.set s' (K f.nm).1.2.1 (K f.nm).1.2.2).bl, y ∈ f.bl ∨ u.heap.size ≤ y) : CI W D K r (fun z => left z && !z.sameKey (ky f.nm)) u' := by
  obtain ⟨σ, h1, h2, h3⟩ := c.ex
  have hsz := c.sz
  have cf : cur K σ left f = f := cur_t hl
  have hA : cur K (fun t => if t = f.nm then s' else σ t) (fun z => left z && !z.sameKey (ky f.nm)) f = f.set s' (K f.nm).1.2.1 (K f.nm).1.2.2 := by
    rw [cur_f (by show (left (ky f.nm) && !(ky f.nm).sameKey (ky f.nm)) = false; rw [WideAt.sameKey_self (ky_key hs), Bool.not_true, Bool.and_false])]
    unfold Fq.aft
    show f.set (if f.nm = f.nm then s' else σ f.nm) _ _ = _
    rw [if_pos rfl]
  have hB : ∀ g : Fq, g.nm ≠ f.nm → cur K (fun t => if t = f.nm then s' else σ t) (fun z => left z && !z.sameKey (ky f.nm)) g = cur K σ left g := fun g hne => by
    have e : (ky g.nm).sameKey (ky f.nm) = false := by
      cases e : (ky g.nm).sameKey (ky f.nm) with
      | false => rfl
      | true => exact absurd (ky_inj (WideAt.sameKey_eq e)) hne
    have ea : Fq.aft K (fun t => if t = f.nm then s' else σ t) g = Fq.aft K σ g := by
      unfold Fq.aft
      show g.set (if g.nm = f.nm then s' else σ g.nm) _ _ = _
      rw [if_neg hne]
    cases hlg : left (ky g.nm) with
    | true => rw [cur_t hlg, cur_t (by show (left (ky g.nm) && !(ky g.nm).sameKey (ky f.nm)) = true; rw [e, hlg]; rfl)]
    | false => rw [cur_f hlg, cur_f (by show (left (ky g.nm) && !(ky g.nm).sameKey (ky f.nm)) = false; rw [hlg, Bool.false_and]), ea]
  have key : ∀ g ∈ D.fs, g = f ∨ g.nm ≠ f.nm := fun g hg => by
    by_cases e : g.nm = f.nm
    · exact .inl (nm_inj h.un hg hf e)
    · exact .inr e
  have hfb : ∀ y ∈ f.bl, y ∈ r :: D.mb :: D.fs.flatMap Fq.bl := fun y hy => List.mem_cons_of_mem _ (List.mem_cons_of_mem _ (List.mem_flatMap.2 ⟨f, hf, hy⟩))
  refine ⟨c.rr, Nat.lt_of_lt_of_le hsz hc.size, c.ch.trans hc (fun y hy => .inl (hfb y hy)), fun t => if t = f.nm then s' else σ t, fun g hg => ?_, fun g hg x hx => ?_, fun g hg g' hg' hne x hx hx' => ?_⟩
  · rcases key g hg with e | e
    · rw [e, hA]; exact hF
    · rw [hB g e]
      exact (h1 g hg).chg hc (fun x hx => by have := h3 g hg f hf e x hx; rwa [cf] at this)
  · rcases key g hg with e | e
    · rw [e, hA] at hx
      rw [e]
      exact (hb x hx).imp_right (fun e => by omega)
    · rw [hB g e] at hx; exact h2 g hg x hx
  · have lo : ∀ y : Fq, y ∈ D.fs → y.nm ≠ f.nm → ∀ z ∈ (cur K σ left y).bl, z ∉ (f.set s' (K f.nm).1.2.1 (K f.nm).1.2.2).bl := fun y hy e z hz hz' => by
      rcases hb z hz' with q | q
      · have := h3 y hy f hf e z hz
        rw [cf] at this
        exact this q
      · have := (h1 y hy).lt z hz
        omega
    rcases key g hg with e | e
    · rw [e, hA] at hx
      rw [e] at hne
      rw [hB g' (Ne.symm hne)] at hx'
      exact lo g' hg' (Ne.symm hne) x hx' hx
    · rw [hB g e] at hx
      rcases key g' hg' with e' | e'
      · rw [e', hA] at hx'
        exact lo g hg e x hx hx'
      · rw [hB g' e'] at hx'
        exact h3 g hg g' hg' hne x hx hx'
end Wi
end Rg
end Go.Proofs.Ytidicdlfjdlpnaa
end
section
namespace Go.Proofs.Ytidicdlfjdlpnaa
open Go.RowKit
namespace Rg
namespace Wi
set_option maxRecDepth 100000
open Go.Shelf Go.Maps
theorem call78 : ∀ args w, (callFunc 78 args).run Try.prog w = .ok (.enter 78 args) w := by intro args w; go_simp
/-- Whether a key's file is struck. -/
def pdk (D : Dq) (K : ByteArray → Kv) : Lit → Bool
  | .string l => match lk D.fs ⟨l.toArray⟩ with | some f => !f.stay K | none => false
  | _ => false
theorem pdk_ky (D : Dq) (K : ByteArray → Kv) (s : ByteArray) : pdk D K (ky s) = match lk D.fs s with | some f => !f.stay K | none => false := by
  unfold pdk ky
  simp only [Array.toArray_toList]
theorem del_at (q : Lit → Bool) (es : List (Lit × DataW Nat)) (k : Lit) (z : DataW Nat) : (Lib.deleteFuncD (fun a _ => q a) (.map es)).atKey k z = if q k = true then z else (DataW.map es).atKey k z := by
  unfold Lib.deleteFuncD DataW.atKey
  simp only
  cases hq : q k with
  | true =>
    rw [if_pos rfl, List.find?_eq_none.2 (fun x hx hs => by
      have h1 := (List.mem_filter.1 hx).2
      rw [WideAt.sameKey_eq hs, hq] at h1
      cases h1)]
  | false =>
    rw [if_neg (by decide), find_keep es (fun x hs => by rw [WideAt.sameKey_eq hs, hq]; rfl)]
theorem del_has (q : Lit → Bool) (es : List (Lit × DataW Nat)) (k : Lit) : Maps.has (Lib.deleteFuncD (fun a _ => q a) (.map es)) k = (!q k && Maps.has (.map es) k) := by
  show (es.filter fun p => !q p.1).any (fun p => p.1.sameKey k) = (!q k && es.any (fun p => p.1.sameKey k))
  rw [Bool.eq_iff_iff]
  simp only [List.any_eq_true, List.mem_filter, Bool.and_eq_true]
  constructor
  · rintro ⟨x, ⟨h1, h2⟩, h3⟩
    rw [WideAt.sameKey_eq h3] at h2
    exact ⟨h2, x, h1, h3⟩
  · rintro ⟨h2, x, h1, h3⟩
    exact ⟨x, ⟨h1, by rw [WideAt.sameKey_eq h3]; exact h2⟩, h3⟩
theorem del_size {w : World} {b n : Nat} {es : List (Lit × DataW Nat)} {fs : List Fq} (h : w.ownsMap Try.prog 9 RF b n (.map es)) (hh : ∀ s, Maps.has (.map es) (ky s) = (lk fs s).isSome) (un : (fs.map Fq.nm).Nodup) (q : Lit → Bool) : (es.filter fun p => !q p.1).length = (fs.filter fun f => !q (ky f.nm)).length := by
  have hst : ∀ p ∈ es, ∃ s, p.1 = ky s := fun p hp => by
    obtain ⟨es0, clock, _, F, _, e⟩ := h
    injection e with e
    rw [e] at hp
    obtain ⟨x, hx, rfl⟩ := List.mem_map.1 (mem_sorted.1 hp)
    obtain ⟨y, hy⟩ := F.reads x hx
    rw [WideElems.rg_of hy]
    obtain ⟨s, _, e2, _⟩ := key_string (WideElems.rd_key hy)
    exact ⟨s, e2⟩
  have hks : ∀ p ∈ es, WideAt.IsKeyLit p.1 := fun p hp => by
    obtain ⟨es1, e, _, h2⟩ := h.entries (Maps.string_keyed Try.underlying9)
    injection e with e
    exact h2 p (e ▸ hp)
  have hnd : (es.map Prod.fst).Nodup := by
    obtain ⟨es1, e, h1, _⟩ := h.entries (Maps.string_keyed Try.underlying9)
    injection e with e
    rw [e]
    exact List.pairwise_map.2 h1
  have hnf : (fs.map fun f => ky f.nm).Nodup := by
    have : (fs.map fun f => ky f.nm) = (fs.map Fq.nm).map ky := by rw [List.map_map]; rfl
    rw [this]
    exact List.pairwise_map.2 (un.imp (fun hne e => hne (ky_inj e)))
  have hp : (es.map Prod.fst).Perm (fs.map fun f => ky f.nm) := (List.perm_ext_iff_of_nodup hnd hnf).2 (fun a => by
    constructor
    · intro ha
      obtain ⟨p, hp, rfl⟩ := List.mem_map.1 ha
      obtain ⟨s, e⟩ := hst p hp
      have h1 : Maps.has (.map es) (ky s) = true := by
        rw [← e]
        exact List.any_eq_true.2 ⟨p, hp, WideAt.sameKey_self (hks p hp)⟩
      rw [hh] at h1
      obtain ⟨f, hf⟩ := Option.isSome_iff_exists.1 h1
      obtain ⟨h2, h3⟩ := lk_mem hf
      exact List.mem_map.2 ⟨f, h2, by rw [h3, e]⟩
    · intro ha
      obtain ⟨f, hf, rfl⟩ := List.mem_map.1 ha
      have h1 : (lk fs f.nm).isSome = true := by
        unfold lk
        rw [List.find?_isSome]
        exact ⟨f, hf, decide_eq_true rfl⟩
      rw [← hh] at h1
      obtain ⟨p, hp, h2⟩ := List.any_eq_true.1 h1
      exact List.mem_map.2 ⟨p, hp, WideAt.sameKey_eq h2⟩)
  have h1 := (hp.filter (fun a => !q a)).length_eq
  rw [List.filter_map, List.filter_map, List.length_map, List.length_map] at h1
  exact h1
theorem find_keepM {α : Type} {p q : α → Bool} : ∀ (l : List α), (∀ x ∈ l, p x = true → q x = true) → (l.filter q).find? p = l.find? p
  | [], _ => rfl
  | x :: r, h => by
    have ih := find_keepM r (fun y hy => h y (List.mem_cons_of_mem _ hy))
    cases hq : q x with
    | true =>
      rw [List.filter_cons_of_pos hq, List.find?_cons, List.find?_cons, ih]
    | false =>
      have hp : p x = false := by
        cases hp : p x with
        | false => rfl
        | true => rw [h x (List.mem_cons_self ..) hp] at hq; cases hq
      rw [List.filter_cons_of_neg (by rw [hq]; decide), List.find?_cons, hp, ih]
/-- The disk behind a crash. -/
def Dq.aft (K : ByteArray → Kv) (σ : ByteArray → Value) (D : Dq) : Dq := ⟨D.d, D.mb, D.rb, D.k, (D.fs.filter (Fq.stay K)).map (Fq.aft K σ), D.rf⟩
theorem lk_aft (K : ByteArray → Kv) (σ : ByteArray → Value) {fs : List Fq} (un : (fs.map Fq.nm).Nodup) (s : ByteArray) : lk ((fs.filter (Fq.stay K)).map (Fq.aft K σ)) s = match lk fs s with | some f => if f.stay K = true then some (f.aft K σ) else none | none => none := by
  have e0 : lk ((fs.filter (Fq.stay K)).map (Fq.aft K σ)) s = ((fs.filter (Fq.stay K)).find? (fun f => decide (f.nm = s))).map (Fq.aft K σ) := by
    unfold lk
    rw [List.find?_map]
    rfl
  rw [e0]
  cases hl : lk fs s with
  | none =>
    rw [List.find?_eq_none.2 (fun x hx hs => lk_none hl x (List.mem_filter.1 hx).1 (of_decide_eq_true hs))]
    rfl
  | some f =>
    obtain ⟨h1, h2⟩ := lk_mem hl
    show _ = if f.stay K = true then some (f.aft K σ) else none
    cases hs : f.stay K with
    | true =>
      rw [if_pos rfl, find_keepM fs (fun x hx hd => by rw [nm_inj un hx h1 ((of_decide_eq_true hd).trans h2.symm)]; exact hs)]
      show (lk fs s).map _ = _
      rw [hl]
      rfl
    | false =>
      rw [if_neg (by decide), List.find?_eq_none.2 (fun x hx hd => by
        obtain ⟨g1, g2⟩ := List.mem_filter.1 hx
        have e := nm_inj un g1 h1 ((of_decide_eq_true hd).trans h2.symm)
        rw [e, hs] at g2
        cases g2)]
      rfl
theorem CI.disk {W u : World} {D : Dq} {K : ByteArray → Kv} {r n : Nat} {left : Lit → Bool} {es : List (Lit × DataW Nat)} (h : DOk W D) (h0 : W.ownsMap Try.prog 9 RF D.mb D.fs.length (.map es)) (ha : ∀ s, (DataW.map es).atKey (ky s) .nil = dv (lk D.fs s)) (hh : ∀ s, Maps.has (.map es) (ky s) = (lk D.fs s).isSome)
    (c : CI W D K r left u) (hl : ∀ kl, left kl = false) (hm : u.ownsMap Try.prog 9 RF D.mb n (Lib.deleteFuncD (fun a _ => pdk D K a) (.map es))) : ∃ σ, DOk u (D.aft K σ) ∧ Chg D.bl W u ∧ ∀ x ∈ (D.aft K σ).bl, x ∈ D.bl ∨ W.heap.size ≤ x := by
  obtain ⟨σ, h1, h2, h3⟩ := c.ex
  have hcu : ∀ f, cur K σ left f = f.aft K σ := fun f => cur_f (hl _)
  have hrr := c.rr
  have hlt : ∀ x ∈ D.bl, x < W.heap.size := h.blt
  have hch : Chg D.bl W u := c.ch.mono (fun x hx => by
    rcases List.mem_cons.1 hx with e | e
    · exact .inr (by omega)
    · refine .inl ?_
      unfold Dq.bl
      rcases List.mem_cons.1 e with e | e
      · rw [e]; simp
      · exact List.mem_cons_of_mem _ (List.mem_cons_of_mem _ (List.mem_cons_of_mem _ e)))
  have hmem : ∀ y ∈ (D.aft K σ).fs, ∃ f ∈ D.fs, y = f.aft K σ := fun y hy => by
    obtain ⟨f, hf, e⟩ := List.mem_map.1 hy
    exact ⟨f, (List.mem_filter.1 hf).1, e.symm⟩
  have hnm : ∀ f : Fq, (f.aft K σ).nm = f.nm := fun _ => rfl
  have hbl : ∀ f ∈ D.fs, ∀ x ∈ (f.aft K σ).bl, x ∈ f.bl ∨ W.heap.size < x := fun f hf x hx => h2 f hf x (by rw [hcu]; exact hx)
  have hdn : D.d ∉ r :: D.mb :: D.fs.flatMap Fq.bl := fun hx => by
    have := hlt D.d (by unfold Dq.bl; simp)
    rcases List.mem_cons.1 hx with e | e
    · omega
    · rcases List.mem_cons.1 e with e | e
      · exact h.h3.1 e
      · obtain ⟨f, hf, e⟩ := List.mem_flatMap.1 e
        exact (h.hd f hf _ e).1 rfl
  have hrn : D.rb ∉ r :: D.mb :: D.fs.flatMap Fq.bl := fun hx => by
    have := hlt D.rb (by unfold Dq.bl; simp)
    rcases List.mem_cons.1 hx with e | e
    · omega
    · rcases List.mem_cons.1 e with e | e
      · exact h.h3.2.2 e.symm
      · obtain ⟨f, hf, e⟩ := List.mem_flatMap.1 e
        exact (h.hd f hf _ e).2.2 rfl
  obtain ⟨n', Y, y1, y2⟩ := h.rm
  have hsz : Maps.size (Lib.deleteFuncD (fun a _ => pdk D K a) (.map es)) = (D.aft K σ).fs.length := by
    show (es.filter fun p => !pdk D K p.1).length = ((D.fs.filter (Fq.stay K)).map (Fq.aft K σ)).length
    rw [del_size h0 hh h.un, List.length_map]
    congr 1
    apply List.filter_congr
    intro f hf
    rw [pdk_ky]
    cases hl' : lk D.fs f.nm with
    | none => exact absurd rfl (lk_none hl' f hf)
    | some g =>
      obtain ⟨g1, g2⟩ := lk_mem hl'
      rw [nm_inj h.un g1 hf g2]
      exact Bool.not_not _
  refine ⟨σ, ⟨c.ch.mm h.cel (fun p hp => by obtain rfl := List.mem_singleton.1 hp; exact hdn), ⟨_, hsz ▸ ownMap_tight hm, fun s => ?_, fun s => ?_, hsz⟩, ⟨n', Y, ownMap_keep y1 (c.ch.block _ y1.lt hrn), y2⟩, fun y hy => ?_, fun y hy z hz hne x hx => ?_, fun y hy x hx => ?_, h.h3, ?_, h.k1, ?_⟩, hch, fun x hx => ?_⟩
  · rw [del_at, pdk_ky, ha]
    show _ = dv (lk ((D.fs.filter (Fq.stay K)).map (Fq.aft K σ)) s)
    rw [lk_aft K σ h.un]
    cases lk D.fs s with
    | none => rfl
    | some f => cases hs : f.stay K <;> simp [hs, dv] <;> rfl
  · rw [del_has, pdk_ky, hh]
    show _ = (lk ((D.fs.filter (Fq.stay K)).map (Fq.aft K σ)) s).isSome
    rw [lk_aft K σ h.un]
    cases lk D.fs s with
    | none => rfl
    | some f => cases hs : f.stay K <;> simp [hs]
  · obtain ⟨f, hf, rfl⟩ := hmem y hy
    have := h1 f hf
    rwa [hcu] at this
  · obtain ⟨f, hf, rfl⟩ := hmem y hy
    obtain ⟨g, hg, rfl⟩ := hmem z hz
    have := h3 f hf g hg hne x (by rw [hcu]; exact hx)
    rwa [hcu] at this
  · obtain ⟨f, hf, rfl⟩ := hmem y hy
    rcases hbl f hf x hx with e | e
    · exact h.hd f hf x e
    · have e1 := hlt D.d (by unfold Dq.bl; simp)
      have e2 := hlt D.mb (by unfold Dq.bl; simp)
      have e3 := hlt D.rb (by unfold Dq.bl; simp)
      show x ≠ D.d ∧ x ≠ D.mb ∧ x ≠ D.rb
      omega
  · show (((D.fs.filter (Fq.stay K)).map (Fq.aft K σ)).map Fq.nm).Nodup
    rw [List.map_map]
    exact (List.filter_sublist.map Fq.nm).nodup h.un
  · show ((D.fs.filter (Fq.stay K)).map (Fq.aft K σ)).length ≤ 64
    rw [List.length_map]
    exact Nat.le_trans (List.length_filter_le _ _) h.n64
  · unfold Dq.bl at hx
    simp only [List.mem_cons, List.mem_flatMap] at hx
    rcases hx with e | e | e | ⟨y, hy, e⟩
    · exact .inl (by unfold Dq.bl; rw [e]; exact List.mem_cons_self ..)
    · exact .inl (by unfold Dq.bl; rw [e]; exact List.mem_cons_of_mem _ (List.mem_cons_self ..))
    · exact .inl (by unfold Dq.bl; rw [e]; exact List.mem_cons_of_mem _ (List.mem_cons_of_mem _ (List.mem_cons_self ..)))
    · obtain ⟨f, hf, rfl⟩ := hmem y hy
      exact (hbl f hf x e).elim (fun q => .inl (Dq.fbl hf x q)) (fun q => .inr (Nat.le_of_lt q))
theorem at_none {X : DataW Nat} {k : Lit} (h : Maps.has X k = false) (z : DataW Nat) : X.atKey k z = z := by
  unfold DataW.atKey
  split
  · rename_i es
    have : es.find? (fun p => p.1.sameKey k) = none := List.find?_eq_none.2 (fun x hx hs => by
      rw [show Maps.has (.map es) k = true from List.any_eq_true.2 ⟨x, hx, hs⟩] at h
      cases h)
    rw [this]
  · rfl
theorem crash_del (D : Dq) (K : ByteArray → Kv) (bx m n : Nat) (X' : DataW Nat) (W : World) (h : DOk W D) (hbx : Boxed W bx 123 (.map (some m))) (hm : W.ownsMap Try.prog 9 RK m n X') (hX' : ∀ s, X'.atKey (ky s) (kdt kv0) = kdt (K s)) (hb1 : bx ∉ D.bl) (hb2 : m ∉ D.bl) :
    Calls Try.prog 77 #[.map (some D.mb), .func (.func 78) #[] #[.pointer (some ⟨bx, 0, none⟩)]] W fun e u => e = .returned (.tuple #[]) ∧ ∃ σ, DOk u (D.aft K σ) ∧ Chg D.bl W u ∧ ∀ x ∈ (D.aft K σ).bl, x ∈ D.bl ∨ W.heap.size ≤ x := by
  obtain ⟨X, x1, x2, x3, x4⟩ := h.mp
  obtain ⟨es, rfl, _, _⟩ := x1.entries (Maps.string_keyed Try.underlying9)
  have hlt := h.blt
  refine (delfunc_I (fun r left u => CI W D K r left u) (fun a _ => pdk D K a) 78 #[.pointer (some ⟨bx, 0, none⟩)] D.mb D.fs.length _ W call78 x1 ?_ ?_ ?_).mono ?_
  · intro w' hs hg
    exact CI.start h hs hg x3
  · intro r left u u' x c hx hg
    exact c.step h hx hg
  · intro r left u key val kl yd yp c hkey hv hl hat
    obtain ⟨s, rfl, rfl, hs⟩ := key_string hkey
    cases hf : lk D.fs s with
    | none =>
      have hn : Maps.has (.map es) (ky s) = false := by rw [x3, hf]; rfl
      have e1 := (at_none hn (.held 0)).symm.trans ((hat (.held 0)).trans ((hat (.held 1)).symm.trans (at_none hn (.held 1))))
      cases e1
    | some f =>
      obtain ⟨g1, g2⟩ := lk_mem hf
      subst g2
      have e : yd = .held f.g := (hat .nil).symm.trans ((x2 f.nm).trans (by rw [hf]; rfl))
      subst e
      have hvv := RF_held hv
      subst hvv
      obtain ⟨σ, q1, _, _⟩ := c.ex
      have hFu : FOk u f := by
        have := q1 f g1
        rwa [cur_t hl] at this
      have hrr := c.rr
      have hin : ∀ x, x < W.heap.size → x ∉ D.bl → u.heap[x]? = W.heap[x]? := fun x hx hn => c.ch.block x hx (fun hm => by
        rcases List.mem_cons.1 hm with e | e
        · omega
        · rcases List.mem_cons.1 e with e | e
          · exact hn (by rw [e]; unfold Dq.bl; simp)
          · obtain ⟨g, hg, e⟩ := List.mem_flatMap.1 e
            exact hn (Dq.fbl hg x e))
      have hbu : Boxed u bx 123 (.map (some m)) := (hin bx hbx.lt hb1).trans hbx
      obtain ⟨v, ps, hr, hv⟩ := (ownMap_keep hm (hin m hm.lt hb2)).lookup (Maps.string_keyed Try.underlying9) Try.underlying123 (z := kvv kv0) (by kernel_rfl) (zd := kdt kv0) (zp := []) rfl (WideMaps.keyOf_string_mk Try.underlying9 hs)
      have e2 := hX' f.nm
      unfold ky at e2
      rw [e2] at hv
      rw [RK_inv hv] at hr
      refine (crash1_f f (K f.nm) bx m u hFu hbu hr).mono ?_
      rintro e u' ⟨rfl, s', q1, q2, q3⟩
      have hfl := (h.fl f g1).lt
      refine ⟨?_, c.del h g1 hs hl q1 q2 q3, q2.size, q2.block D.mb ?_ (fun hx => (h.hd f g1 _ hx).2.1 rfl), q2.block r ?_ (fun hx => by have := hfl r hx; omega)⟩
      · show _ = Ending.returned (.bool (pdk D K (ky f.nm)))
        rw [pdk_ky, hf]
        rfl
      · have := hlt D.mb (by unfold Dq.bl; simp)
        have := c.sz
        omega
      · have := c.sz
        omega
  · rintro e w' ⟨rfl, hm', r, left, hl, c⟩
    exact ⟨rfl, c.disk h x1 x2 x3 hl hm'⟩
/-- Crash of any disk, with any keeps. -/
theorem Crash_f (D : Dq) (a : Option Addr) (len cap : Nat) (zs : Nat → Kv) (hlen : len ≤ 1152921504606846976) (w : World) (h : DOk w D) (hK : Kps w.heap.size w (.slice a len cap) len zs) :
    Calls Try.prog 24 #[PT D.d 0, .slice a len cap] w fun e w' => e = .returned (.int .i64 0) ∧ ∃ σ, Dw w D (D.aft (kof (kup (kbk len zs) len)) σ) w' := by
  have hlt := h.blt
  refine (crash_in (fun N W2 => ∃ σ, Dw w D (D.aft (kof (kup (kbk len zs) len)) σ) W2 ∧ ∀ x ∈ (D.aft (kof (kup (kbk len zs) len)) σ).bl, x ∈ D.bl ∨ N ≤ x) D.d D.mb D.rb _ a len cap zs hlen w h.cel hK ?_).mono ?_
  · intro W bx m hB hbx hm hbox hown
    refine (crash_del D _ bx m len _ W (h.below hB) hbox hown (fun s => fD_at _ s) (fun hx => by have := hlt _ hx; omega) (fun hx => by have := hlt _ hx; omega)).mono ?_
    rintro e u ⟨rfl, σ, q1, q2, q3⟩
    exact ⟨rfl, fun D' h1 h2 => q2.block D' h2 (fun hx => by have := hlt _ hx; omega), σ, ⟨q1, (Chg.of hB).trans q2 (fun x hx => .inl hx), fun x hx => (q3 x hx).imp_right (fun e => Nat.le_trans hB.size e)⟩, q3⟩
  · rintro e w' ⟨rfl, N, W2, D', ⟨σ, ⟨q1, q2, q3⟩, q4⟩, hD, hN, hd, rfl⟩
    have hc : Chg [D'] W2 (W2.putObj D' (.deferred none)) := Chg.grown (grownBy_putObj' _ _ _)
    refine ⟨rfl, σ, q1.chg hc (fun x hx hm => ?_), q2.trans hc (fun x hx => .inr (by rw [List.mem_singleton.1 hx]; exact hD)), q3⟩
    rw [List.mem_singleton.1 hx] at hm
    rcases q4 D' hm with e | e
    · have := hlt _ e
      omega
    · omega
end Wi
end Rg
end Go.Proofs.Ytidicdlfjdlpnaa
end
section
namespace Go.Proofs.Ytidicdlfjdlpnaa
open Go.RowKit
namespace Rg
namespace Wi
set_option maxRecDepth 100000
/-- A file that holds a log: the first a records are safe, those from a to i are under way. -/
structure LogF (P : Nat → Pt8) (a i : Nat) (f : Fq) : Prop where
  le : a ≤ i
  n : f.n = lA P a
  c : ∀ x, x < lA P a → f.P x = lF P a x
  m : f.ops.length = i - a
  o : ∀ k, k < i - a → (opF f.ops k).st = lA P (a + k) ∧ (opF f.ops k).q.n = 8 + (P (a + k)).n + 4 ∧ (opF f.ops k).q.f = frm (P (a + k)).f (P (a + k)).n
section
variable {P : Nat → Pt8} {a i : Nat} {f : Fq}
theorem LogF.rn (h : LogF P a i f) : ∀ k, k ≤ i - a → rN f.n (opF f.ops) k = lA P (a + k)
  | 0, _ => h.n
  | k + 1, hk => by
    obtain ⟨h1, h2, _⟩ := h.o k (by omega)
    show (opF f.ops k).st + (opF f.ops k).q.n = lA P (a + k) + (8 + (P (a + k)).n + 4)
    rw [h1, h2]
theorem LogF.rp (h : LogF P a i f) : ∀ k, k ≤ i - a → ∀ x, x < lA P (a + k) → rP f.P (opF f.ops) k x = lF P (a + k) x
  | 0, _, x, hx => h.c x hx
  | k + 1, hk, x, hx => by
    obtain ⟨h1, _, h3⟩ := h.o k (by omega)
    show ct (rP f.P (opF f.ops) k) (opF f.ops k).st (opF f.ops k).q.f x = ct (lF P (a + k)) (lA P (a + k)) (frm (P (a + k)).f (P (a + k)).n) x
    rw [h1, h3]
    by_cases hl : x < lA P (a + k)
    · rw [ct_lo hl, ct_lo hl, h.rp k (by omega) x hl]
    · unfold ct
      rw [if_neg hl, if_neg hl]
theorem LogF.N (h : LogF P a i f) : f.N = lA P i := by
  unfold Fq.N
  rw [h.rn _ (by rw [h.m]; omega), h.m]
  congr 1
  have := h.le
  omega
theorem opF_lo {l : List Uop} {o : Uop} {k : Nat} (h : k < l.length) : opF (l ++ [o]) k = opF l k := by
  unfold opF
  rw [List.getD_eq_getElem?_getD, List.getD_eq_getElem?_getD, List.getElem?_append_left h]
theorem opF_hi {l : List Uop} {o : Uop} {k : Nat} (h : k = l.length) : opF (l ++ [o]) k = o := by
  unfold opF
  rw [List.getD_eq_getElem?_getD, h, List.getElem?_append_right (Nat.le_refl _), Nat.sub_self]
  rfl
theorem LogF.more {v : Value} {q2 : Pt8} (h : LogF P a i f) (h1 : q2.n = 8 + (P i).n + 4) (h2 : q2.f = frm (P i).f (P i).n) : LogF P a (i + 1) (f.more v (appo f.N q2)) := by
  have hl := h.le
  refine ⟨by omega, h.n, h.c, ?_, fun k hk => ?_⟩
  · show (f.ops ++ [appo f.N q2]).length = _
    rw [List.length_append, h.m]
    show i - a + 1 = _
    omega
  · show (opF (f.ops ++ [appo f.N q2]) k).st = _ ∧ (opF (f.ops ++ [appo f.N q2]) k).q.n = _ ∧ (opF (f.ops ++ [appo f.N q2]) k).q.f = _
    by_cases e : k < f.ops.length
    · rw [opF_lo e]
      exact h.o k (by rw [← h.m]; exact e)
    · have hm := h.m
      rw [opF_hi (by omega), show a + k = i by omega]
      exact ⟨h.N, h1, h2⟩
theorem LogF.new {s : ByteArray} {g : Nat} {v : Value} {q2 : Pt8} (h1 : q2.n = 8 + (P 0).n + 4) (h2 : q2.f = frm (P 0).f (P 0).n) : LogF P 0 1 ((newF s g).more v (appo 0 q2)) := by
  have h0 : LogF P 0 0 (newF s g) := ⟨Nat.le_refl _, rfl, fun x hx => absurd hx (Nat.not_lt_zero _), rfl, fun k hk => absurd hk (Nat.not_lt_zero _)⟩
  have := h0.more (v := v) h1 h2
  exact this
theorem Fq.dn_all (f : Fq) : f.dn (f.ops.length : Int) = f.ops.length := by
  unfold Fq.dn
  rw [Int.toNat_natCast, Nat.min_self]
theorem LogF.sync {s' : Value} (h : LogF P a i f) : LogF P i i (f.set s' f.ops.length 0) := by
  have hl := h.le
  have hm := h.m
  have e0 : a + (i - a) = i := by omega
  have ht : f.tn (f.ops.length : Int) 0 = 0 := by
    unfold Fq.tn
    rw [Fq.dn_all, if_neg (Nat.lt_irrefl _)]
  have er := h.rn (i - a) (Nat.le_refl _)
  rw [e0, ← hm] at er
  refine ⟨Nat.le_refl _, ?_, fun x hx => ?_, ?_, fun k hk => ?_⟩
  · show f.sN (f.ops.length : Int) 0 = _
    unfold Fq.sN
    rw [ht, Fq.dn_all, er]
    rfl
  · show f.sP (f.ops.length : Int) x = _
    unfold Fq.sP
    rw [Fq.dn_all, er, ct_lo hx]
    have e2 := h.rp (i - a) (Nat.le_refl _) x (by rw [e0]; exact hx)
    rwa [e0, ← hm] at e2
  · show 0 = i - i
    omega
  · omega
/-- What is left of a log behind a crash: M records, and t bytes of the next one. -/
structure Lft (P : Nat → Pt8) (a i M t N : Nat) (C : Nat → Nat) : Prop where
  lo : a ≤ M
  hi : M ≤ i
  tq : t = 0 ∨ M < i ∧ t < 8 + (P M).n + 4
  nq : N = lA P M + t
  cq : ∀ x, x < lA P M + t → C x = ct (lF P M) (lA P M) (frm (P M).f (P M).n) x
theorem LogF.crash (h : LogF P a i f) (x y : Int) : ∃ M t, Lft P a i M t (f.sN x y) (f.sP x) := by
  have hl := h.le
  have hm := h.m
  have hd : f.dn x ≤ i - a := by unfold Fq.dn; omega
  have er := h.rn (f.dn x) hd
  have ep := h.rp (f.dn x) hd
  unfold Fq.sN Fq.sP
  rw [er]
  by_cases hlt : f.dn x < f.ops.length
  · have ht : f.tn x y = min y.toNat (8 + (P (a + f.dn x)).n + 4) := by
      unfold Fq.tn
      rw [if_pos hlt, (h.o (f.dn x) (by omega)).2.1]
    have hq := (h.o (f.dn x) (by omega)).2.2
    rw [hq]
    by_cases hw : f.tn x y < 8 + (P (a + f.dn x)).n + 4
    · refine ⟨a + f.dn x, f.tn x y, by omega, by omega, .inr ⟨by omega, hw⟩, rfl, fun z hz => ?_⟩
      by_cases hz2 : z < lA P (a + f.dn x)
      · rw [ct_lo hz2, ct_lo hz2, ep z hz2]
      · unfold ct
        rw [if_neg hz2, if_neg hz2]
    · have ht2 : f.tn x y = 8 + (P (a + f.dn x)).n + 4 := by omega
      refine ⟨a + f.dn x + 1, 0, by omega, by omega, .inl rfl, by rw [ht2]; rfl, fun z hz => ?_⟩
      rw [ct_lo (P := lF P (a + f.dn x + 1)) (by omega)]
      show _ = ct (lF P (a + f.dn x)) (lA P (a + f.dn x)) (frm (P (a + f.dn x)).f (P (a + f.dn x)).n) z
      by_cases hz2 : z < lA P (a + f.dn x)
      · rw [ct_lo hz2, ct_lo hz2, ep z hz2]
      · unfold ct
        rw [if_neg hz2, if_neg hz2]
  · have e1 : a + f.dn x = i := by omega
    have ht : f.tn x y = 0 := by
      unfold Fq.tn
      rw [if_neg hlt]
    rw [ht, e1]
    rw [e1] at ep
    refine ⟨i, 0, hl, Nat.le_refl _, .inl rfl, rfl, fun z hz => ?_⟩
    rw [ct_lo (P := rP _ _ _) (by omega), ct_lo (by omega), ep z (by omega)]
theorem Lft.none : Lft P 0 i 0 0 0 (fun _ => 0) := ⟨Nat.le_refl _, Nat.zero_le _, .inl rfl, rfl, fun _ hx => absurd hx (Nat.not_lt_zero _)⟩
end
/-- A journal on a disk that refuses nothing: i records appended, the first a of them synced. -/
def Jl (w0 : World) (P : Nat → Pt8) (s : ByteArray) (j d a i : Nat) (u : World) : Prop := ∃ D : Dq, D.d = d ∧ JOk w0 j D s i (lA P i) u ∧ D.rf = (fun _ => false) ∧ D.k ≤ i + a ∧ ((i = 0 ∧ a = 0 ∧ D.fs = []) ∨ ∃ f, D.fs = [f] ∧ f.nm = s ∧ LogF P a i f ∧ (f.fr = true → a = 0))
theorem Jl.step {w0 u u' : World} {P : Nat → Pt8} {s : ByteArray} {j d a i : Nat} (h : Jl w0 P s j d a i u) (hb : Below u.heap.size u u') : Jl w0 P s j d a i u' := by
  obtain ⟨D, h0, h1, h2⟩ := h
  exact ⟨D, h0, h1.step hb, h2⟩
theorem lk_one {f : Fq} {s : ByteArray} (h : f.nm = s) : lk [f] s = some f := by
  unfold lk
  simp [h]
theorem swap_one {D : Dq} {f f' : Fq} (h : D.fs = [f]) : (D.swap f f').fs = [f'] := by
  show D.fs.map (swp f f') = [f']
  rw [h]
  show [swp f f' f] = [f']
  unfold swp
  rw [if_pos rfl]
theorem Jl.app {w0 u : World} {P : Nat → Pt8} {s : ByteArray} {j d a i : Nat} (h : Jl w0 P s j d a i u) (hs : s.size ≤ 281474976710656) (hn : nmd s = true) (hq : Pok (P i) ∧ (P i).rs u) (hqn : (P i).p = none → (P i).cp = 0) (hL : (P i).n ≤ 500) (hi : i < 30) (hA : lA P i ≤ 15360) (ha : a ≤ 30) :
    Calls Try.prog 44 #[PT j 0, .slice (P i).p (P i).n (P i).cp] u fun e u' => e = .returned (.int .i64 0) ∧ Jl w0 P s j d a (i + 1) u' := by
  obtain ⟨D, hd, h1, h2, h3, h4⟩ := h
  have hno : D.no = false := by unfold Dq.no; rw [h2]
  rcases h4 with ⟨rfl, rfl, h4⟩ | ⟨f, h4, h5, h6, h7⟩
  · refine (japp_new h1 hs hn (P 0) hq hqn (by omega) (by omega) (by show 0 < _; omega) (by omega) hno (by rw [h4]; rfl) (by rw [h4]; show 0 < 64; omega)).mono fun e u' hh => ?_
    obtain ⟨e1, g, q2, v, e2, e3, e4⟩ := hh
    refine ⟨e1, D.tick.add ((newF s g).more v (appo 0 q2)), hd, e4, h2, by show D.k + 1 ≤ _; omega, .inr ⟨(newF s g).more v (appo 0 q2), ?_, rfl, LogF.new e2 e3, fun _ => rfl⟩⟩
    show D.fs ++ [_] = [_]
    rw [h4]
    rfl
  · have hm := h6.m
    refine (japp_hit h1 hs hn (P i) hq hqn (by omega) (by omega) (by omega) (by omega) hno f (by rw [h4]; exact lk_one h5) (by omega) (by rw [h6.N]; omega)).mono fun e u' hh => ?_
    obtain ⟨e1, q2, v, e2, e3, e4⟩ := hh
    exact ⟨e1, D.tick.swap f (f.more v (appo f.N q2)), hd, e4, h2, by show D.k + 1 ≤ _; omega, .inr ⟨_, swap_one (D := D.tick) h4, h5, h6.more e2 e3, h7⟩⟩
theorem Jl.syn {w0 u : World} {P : Nat → Pt8} {s : ByteArray} {j d i : Nat} (h : Jl w0 P s j d 0 i u) (hs : s.size ≤ 281474976710656) (hi0 : 0 < i) (hi : i ≤ 30) :
    Calls Try.prog 45 #[PT j 0] u fun e u' => e = .returned (.int .i64 0) ∧ Jl w0 P s j d i i u' := by
  obtain ⟨D, hd, h1, h2, h3, h4⟩ := h
  have hno : D.no = false := by unfold Dq.no; rw [h2]
  rcases h4 with ⟨h4, _, _⟩ | ⟨f, h4, h5, h6, h7⟩
  · omega
  · have hm := h6.m
    refine (jsync_hit h1 hs (by omega) hno f (by rw [h4]; exact lk_one h5) (by omega)).mono fun e u' hh => ?_
    obtain ⟨e1, s', e2⟩ := hh
    exact ⟨e1, D.tick.swap f (f.set s' f.ops.length 0), hd, e2, h2, by show D.k + 1 ≤ _; omega, .inr ⟨_, swap_one (D := D.tick) h4, h5, h6.sync, fun hx => by cases hx⟩⟩
/-- A disk behind a crash. -/
structure Cd (w0 : World) (P : Nat → Pt8) (s : ByteArray) (d a i : Nat) (D : Dq) (u : World) : Prop where
  b : Below w0.heap.size w0 u
  dd : D.d = d
  dk : DOk u D
  lo : ∀ x ∈ D.bl, w0.heap.size ≤ x
  rf : D.rf = (fun _ => false)
  k : D.k ≤ i + a
  fs : D.fs = [] ∨ ∃ f, D.fs = [f] ∧ f.nm = s ∧ f.ops = []
  lf : ∃ M t, Lft P a i M t (cnN (lk D.fs s)) (cnC (lk D.fs s))
theorem Jl.crash {w0 u : World} {P : Nat → Pt8} {s : ByteArray} {j d a i : Nat} (h : Jl w0 P s j d a i u) {sa : Option Addr} {len cap : Nat} {zs : Nat → Kv} (hlen : len ≤ 1152921504606846976) (hK : Kps u.heap.size u (.slice sa len cap) len zs) :
    Calls Try.prog 24 #[PT d 0, .slice sa len cap] u fun e u' => e = .returned (.int .i64 0) ∧ ∃ D, Cd w0 P s d a i D u' := by
  obtain ⟨D, hd, h1, h2, h3, h4⟩ := h
  subst hd
  refine (Crash_f D sa len cap zs hlen u h1.dk hK).mono fun e u' hh => ?_
  obtain ⟨e1, σ, e2⟩ := hh
  obtain ⟨k1, k2, k3⟩ := h1.dw (Below.refl _ _) e2 rfl
  generalize hKK : kof (kup (kbk len zs) len) = K at *
  refine ⟨e1, D.aft K σ, ⟨k1.b, rfl, k1.dk, k1.lo.2, h2, h3, ?_, ?_⟩⟩
  · show (D.fs.filter (Fq.stay K)).map (Fq.aft K σ) = [] ∨ _
    rcases h4 with ⟨_, _, h4⟩ | ⟨f, h4, h5, h6, h7⟩
    · rw [h4]; exact .inl rfl
    · rw [show (D.aft K σ).fs = (D.fs.filter (Fq.stay K)).map (Fq.aft K σ) from rfl, h4]
      cases hs : f.stay K with
      | true => exact .inr ⟨f.aft K σ, by rw [List.filter_cons_of_pos hs]; rfl, h5, rfl⟩
      | false => exact .inl (by rw [List.filter_cons_of_neg (by rw [hs]; decide)]; rfl)
  · show ∃ M t, Lft P a i M t (cnN (lk ((D.fs.filter (Fq.stay K)).map (Fq.aft K σ)) s)) (cnC (lk ((D.fs.filter (Fq.stay K)).map (Fq.aft K σ)) s))
    rcases h4 with ⟨rfl, rfl, h4⟩ | ⟨f, h4, h5, h6, h7⟩
    · rw [h4]
      exact ⟨0, 0, Lft.none⟩
    · rw [h4]
      cases hs : f.stay K with
      | true =>
        rw [List.filter_cons_of_pos hs]
        show ∃ M t, Lft P a i M t (cnN (lk [f.aft K σ] s)) (cnC (lk [f.aft K σ] s))
        rw [lk_one (show (f.aft K σ).nm = s from h5)]
        exact h6.crash _ _
      | false =>
        rw [List.filter_cons_of_neg (by rw [hs]; decide)]
        have hf : f.fr = true := by
          unfold Fq.stay Fq.there at hs
          cases hfr : f.fr with
          | true => rfl
          | false => rw [hfr] at hs; simp at hs
        obtain rfl := h7 hf
        exact ⟨0, 0, Lft.none⟩
end Wi
end Rg
end Go.Proofs.Ytidicdlfjdlpnaa
end
section
namespace Go.Proofs.Ytidicdlfjdlpnaa
open Go.RowKit
namespace Rg
namespace Wi
set_option maxRecDepth 100000
/-- A journal that was opened behind a crash: M records. -/
def Jo (w0 : World) (P : Nat → Pt8) (s : ByteArray) (M j : Nat) (u : World) : Prop := ∃ D : Dq, JOk w0 j D s M (lA P M) u ∧ D.rf = (fun _ => false) ∧ D.k ≤ 100 ∧ (D.fs = [] ∨ ∃ f, D.fs = [f] ∧ f.nm = s ∧ f.ops = [] ∧ f.N ≤ 15360)
theorem Jo.step {w0 u u' : World} {P : Nat → Pt8} {s : ByteArray} {M j : Nat} (h : Jo w0 P s M j u) (hb : Below u.heap.size u u') : Jo w0 P s M j u' := by
  obtain ⟨D, h1, h2⟩ := h
  exact ⟨D, h1.step hb, h2⟩
theorem Jo.app {w0 u : World} {P : Nat → Pt8} {s : ByteArray} {M j : Nat} (h : Jo w0 P s M j u) (hs : s.size ≤ 281474976710656) (hn : nmd s = true) (q : Pt8) (hq : Pok q ∧ q.rs u) (hqn : q.p = none → q.cp = 0) (hL : q.n ≤ 500) (hM : M ≤ 30) (hA : lA P M ≤ 15360) :
    Calls Try.prog 44 #[PT j 0, .slice q.p q.n q.cp] u fun e u' => e = .returned (.int .i64 0) ∧ ∃ D z, JOk w0 j D s (M + 1) z u' := by
  obtain ⟨D, h1, h2, h3, h4⟩ := h
  have hno : D.no = false := by unfold Dq.no; rw [h2]
  rcases h4 with h4 | ⟨f, h4, h5, h6, h7⟩
  · refine (japp_new h1 hs hn q hq hqn (by omega) (by omega) (by omega) (by omega) hno (by rw [h4]; rfl) (by rw [h4]; show 0 < 64; omega)).mono fun e u' hh => ?_
    obtain ⟨e1, g, q2, v, e2, e3, e4⟩ := hh
    exact ⟨e1, _, _, e4⟩
  · refine (japp_hit h1 hs hn q hq hqn (by omega) (by omega) (by omega) (by omega) hno f (by rw [h4]; exact lk_one h5) (by rw [h6]; show 0 < 1000000; omega) (by omega)).mono fun e u' hh => ?_
    obtain ⟨e1, q2, v, e2, e3, e4⟩ := hh
    exact ⟨e1, _, _, e4⟩
theorem Lft.log {P : Nat → Pt8} {a i M t N : Nat} {C : Nat → Nat} (h : Lft P a i M t N C) (hP : ∀ k, k < i → (P k).n ≤ 500) : Lgk C N (lA P) (fun k => (P k).n) M ∧ End C N (lA P) M := by
  have h1 := h.hi
  have h2 := h.nq
  subst h2
  have hl : ∀ j, j < lA P M → C j = lF P M j := fun j hj => (h.cq j (by omega)).trans (ct_lo hj)
  refine ⟨log_good hl (by omega) (fun k hk => Nat.le_trans (hP k (by omega)) (by decide)), ?_⟩
  rcases h.tq with e | ⟨e1, e2⟩
  · exact .inl (by omega)
  · exact log_torn (P M) (Nat.le_trans (hP M e1) (by decide)) e2 C h.cq
theorem Lft.bytes {P : Nat → Pt8} {a i M t N : Nat} {C : Nat → Nat} (h : Lft P a i M t N C) {k x : Nat} (hk : k < M) (hx : x < (P k).n) : C (lA P k + 8 + x) = (P k).f x := by
  have h1 : lA P (k + 1) ≤ lA P M := lA_mono P (by omega)
  have h2 : lA P (k + 1) = lA P k + (8 + (P k).n + 4) := rfl
  rw [h.cq _ (by omega), ct_lo (by omega), Nat.add_assoc, lF_at P hk (by omega), frm_rec hx]
theorem Cd.open {w0 u : World} {P : Nat → Pt8} {s : ByteArray} {d a i : Nat} {D : Dq} (h : Cd w0 P s d a i D u) (hs : s.size ≤ 281474976710656) (hn : nmd s = true) (hi : i ≤ 30) (ha : a ≤ 30) (hP : ∀ k, k < i → (P k).n ≤ 500) :
    Calls Try.prog 48 #[PT d 0, .string s] u fun e u' => ∃ M j v R B, e = .returned (.tuple #[PT j 0, v, .int .i64 0]) ∧ a ≤ M ∧ M ≤ i ∧ Jo w0 P s M j u' ∧ Lq B v M R u' ∧ ∀ k, k < M → (R k).n = (P k).n ∧ ∀ x, x < (P k).n → (R k).f x = (P k).f x := by
  obtain ⟨M, t, hl⟩ := h.lf
  obtain ⟨l1, l2⟩ := hl.log hP
  have hd := h.dd
  subst hd
  have hA : lA P M ≤ 15360 := Nat.le_trans (lA_le (c := 500) (fun k hk => hP k (Nat.lt_of_lt_of_le hk hl.hi))) (by have := hl.hi; omega)
  have hN : cnN (lk D.fs s) = lA P M + t := hl.nq
  have ht : t ≤ 512 := by
    rcases hl.tq with e | ⟨e1, e2⟩
    · omega
    · have := hP M e1
      omega
  have hk := h.k
  have hno : D.no = false := by unfold Dq.no; rw [h.rf]
  have hrec : ∀ (R : Nat → Pt8), (∀ k, k < M → (R k).n = (P k).n ∧ ∀ x, x < (P k).n → (R k).f x = cnC (lk D.fs s) (lA P k + 8 + x)) → ∀ k, k < M → (R k).n = (P k).n ∧ ∀ x, x < (P k).n → (R k).f x = (P k).f x := fun R hR k hk => ⟨(hR k hk).1, fun x hx => ((hR k hk).2 x hx).trans (hl.bytes hk hx)⟩
  by_cases h0 : t = 0
  · refine (jopen_f D s hs hn h.b h.dk h.lo (lA P) (fun k => (P k).n) M (by omega) (by omega) l1).mono fun e u' hh => ?_
    obtain ⟨j, v, R, B, e1, e2, e3, e4⟩ := hh
    refine ⟨M, j, v, R, B, e1, hl.lo, hl.hi, ⟨D, e2, h.rf, by omega, ?_⟩, e3, hrec R e4⟩
    rcases h.fs with e | ⟨f, f1, f2, f3⟩
    · exact .inl e
    · refine .inr ⟨f, f1, f2, f3, ?_⟩
      rw [f1, lk_one f2] at hN
      have : f.N = lA P M + t := hN
      omega
  · rcases h.fs with e | ⟨f, f1, f2, f3⟩
    · rw [e] at hN
      have : 0 = lA P M + t := hN
      omega
    · have hlk : lk D.fs s = some f := by rw [f1]; exact lk_one f2
      have hfN : f.N = lA P M + t := by rw [hlk] at hN; exact hN
      have hsz : s.size ≤ maxLen := by unfold maxLen; omega
      refine (jopen_cut D.d s hs (cnN (lk D.fs s)) (cnC (lk D.fs s)) (lA P) (fun k => (P k).n) M (by omega) (by omega) D.bl
        (fun j x => ∃ v s', JDk w0 j ((D.tick.swap f (f.more v (cuto (lA P M)))).tick.swap (f.more v (cuto (lA P M))) ((f.more v (cuto (lA P M))).set s' (f.more v (cuto (lA P M))).ops.length 0)) x) u (jcontent_u D s hs hn h.dk) l1 l2 ?_ ?_ h.dk.blt ?_).mono fun e u' hh => ?_
      · rintro j x x' ⟨v, s', q⟩ hb
        exact ⟨v, s', q.step hb⟩
      · rintro j x off vs ⟨v, s', q⟩
        exact ⟨v, s', q.put off vs⟩
      · intro j x hb hj1 hj2
        have hx := h.dk.below hb
        refine (jcut_ok D.d s (lA P M) 0 (fun y => Below x.heap.size x y) (fun y => ∃ v, Dw x D (D.tick.swap f (f.more v (cuto (lA P M)))) y) (fun y => ∃ v s', Dw x D ((D.tick.swap f (f.more v (cuto (lA P M)))).tick.swap (f.more v (cuto (lA P M))) ((f.more v (cuto (lA P M))).set s' (f.more v (cuto (lA P M))).ops.length 0)) y) x (Below.refl _ _) (fun y y' h1 h2 => below_on _ _ h1 h2) ?_ ?_ ?_ ?_).mono fun e x' hh => ?_
        · rintro y y' ⟨v, q⟩ hb'
          exact ⟨v, q.step _ _ hb'⟩
        · rintro y y' ⟨v, s', q⟩ hb'
          exact ⟨v, s', q.step _ _ hb'⟩
        · intro y hy
          have e := Cut_f D s hsz ((lA P M : Nat) : Int) y (hx.below hy) (by omega) (fun g hg => by rw [f1] at hg; rw [List.mem_singleton.1 hg, f3]; show 0 < 1000000; omega)
          refine e.mono fun e y' hh => ?_
          rw [hno, if_neg (by decide), hlk] at hh
          dsimp only at hh
          rw [if_pos (by omega), Int.toNat_natCast] at hh
          obtain ⟨e1, v, e2⟩ := hh
          exact ⟨e1, v, ((Dw.refl hx).step _ _ hy).trans e2⟩
        · rintro y ⟨v, q⟩
          have hl1 : lk (D.tick.swap f (f.more v (cuto (lA P M)))).fs s = some (f.more v (cuto (lA P M))) := by
            rw [swap_one (D := D.tick) f1]
            exact lk_one f2
          refine (Sync_hit_f (D.tick.swap f (f.more v (cuto (lA P M)))) s hsz y q.1 (by show D.k + 1 + 1 < _; omega) (by unfold Dq.no; show D.rf _ = false; rw [h.rf]) _ hl1).mono fun e y' hh => ?_
          obtain ⟨e1, s', e2⟩ := hh
          exact ⟨e1, v, s', q.trans e2⟩
        · obtain ⟨e1, v, s', e2⟩ := hh
          have hjn : j ∉ D.bl := fun hm => by have := h.dk.blt j hm; omega
          have hbx : Below w0.heap.size w0 x := below_on _ _ h.b hb
          refine ⟨e1, ⟨v, s', ⟨hbx.trans (e2.2.1.toBelow h.lo hbx.size), e2.1, ⟨Nat.le_trans h.b.size hj1, fun y hy => (e2.2.2 y hy).elim (h.lo y) (Nat.le_trans hbx.size)⟩, fun hm => (e2.2.2 j hm).elim hjn (fun e => by omega)⟩⟩, e2.2.1⟩
      · obtain ⟨j, v, R, B, e1, e2, ⟨v2, s', e3⟩, e4, e5, e6, e7⟩ := hh
        refine ⟨M, j, v, R, B, e1, hl.lo, hl.hi, ⟨_, e3.jok e2, h.rf, by show D.k + 1 + 1 ≤ 100; omega, .inr ⟨_, swap_one (swap_one (D := D.tick) f1), f2, rfl, ?_⟩⟩, e4, hrec R e7⟩
        show Fq.sN _ _ _ ≤ 15360
        unfold Fq.sN Fq.tn
        rw [Fq.dn_all, if_neg (Nat.lt_irrefl _)]
        show rN f.n (opF (f.ops ++ [cuto (lA P M)])) (f.ops ++ [cuto (lA P M)]).length + 0 ≤ 15360
        rw [f3]
        show lA P M + 0 + 0 ≤ 15360
        omega
end Wi
end Rg
end Go.Proofs.Ytidicdlfjdlpnaa
end
section
namespace Go.Proofs.Ytidicdlfjdlpnaa
open Go.RowKit
namespace Rg
namespace Wi
set_option maxRecDepth 100000
theorem ex_remI {ρ : Operand → Value} {o : Oper} {x y : Operand} {a : Int} {n : Nat} {w : World} (hn : 0 < n) (ho : o.op = .binOp .rem 3 x y 3) (hx : ρ x = .int .i64 a) (hy : ρ y = .int .i64 ((n : Nat) : Int)) : (execOp ρ o).run Try.prog w = .ok (.value (.int .i64 (a.tmod n))) w := by
  simp only [execOp, ho, hx, hy]
  clear ho hx hy
  go_simp
  omega
/-- A number below n that any number says. -/
def pkn (a : Int) (n : Nat) : Nat := if a.tmod n < 0 then (a.tmod n + n).toNat else (a.tmod n).toNat
theorem pkn_lt (a : Int) {n : Nat} (h : 0 < n) : pkn a n < n := by
  unfold pkn
  have h1 := Int.tmod_lt_of_pos a (show (0 : Int) < n by omega)
  have h2 := Int.lt_tmod_of_pos a (show (0 : Int) < n by omega)
  split <;> omega
set_option maxHeartbeats 2000000 in
set_option maxRecDepth 100000 in
theorem pick_neg (a : Int) (n : Nat) (hn : 0 < n) (hn2 : n < 4611686018427387904) (h0 : a.tmod n < 0) (h1 : -(n : Int) < a.tmod n) (w : World) :
    Calls Try.prog 31 #[.int .i64 a, .int .i64 ((n : Nat) : Int)] w fun e w' => e = .returned (.int .i64 (a.tmod n + n)) ∧ Below w.heap.size w w' := by
  have H0 : Hid (_ ∧ _) := ⟨Mm.nil w, Below.refl w.heap.size w⟩
  go_enter Try.func31, Try.ntmps31
  refine wp_seq ?_
  refine sq_startW (l := [0]) rfl (fun u0 hu0 => ?_)
  have H1 : Hid (Mm u0 [] ∧ Below w.heap.size w u0) := by rw [hu0]; exact H0
  clear hu0 H0
  refine rest_set (d := 4) (v := .int .i64 0) (w' := u0) rfl rfl rfl (rfl) ?_
  simp only [Act.put, sa, sz, ss]
  refine rest_nil (then_normal ?_)
  refine wp_seq (wp_seq ?_)
  refine sq_start (l := [0, 1]) rfl ?_
  refine rest_set (d := 5) (v := .int .i64 ((n : Nat) : Int)) (w' := u0) rfl rfl rfl (rfl) ?_
  simp only [Act.put, sa, sz, ss]
  refine rest_set (d := 6) (v := .bool false) (w' := u0) rfl rfl rfl (by go_simp <;> omega) ?_
  simp only [Act.put, sa, sz, ss]
  refine rest_nil (then_normal ?_)
  refine wp_cond_false rfl (wp_skip ?_)
  refine then_normal (wp_seq ?_)
  refine sq_start (l := [0, 1, 2, 3]) rfl ?_
  refine rest_set (d := 7) (v := .int .i64 a) (w' := u0) rfl rfl rfl (rfl) ?_
  simp only [Act.put, sa, sz, ss]
  refine rest_set (d := 8) (v := .int .i64 ((n : Nat) : Int)) (w' := u0) rfl rfl rfl (rfl) ?_
  simp only [Act.put, sa, sz, ss]
  refine rest_set (d := 9) (v := .int .i64 (a.tmod n)) (w' := u0) rfl rfl rfl (ex_remI hn rfl rfl rfl) ?_
  simp only [Act.put, sa, sz, ss]
  refine rest_set (d := 0) (v := .int .i64 (a.tmod n)) (w' := u0) rfl rfl rfl (rfl) ?_
  simp only [Act.put, List.setIfInBounds_toArray, List.set_cons_zero]
  refine rest_nil (then_normal ?_)
  refine wp_seq (wp_seq ?_)
  refine sq_start (l := [0, 1]) rfl ?_
  refine rest_set (d := 10) (v := .int .i64 (a.tmod n)) (w' := u0) rfl rfl rfl (rfl) ?_
  simp only [Act.put, sa, sz, ss]
  refine rest_set (d := 11) (v := .bool true) (w' := u0) rfl rfl rfl (by go_simp <;> omega) ?_
  simp only [Act.put, sa, sz, ss]
  refine rest_nil (then_normal (wp_cond_true rfl ?_))
  refine sq_start (l := [0, 1, 2, 3]) rfl ?_
  refine rest_set (d := 12) (v := .int .i64 (a.tmod n)) (w' := u0) rfl rfl rfl (rfl) ?_
  simp only [Act.put, sa, sz, ss]
  refine rest_set (d := 13) (v := .int .i64 ((n : Nat) : Int)) (w' := u0) rfl rfl rfl (rfl) ?_
  simp only [Act.put, sa, sz, ss]
  refine rest_set (d := 14) (v := .int .i64 (a.tmod n + n)) (w' := u0) rfl rfl rfl (by go_simp; rw [IntKind.wrap_i64]; omega) ?_
  simp only [Act.put, sa, sz, ss]
  refine rest_set (d := 0) (v := .int .i64 (a.tmod n + n)) (w' := u0) rfl rfl rfl (rfl) ?_
  simp only [Act.put, List.setIfInBounds_toArray, List.set_cons_zero]
  refine rest_nil (then_normal (wp_seq ?_))
  refine sq_start (l := [0, 1]) rfl ?_
  refine rest_set (d := 15) (v := .int .i64 (a.tmod n + n)) (w' := u0) rfl rfl rfl (rfl) ?_
  simp only [Act.put, sa, sz, ss]
  refine rest_set (d := 4) (v := .int .i64 (a.tmod n + n)) (w' := u0) rfl rfl rfl (rfl) ?_
  simp only [Act.put, sa, sz, ss]
  refine rest_nil (then_normal (wp_ret ?_))
  repeat (first | refine then_ret ?_ | refine block_ret ?_)
  refine bodyPost_ret (v := .int .i64 (a.tmod n + n)) (by simp [results, Try.results31, go_sem, *]) rfl ?_
  exact ⟨rfl, H1.out.2⟩
set_option maxHeartbeats 2000000 in
set_option maxRecDepth 100000 in
theorem pick_pos (a : Int) (n : Nat) (hn : 0 < n) (hn2 : n < 4611686018427387904) (h0 : ¬a.tmod n < 0) (w : World) :
    Calls Try.prog 31 #[.int .i64 a, .int .i64 ((n : Nat) : Int)] w fun e w' => e = .returned (.int .i64 (a.tmod n)) ∧ Below w.heap.size w w' := by
  have H0 : Hid (_ ∧ _) := ⟨Mm.nil w, Below.refl w.heap.size w⟩
  go_enter Try.func31, Try.ntmps31
  refine wp_seq ?_
  refine sq_startW (l := [0]) rfl (fun u0 hu0 => ?_)
  have H1 : Hid (Mm u0 [] ∧ Below w.heap.size w u0) := by rw [hu0]; exact H0
  clear hu0 H0
  refine rest_set (d := 4) (v := .int .i64 0) (w' := u0) rfl rfl rfl (rfl) ?_
  simp only [Act.put, sa, sz, ss]
  refine rest_nil (then_normal ?_)
  refine wp_seq (wp_seq ?_)
  refine sq_start (l := [0, 1]) rfl ?_
  refine rest_set (d := 5) (v := .int .i64 ((n : Nat) : Int)) (w' := u0) rfl rfl rfl (rfl) ?_
  simp only [Act.put, sa, sz, ss]
  refine rest_set (d := 6) (v := .bool false) (w' := u0) rfl rfl rfl (by go_simp <;> omega) ?_
  simp only [Act.put, sa, sz, ss]
  refine rest_nil (then_normal ?_)
  refine wp_cond_false rfl (wp_skip ?_)
  refine then_normal (wp_seq ?_)
  refine sq_start (l := [0, 1, 2, 3]) rfl ?_
  refine rest_set (d := 7) (v := .int .i64 a) (w' := u0) rfl rfl rfl (rfl) ?_
  simp only [Act.put, sa, sz, ss]
  refine rest_set (d := 8) (v := .int .i64 ((n : Nat) : Int)) (w' := u0) rfl rfl rfl (rfl) ?_
  simp only [Act.put, sa, sz, ss]
  refine rest_set (d := 9) (v := .int .i64 (a.tmod n)) (w' := u0) rfl rfl rfl (ex_remI hn rfl rfl rfl) ?_
  simp only [Act.put, sa, sz, ss]
  refine rest_set (d := 0) (v := .int .i64 (a.tmod n)) (w' := u0) rfl rfl rfl (rfl) ?_
  simp only [Act.put, List.setIfInBounds_toArray, List.set_cons_zero]
  refine rest_nil (then_normal ?_)
  refine wp_seq (wp_seq ?_)
  refine sq_start (l := [0, 1]) rfl ?_
  refine rest_set (d := 10) (v := .int .i64 (a.tmod n)) (w' := u0) rfl rfl rfl (rfl) ?_
  simp only [Act.put, sa, sz, ss]
  refine rest_set (d := 11) (v := .bool false) (w' := u0) rfl rfl rfl (by go_simp <;> omega) ?_
  simp only [Act.put, sa, sz, ss]
  refine rest_nil (then_normal ?_)
  refine wp_cond_false rfl (wp_skip ?_)
  refine then_normal (wp_seq ?_)
  refine sq_start (l := [0, 1]) rfl ?_
  refine rest_set (d := 15) (v := .int .i64 (a.tmod n)) (w' := u0) rfl rfl rfl (rfl) ?_
  simp only [Act.put, sa, sz, ss]
  refine rest_set (d := 4) (v := .int .i64 (a.tmod n)) (w' := u0) rfl rfl rfl (rfl) ?_
  simp only [Act.put, sa, sz, ss]
  refine rest_nil (then_normal (wp_ret ?_))
  repeat (first | refine then_ret ?_ | refine block_ret ?_)
  refine bodyPost_ret (v := .int .i64 (a.tmod n)) (by simp [results, Try.results31, go_sem, *]) rfl ?_
  exact ⟨rfl, H1.out.2⟩
theorem pick_any (a : Int) (n : Nat) (hn : 0 < n) (hn2 : n < 4611686018427387904) (w : World) : Calls Try.prog 31 #[.int .i64 a, .int .i64 ((n : Nat) : Int)] w fun e w' => e = .returned (.int .i64 ((pkn a n : Nat) : Int)) ∧ Below w.heap.size w w' := by
  have h2 := Int.lt_tmod_of_pos a (show (0 : Int) < n by omega)
  unfold pkn
  by_cases h : a.tmod n < 0
  · rw [if_pos h, Int.toNat_of_nonneg (by omega)]
    exact pick_neg a n hn hn2 h h2 w
  · rw [if_neg h, Int.toNat_of_nonneg (by omega)]
    exact pick_pos a n hn hn2 h w
end Wi
end Rg
end Go.Proofs.Ytidicdlfjdlpnaa
end
section
namespace Go.Proofs.Ytidicdlfjdlpnaa
open Go.RowKit
namespace Rg
namespace Wi
set_option maxRecDepth 100000
section
variable {ρ : Operand → Value} {o : Oper} {x y : Operand} {g n c k s a : Nat} {P : Nat → Nat} {w u : World}
end
theorem short_is (m : Nat) (hm : m ≤ 9223372036854775807) (pl1 : Option Addr) (c1 g1 o1 : Nat) (P1 : Nat → Pt8) (c : Bool) (h : shb P1 m = c) (w : World) (hl : Lv pl1 g1 o1 m P1 w) : Calls Try.prog 50 #[.slice pl1 m c1] w fun e w' => e = .returned (.bool c) ∧ Below w.heap.size w w' := by
  rw [← h]
  exact short_any m hm pl1 c1 g1 o1 P1 w hl
end Wi
end Rg
end Go.Proofs.Ytidicdlfjdlpnaa
end
section
namespace Go.Proofs.Ytidicdlfjdlpnaa
open Go.RowKit
namespace Rg
namespace Wi
set_option maxRecDepth 100000
abbrev kl3 : ByteArray := ⟨#[108, 111, 103]⟩
theorem kl3_ok : nmd kl3 = true := by decide +kernel
theorem kl3_sz : kl3.size ≤ 281474976710656 := by decide
theorem Lv.tk {pl : Option Addr} {g o m M : Nat} {P : Nat → Pt8} {u : World} (h : Lv pl g o m P u) (hM : M ≤ m) : Lv pl g o M P u := ⟨fun h0 => h.p (by omega), fun h0 => h.lt (by omega), fun i hi => h.at_ i (by omega), fun i hi => h.ok i (by omega)⟩
theorem kps_new (w : World) (x : Kv) {s : ByteArray} (hx : x.1.1 = s) : Kps (w.alloc (.cells #[.string s, .int .i64 x.1.2.1, .int .i64 x.1.2.2] 57)).heap.size (w.alloc (.cells #[.string s, .int .i64 x.1.2.1, .int .i64 x.1.2.2] 57)) (.slice (some ⟨w.heap.size, 0, none⟩) 1 1) 1 (fun _ => x) := by
  subst hx
  refine .inr ⟨w.heap.size, 0, 1, rfl, by simp, fun j hj => ?_⟩
  obtain rfl : j = 0 := by omega
  have h := World.alloc_heap_new w (.cells #[.string x.1.1, .int .i64 x.1.2.1, .int .i64 x.1.2.2] 57)
  refine ⟨?_, ?_, ?_⟩ <;> (unfold World.cell?; dsimp only; rw [h]; rfl)
theorem row_nine (w : World) : (rowp w.heap.size 1 (fun _ => 9)).rs (w.alloc (.cells #[.int .u8 9] 5)) := rowp_rs (by
  have := (Mm.nil w).alloc [.int .u8 9] 5 rfl
  exact this)
/-- How many records are synced once i are appended. -/
def syd (y i : Nat) : Nat := if y ≤ i then y else 0
set_option maxHeartbeats 8000000 in
theorem jcrash_main (m : Nat) (pl1 : Option Addr) (c1 g1 o1 : Nat) (P1 : Nat → Pt8) (hm30 : m ≤ 30) (hsh : shb P1 m = true) (hA : lA P1 m ≤ 15360) (h500 : ∀ i, i < m → (P1 i).n ≤ 500) (sy : Int) (x : Kv) (hx : x.1.1 = kl3) (hc1 : m ≤ c1) (w : World) (hl : Lv pl1 g1 o1 m P1 w) :
    Calls Try.prog 12 #[.slice pl1 m c1, .int .i64 sy, .int .i64 x.1.2.1, .int .i64 x.1.2.2] w fun e w' => e = .returned (.bool true) ∧ Below w.heap.size w w' := by
  have HL : Hid _ := hl
  have H5 : Hid _ := h500
  clear hl h500
  go_enter Try.func12, Try.ntmps12
  go_wp2_with (first
    | (go_at_call 10; refine (known_any w).mono ?_; rintro e w1 ⟨rfl, hb1⟩)
    | (go_at_call 50; refine (short_is m (by omega) pl1 c1 g1 o1 P1 true hsh w1 (HL.out.below hb1)).mono ?_; rintro e w2 ⟨rfl, hb2⟩; have hb2 := below_on _ _ hb1 hb2; clear hb1)
    | (go_at_call 14; refine (New_nil w2).mono ?_; rintro e w3 ⟨d, mb, rb, rfl, hN⟩)
    | (go_at_call 48; refine (jopen_new hN kl3 kl3_sz kl3_ok).mono ?_; rintro e w4 ⟨j, v, R0, B0, rfl, hJ0, hq0⟩; have hJ : Hid (Jl w2 P1 kl3 j d 0 0 w4) := ⟨⟨d, mb, rb, 0, [], fun _ => false⟩, rfl, hJ0, rfl, Nat.zero_le _, .inl ⟨rfl, rfl, rfl⟩⟩; clear hJ0 hq0 hN)
    | (go_at_call 31; refine (pick_any sy (m + 1) (by omega) (by omega) w4).mono ?_; rintro e w5 ⟨rfl, hb5⟩)
    | go_in)
  have hJ5 : Jl w2 P1 kl3 j d 0 0 w5 := hJ.out.step hb5
  clear hJ hb5
  obtain ⟨y, hy⟩ : ∃ y, y = pkn sy (m + 1) := ⟨_, rfl⟩
  have hym : y ≤ m := by have := pkn_lt sy (n := m + 1) (by omega); omega
  rw [← hy]
  clear hy
  have HA : ∀ i, i ≤ m → lA P1 i ≤ 15360 := fun i hi => Nat.le_trans (lA_mono P1 hi) hA
  have hHA : Hid _ := HA
  clear HA hA hsh
  go_loopw [15] (fun v wr => ∃ i : Nat, v = .int .i64 (i : Int) ∧ i ≤ m ∧ Jl w2 P1 kl3 j d (syd y i) i wr)
    (fun v _ => m - (RowKit.intOf v).toNat)
  case atStart => exact ⟨0, rfl, Nat.zero_le _, by rw [show syd y 0 = 0 by unfold syd; split <;> omega]; exact hJ5⟩
  case round =>
    obtain ⟨i, rfl, him, hJi⟩ := hrel
    by_cases hlt : i < m
    · have hbi : Below w2.heap.size w2 wr := by obtain ⟨D, _, q, _⟩ := hJi; exact q.b
      have hLi := HL.out.below (below_on _ _ hb2 hbi)
      have hpl := hLi.p (by omega)
      have hat := hLi.at_ i hlt
      have hok := hLi.ok i hlt
      have h5i := H5.out i hlt
      have hAi := hHA.out i him
      have hsy : syd y i ≤ 30 := by unfold syd; split <;> omega
      have HJ : Hid (Jl w2 P1 kl3 j d (syd y i) i wr) := hJi
      have HK : Hid _ := hok
      clear hJi hok hLi hbi
      subst hpl
      by_cases he : i + 1 = y
      · have heI : (i : Int) + 1 = (y : Int) := by omega
        have e0 : syd y i = 0 := by unfold syd; rw [if_neg (by omega)]
        rw [e0] at HJ
        have hsy0 : (0 : Nat) ≤ 30 := by omega
        go_wp2_with (first
          | (go_at_call 44; refine (Jl.app HJ.out kl3_sz kl3_ok ⟨HK.out.1, HK.out.2.2⟩ HK.out.2.1 h5i (by omega) hAi hsy0).mono ?_; rintro e w6 ⟨rfl, hJ6⟩)
          | (go_at_call 45; refine (Jl.syn hJ6 kl3_sz (by omega) (by omega)).mono ?_; rintro e w7 ⟨rfl, hJ7⟩)
          | go_in)
        go_roundw
        case rel => exact ⟨i + 1, by rw [← heI]; simp, by omega, by rw [show syd y (i + 1) = i + 1 by unfold syd; rw [if_pos (by omega)]; omega]; exact hJ7⟩
        case measure => simp [RowKit.intOf]; omega
      · have heI : ¬(i : Int) + 1 = (y : Int) := by omega
        go_wp2_with (first
          | (go_at_call 44; refine (Jl.app HJ.out kl3_sz kl3_ok ⟨HK.out.1, HK.out.2.2⟩ HK.out.2.1 h5i (by omega) hAi hsy).mono ?_; rintro e w6 ⟨rfl, hJ6⟩)
          | go_in)
        go_roundw
        case rel => exact ⟨i + 1, by simp, by omega, by rw [show syd y (i + 1) = syd y i by unfold syd; split <;> split <;> omega]; exact hJ6⟩
        case measure => simp [RowKit.intOf]; omega
    · obtain rfl : i = m := by omega
      have ey : syd y i = y := by unfold syd; rw [if_pos hym]
      rw [ey] at hJi
      have HJ : Hid (Jl w2 P1 kl3 j d y i wr) := hJi
      clear hJi
      have HKs : Hid _ := kps_new wr x hx
      have hy30 : y ≤ 30 := by omega
      go_wp2_with (first
        | (go_at_call 24; refine (Jl.crash (Jl.step HJ.out ((Below.refl _ wr).alloc (Nat.le_refl _) _)) (by omega) HKs.out).mono ?_; rintro e w6 ⟨rfl, D6, hC⟩)
        | (go_at_call 48; refine (Cd.open hC kl3_sz kl3_ok hm30 hy30 H5.out).mono ?_; rintro e w7 ⟨M, j2, v7, R, B, rfl, hyM, hMi, hO, hLq, hRR⟩; obtain ⟨pl2, c2, g2, rfl, hv7⟩ := Lq.lv hLq; have HO : Hid (Jo w2 P1 kl3 M j2 w7) := hO; have hcel : ∃ dd, Mm w7 [(j2, jc dd kl3 M (lA P1 M))] ∧ Below w2.heap.size w2 w7 := (by obtain ⟨D7, q, _⟩ := hO; exact ⟨_, q.cel, q.b⟩); obtain ⟨dd, hcel, hb7⟩ := hcel; have HV : Hid _ := hv7; have HR : Hid _ := hRR; clear hO hLq hRR hv7 hC)
        | (go_at_call 46; refine (jlen j2 dd M (lA P1 M) kl3 w7 hcel).mono ?_; rintro e w8 ⟨rfl, hb8⟩; have hb28 := below_on _ _ hb7 hb8; have hO8 : Hid (Jo w2 P1 kl3 M j2 w8) := Jo.step HO.out hb8)
        | (go_at_call 39; refine (same_lists M (by omega) pl2 c2 g2 0 R pl1 c1 g1 o1 P1 w8 (HV.out.below hb8) ((HL.out.below (below_on _ _ hb2 hb28)).tk hMi) HR.out).mono ?_; rintro e w9 ⟨rfl, hb9⟩)
        | (go_at_call 44; refine (Jo.app (Jo.step hO8.out (below_on _ _ hb9 ((Below.refl _ w9).alloc (Nat.le_refl _) _))) kl3_sz kl3_ok (rowp w9.heap.size 1 (fun _ => 9)) ⟨rowp_ok _ _ _, row_nine w9⟩ (rowp_no _ _ _) (show 1 ≤ 500 by omega) (by omega) (hHA.out M hMi)).mono ?_; rintro e w10 ⟨rfl, D10, z10, hJ10⟩; have hcel2 := hJ10.cel; have hb10 := hJ10.b)
        | (go_at_call 46; refine (jlen j2 D10.d (M + 1) z10 kl3 w10 hcel2).mono ?_; rintro e w11 ⟨rfl, hb11⟩)
        | go_in)
      go_ret
      exact ⟨rfl, below_on _ _ hb2 (below_on _ _ hb10 hb11)⟩
set_option maxHeartbeats 2000000 in
theorem jcrash_long (m : Nat) (pl1 : Option Addr) (c1 g1 o1 : Nat) (P1 : Nat → Pt8) (hm : m ≤ 9223372036854775807) (hsh : shb P1 m = false) (a b c : Int) (w : World) (hl : Lv pl1 g1 o1 m P1 w) :
    Calls Try.prog 12 #[.slice pl1 m c1, .int .i64 a, .int .i64 b, .int .i64 c] w fun e w' => e = .returned (.bool true) ∧ Below w.heap.size w w' := by
  have HL : Hid _ := hl
  clear hl
  go_enter Try.func12, Try.ntmps12
  go_wp2_with (first
    | (go_at_call 10; refine (known_any w).mono ?_; rintro e w1 ⟨rfl, hb1⟩)
    | (go_at_call 50; refine (short_is m hm pl1 c1 g1 o1 P1 false hsh w1 (HL.out.below hb1)).mono ?_; rintro e w2 ⟨rfl, hb2⟩)
    | go_in)
  go_ret
  exact ⟨rfl, below_on _ _ hb1 hb2⟩
end Wi
end Rg
end Go.Proofs.Ytidicdlfjdlpnaa
end
section
namespace Go.Proofs.Ytidicdlfjdlpnaa
open Go.RowKit
namespace Rg
namespace Wi
theorem wf_any {a : Int} (h : -9223372036854775808 ≤ a ∧ a ≤ 9223372036854775807) : (Lit.int .i64 a).wf = true := by
  unfold Lit.wf
  simp [IntKind.min, IntKind.max, IntKind.bits, IntKind.signed]
  omega
theorem crash_any (m : Nat) (pl1 : Option Addr) (c1 g1 o1 : Nat) (P1 : Nat → Pt8) (hm : m ≤ 9223372036854775807) (_ : ∀ i, i < m → ∀ j, j < (P1 i).n → (P1 i).f j < 256) (hc1 : m ≤ c1) (a : Int) (_ : -9223372036854775808 ≤ a ∧ a ≤ 9223372036854775807) (b : Int) (hb : -9223372036854775808 ≤ b ∧ b ≤ 9223372036854775807) (c : Int) (hc : -9223372036854775808 ≤ c ∧ c ≤ 9223372036854775807) (w : World) (hl : Lv pl1 g1 o1 m P1 w) : Calls Try.prog 12 #[.slice pl1 m c1, .int .i64 a, .int .i64 b, .int .i64 c] w fun e w' => e = .returned (.bool true) ∧ Below w.heap.size w w' := by
  cases hs : shb P1 m with
  | false => exact jcrash_long m pl1 c1 g1 o1 P1 hm hs a b c w hl
  | true =>
    obtain ⟨k1, k2⟩ := of_decide_eq_true hs
    exact jcrash_main m pl1 c1 g1 o1 P1 k2 hs (Nat.le_trans (lA_le k1) (by omega)) k1 a ⟨(kl3, b, c), (show kl3.size ≤ maxLen by decide), wf_any hb, wf_any hc⟩ rfl hc1 w hl
end Wi
end Rg
end Go.Proofs.Ytidicdlfjdlpnaa
end
section
namespace Go.Proofs.Ytidicdlfjdlpnaa
open Go.ChangeMaps Go.ChangeShapes Go.WideShapes Go.ChangeAt Go.RowKit
open Rg.Wi
theorem Try.own : ownKnob Try.prog.godebug = none := by kernel_rfl
theorem Try.laidOut : laidOutB Try.prog = true := by kernel_rfl
theorem Try.cells5 : Try.prog.cellsOf 5 = 1 := by kernel_rfl
theorem Try.cells34 : Try.prog.cellsOf 34 = 1 := by kernel_rfl
section
variable {H : Type} {enc : TypeId × Value → H} {w : World} {base : Nat} {sp : Nat → Bool} {held : Bool}
set_option maxRecDepth 100000 in
theorem open_pt {fuel : Nat} {cs : List Value} {y : DataW H × List MemPlace} (hf : DataW.trod enc Try.prog w base sp held fuel 34 cs = some y) :
    ∃ q : Pt8, cs = [.slice q.p q.n q.cp] ∧ Pok q ∧ (q.p = none → q.cp = 0) ∧ q.rs w ∧ (∀ j, j < q.n → q.f j < 256) ∧ q.cp ≤ maxLen ∧ ∀ x ∈ y.2, x.block < w.heap.size := by
  rcases open_ints Try.underlying34 Try.underlying5 Try.cells5 hf with ⟨hcs, hx⟩ | ⟨a, len, cap, zs, hcs, _, hl, hm, hz, hx, hcell, hwz⟩
  · subst hcs hx
    exact ⟨⟨0, 0, 0, 0, none, fun _ => 0⟩, rfl, ⟨Bv.void _ _ _ _ _, Nat.le_refl _⟩, fun _ => rfl, Rs.void _ _ _ _, fun j hj => absurd hj (Nat.not_lt_zero _), Nat.zero_le _, by simp⟩
  · subst hcs hx
    have hlz : len ≤ zs.length := by rw [hz]; split <;> omega
    have hps : ∀ x ∈ MemPlace.row a zs.length, x.block < w.heap.size := fun x hx => by
      obtain ⟨i, hi, rfl⟩ := MemPlace.mem_row.1 hx
      have := World.block_lt_of_cell? w _ (hcell i hi)
      obtain ⟨b, off, rfl, _⟩ := ints_at hcell (by omega)
      exact World.block_lt_of_cell? w _ (hcell 0 (by omega))
    have hb : ∀ i, i < zs.length → 0 ≤ zs.getD i 0 ∧ zs.getD i 0 < 256 := fun i hi => by
      rw [List.getD_eq_getElem?_getD, List.getElem?_eq_getElem hi]
      have := bounds_u8 (hwz _ (List.getElem_mem hi))
      exact ⟨this.1, by show zs[i] < 256; omega⟩
    by_cases h0 : len = 0
    · subst h0
      exact ⟨⟨0, 0, 0, cap, some a, fun _ => 0⟩, rfl, ⟨Bv.void _ _ _ _ _, hl⟩, (fun e => by cases e), Rs.void _ _ _ _, fun j hj => absurd hj (Nat.not_lt_zero _), hm, hps⟩
    · obtain ⟨b, off, rfl, hc⟩ := ints_at hcell (by omega)
      refine ⟨⟨b, off, len, cap, some ⟨b, off, none⟩, fun i => (zs.getD i 0).toNat⟩, rfl, ⟨Bv.start _ _ _ _, hl⟩, (fun e => by cases e), ⟨fun _ => World.block_lt_of_cell? w _ (hc 0 (by omega)), fun i hi => ?_⟩, fun j hj => ?_, hm, hps⟩
      · have h1 : i < len := hi
        rw [hc i (by omega)]
        have := hb i (by omega)
        show some (Value.int .u8 (zs.getD i 0)) = some (Value.int .u8 (((zs.getD i 0).toNat : Nat) : Int))
        rw [show ((((zs.getD i 0).toNat : Nat)) : Int) = zs.getD i 0 from Int.toNat_of_nonneg this.1]
      · have h1 : j < len := hj
        have := hb j (by omega)
        show (zs.getD j 0).toNat < 256
        omega
variable {r : Reach} {b0 : Nat} {v : Value} {d : DataW H} {ps : List MemPlace}
set_option maxRecDepth 100000 in
theorem open_listQ (hval : Value.okWide Try.prog w r b0 61 v) (hd : DataW.Trod enc Try.prog w base sp held 61 v d ps) :
    ∃ pl c g o m P, v = .slice pl m c ∧ Lv pl g o m P w ∧ m ≤ 9223372036854775807 ∧ (∀ i, i < m → ∀ j, j < (P i).n → (P i).f j < 256) ∧ ∀ x ∈ ps, x.block < w.heap.size := by
  obtain ⟨a0, len0, cap0, rfl⟩ := okWide_slice Try.underlying61 hval
  obtain ⟨fuel, hf⟩ := hd
  rcases DataW.trod_slice Try.underlying61 hf with ⟨hcs, hx⟩ | ⟨a, len, cap, elems, rest, n, _, hcs, hx, hb, hl, hm, hlen, hel, hsp, hns⟩
  · simp [Value.cells] at hcs
    obtain ⟨rfl, rfl, rfl⟩ := hcs
    simp only [Prod.mk.injEq] at hx
    obtain ⟨_, rfl⟩ := hx
    exact ⟨none, 0, 0, 0, 0, fun _ => nilp (fun _ => 0), rfl, ⟨fun h => absurd h (by decide), fun h => absurd h (by decide), fun i hi => absurd hi (Nat.not_lt_zero _), fun i hi => absurd hi (Nat.not_lt_zero _)⟩, by decide, fun i hi => absurd hi (Nat.not_lt_zero _), by simp⟩
  · simp [Value.cells] at hcs
    obtain ⟨rfl, rfl, rfl⟩ := hcs
    simp only [Prod.mk.injEq] at hx
    obtain ⟨rfl, rfl⟩ := hx
    rw [Try.cells34] at hel hsp
    simp only [Nat.mul_one] at hel hsp
    have part : ∀ i, ∃ q : Pt8, i < len0 → w.cell? (a.add i) = some (.slice q.p q.n q.cp) ∧ Pok q ∧ (q.p = none → q.cp = 0) ∧ q.rs w ∧ ∀ j, j < q.n → q.f j < 256 := fun i => by
      by_cases hi : i < len0
      · have h1 := hel i hi
        have hi2 : i < elems.length := by omega
        rw [List.getElem?_eq_getElem hi2, Option.bind_eq_some_iff] at h1
        obtain ⟨cs', hc', hy⟩ := h1
        obtain ⟨q, rfl, h2, h3, h4, h5, _⟩ := open_pt hy
        exact ⟨q, fun _ => ⟨cell_of_cells?_one hc', h2, h3, h4, h5⟩⟩
      · exact ⟨nilp (fun _ => 0), fun h => absurd h hi⟩
    obtain ⟨X, hX⟩ := Classical.axiomOfChoice part
    have hall : ∀ i, i < elems.length + rest.length → ∃ c, w.cell? (a.add i) = some c := fun i hi => by
      by_cases h : i < len0
      · exact ⟨_, (hX i h).1⟩
      · cases hs : sp a.block with
        | false => rw [hns hs] at hi; simp at hi; omega
        | true =>
          obtain ⟨hrl, hr⟩ := hsp hs
          have h1 := hr (i - len0) (by omega)
          rw [List.getElem?_eq_getElem (by omega : i - len0 < rest.length), Option.bind_eq_some_iff, show len0 + (i - len0) = i by omega] at h1
          obtain ⟨cs', hc', hy⟩ := h1
          obtain ⟨q, rfl, _⟩ := open_pt hy
          exact ⟨_, cell_of_cells?_one hc'⟩
    have hrest : ∀ y ∈ elems ++ rest, ∀ x ∈ y.2, x.block < w.heap.size := fun y hy => by
      rcases List.mem_append.1 hy with h | h
      · obtain ⟨i, hi, rfl⟩ := List.getElem_of_mem h
        have h1 := hel i (by omega)
        rw [List.getElem?_eq_getElem hi, Option.bind_eq_some_iff] at h1
        obtain ⟨cs', _, hy'⟩ := h1
        obtain ⟨q, _, _, _, _, _, _, h6⟩ := open_pt hy'
        exact h6
      · cases hs : sp a.block with
        | false => rw [hns hs] at h; cases h
        | true =>
          obtain ⟨hrl, hr⟩ := hsp hs
          obtain ⟨i, hi, rfl⟩ := List.getElem_of_mem h
          have h1 := hr i (by omega)
          rw [List.getElem?_eq_getElem hi, Option.bind_eq_some_iff] at h1
          obtain ⟨cs', _, hy'⟩ := h1
          obtain ⟨q, _, _, _, _, _, _, h6⟩ := open_pt hy'
          exact h6
    have hps : ∀ x ∈ MemPlace.row a ((elems.length + rest.length) * Try.prog.cellsOf 34) ++ (elems ++ rest).flatMap (·.2), x.block < w.heap.size := fun x hx => by
      rcases List.mem_append.1 hx with h | h
      · rw [Try.cells34, Nat.mul_one] at h
        obtain ⟨i, hi, rfl⟩ := MemPlace.mem_row.1 h
        obtain ⟨c, hc⟩ := hall i hi
        have := World.block_lt_of_cell? w _ hc
        rw [add_block] at this
        exact this
      · obtain ⟨y, hy, hxy⟩ := List.mem_flatMap.1 h
        exact hrest y hy x hxy
    have hml : len0 ≤ 9223372036854775807 := by unfold maxLen at hm; omega
    by_cases h0 : len0 = 0
    · subst h0
      exact ⟨some a, cap0, 0, 0, 0, X, rfl, ⟨fun h => absurd h (by decide), fun h => absurd h (by decide), fun i hi => absurd hi (Nat.not_lt_zero _), fun i hi => absurd hi (Nat.not_lt_zero _)⟩, by decide, fun i hi => absurd hi (Nat.not_lt_zero _), hps⟩
    · obtain ⟨b, off, spot⟩ := a
      have hspot : spot = none := by simpa [Addr.add] using World.cell?_spot (hX 0 (by omega)).1
      subst hspot
      have hcl : ∀ i, i < len0 → w.cell? ⟨b, off + i, none⟩ = some (.slice (X i).p (X i).n (X i).cp) := fun i hi => by
        have h1 := (hX i hi).1
        rw [Go.WideShapes.add_plain] at h1
        exact h1
      exact ⟨some ⟨b, off, none⟩, cap0, b, off, len0, X, rfl, ⟨fun _ => rfl, fun _ => World.block_lt_of_cell? w _ (hcl 0 (by omega)), hcl, fun i hi => ⟨(hX i hi).2.1, (hX i hi).2.2.1, (hX i hi).2.2.2.1⟩⟩, hml, fun i hi => (hX i hi).2.2.2.2, hps⟩
end
end Go.Proofs.Ytidicdlfjdlpnaa
end
section
namespace Go.Proofs.Ytidicdlfjdlpnaa
open Go.ChangeMaps Go.ChangeShapes Go.WideShapes Go.ChangeAt Go.RowKit
open Rg.Wi
set_option maxRecDepth 100000 in
theorem open_cap {H : Type} {enc : TypeId × Value → H} {w : World} {base : Nat} {sp : Nat → Bool} {held : Bool} {d : DataW H} {ps : List MemPlace} {pl : Option Addr} {m c : Nat} (hd : DataW.Trod enc Try.prog w base sp held 61 (.slice pl m c) d ps) : m ≤ c := by
  obtain ⟨fuel, hf⟩ := hd
  rcases DataW.trod_slice Try.underlying61 hf with ⟨hcs, hx⟩ | ⟨a, len, cap, elems, rest, n, _, hcs, hx, hb, hl, _⟩
  · simp [Value.cells] at hcs
    omega
  · simp [Value.cells] at hcs
    omega
end Go.Proofs.Ytidicdlfjdlpnaa
end
