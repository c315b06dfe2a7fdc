/- Texts of the proof, joined. -/
import Derived.Test.YtidicdlfjdlpnaaP3
import Derived.RangeFuncNested
import Derived.RangeFuncBound
import Derived.RangeFuncCalls
import Derived.RangeFuncLeaves
import Derived.RangeFuncBox
import Derived.Shelf.Abstract
import Derived.Shelf.RegionOpen
import Derived.WalkKit
import Derived.OwnWalkIn
import Derived.TacticsInMore
import Derived.LoopNIn
import Derived.LoopIn
import Derived.Maps.OwnIn
import Derived.Lib.SlMapFilter
import Derived.Maps.Ext
import Derived.Maps.RangeWalk
import Derived.Laws.IdiomRangeMap
import Derived.Deep.LoopGhost
section
namespace Go.Proofs.Ytidicdlfjdlpnaa
open Go.RowKit
namespace Rg
namespace Wi
set_option maxRecDepth 100000
set_option maxHeartbeats 4000000 in
set_option maxRecDepth 100000 in
theorem settle_part_old (g : Nat) (S : Value) (n : Nat) (P : Nat → Nat) (a bt : Int) (cu : Nat) (gu m : Nat) (F : Nat → Uop) (hmm : m ≤ 1000000) (hmc : m ≤ cu) (hdm : min a.toNat m < m) (w : World) (hm : Mm w [(g, [S, Value.slice (some ⟨gu, 0, none⟩) m cu, Value.bool false])]) (hg0 : g < w.heap.size) (hgS0 : g ∉ vbl S) (row0 : w.ownsRow 0 5 1 S n (ints .u8 P n)) (hgu0 : gu < w.heap.size) (hgn0 : gu ∉ g :: vbl S) (hcl0 : ∀ i, i < m → w.cell? ⟨gu, 2 * i, none⟩ = some (.int .i64 ((F i).st : Int)) ∧ w.cell? ⟨gu, 2 * i + 1, none⟩ = some (.slice (F i).q.p (F i).q.n (F i).q.cp)) (hv0 : ∀ i, i < m → (F i).st ≤ rN n F i ∧ (F i).st + (F i).q.n ≤ 2097152) (hok0 : ∀ i, i < m → ∀ s' n' P' w', Sg w g S s' n' P' w' → (F i).ok w') (hbt0 : rN n F (min a.toNat m) + (min bt.toNat (F (min a.toNat m)).q.n) ≤ 2097152) (htc0 : (min bt.toNat (F (min a.toNat m)).q.n) ≤ (F (min a.toNat m)).q.cp) :
    Calls Try.prog 73 #[PT g 0, .int .i64 a, .int .i64 bt] w fun e w' => e = .returned (.bool (true)) ∧ ∃ s', Mm w' [(g, [s', Value.slice none 0 0, Value.bool false])] ∧ Sg w g S s' (rN n F (min a.toNat m) + (min bt.toNat (F (min a.toNat m)).q.n)) (ct (rP P F (min a.toNat m)) (rN n F (min a.toNat m)) (F (min a.toNat m)).q.f) w' := by
  have H0 : Hid (_ ∧ _) := ⟨hm, Sg.start (g := g) row0⟩
  clear hm
  have hg : Hid _ := hg0
  have hgS : Hid _ := hgS0
  clear hg0 hgS0
  have hgu : Hid _ := hgu0
  have hgn : Hid _ := hgn0
  have hcl : Hid _ := hcl0
  have hv : Hid _ := hv0
  have hok : Hid _ := hok0
  clear hgu0 hgn0 hcl0 hv0 hok0
  have hbt : Hid _ := hbt0
  have htc : Hid _ := htc0
  clear hbt0 htc0
  go_enter Try.func73, Try.ntmps73
  refine wp_seq ?_
  refine sq_startW (l := [0]) rfl (fun u0 hu0 => ?_)
  have H1 : Hid (Mm u0 [(g, [S, Value.slice (some ⟨gu, 0, none⟩) m cu, Value.bool false])] ∧ Sg w g S S n P u0) := by rw [hu0]; exact H0
  clear hu0 H0
  refine rest_set (d := 6) (v := .bool false) (w' := u0) rfl rfl rfl (rfl) ?_
  simp only [Act.put, sa, sz, ss]
  refine rest_nil (then_normal (wp_seq ?_))
  refine sq_start (l := [0, 1, 2, 3, 4, 5, 6, 7]) rfl ?_
  refine rest_set (d := 13) (v := .int .i64 a) (w' := u0) rfl rfl rfl (rfl) ?_
  simp only [Act.put, sa, sz, ss]
  refine rest_set (d := 14) (v := PT g 0) (w' := u0) rfl rfl rfl (rfl) ?_
  simp only [Act.put, sa, sz, ss]
  refine rest_set (d := 15) (v := PT g 0) (w' := u0) rfl rfl rfl (by go_simp) ?_
  simp only [Act.put, sa, sz, ss]
  refine rest_set (d := 16) (v := PT g 1) (w' := u0) rfl rfl rfl (by go_simp) ?_
  simp only [Act.put, sa, sz, ss]
  refine rest_set (d := 17) (v := .slice (some ⟨gu, 0, none⟩) m cu) (w' := u0) rfl rfl rfl (ex_loadC H1.out.1 0 rfl rfl rfl Try.isAgg115 rfl) ?_
  simp only [Act.put, sa, sz, ss]
  refine rest_set (d := 18) (v := .int .i64 ((m : Nat) : Int)) (w' := u0) rfl rfl rfl (by go_simp) ?_
  simp only [Act.put, sa, sz, ss]
  refine rest_enter (d := 19) (R := fun vv w' => vv = .int .i64 ((min a.toNat m : Nat) : Int) ∧ Below u0.heap.size u0 w') rfl rfl rfl (exec_call (args := #[.int .i64 a, .int .i64 ((m : Nat) : Int)]) rfl call104 rfl (mpn rfl)) (Calls.mono (within_any a m u0) (fun e w2 hh => ⟨_, hh.1, rfl, hh.2⟩)) ?_
  rintro _ w2 ⟨rfl, hb⟩
  have H2 : Hid (Mm w2 [(g, [S, Value.slice (some ⟨gu, 0, none⟩) m cu, Value.bool false])] ∧ Sg w g S S n P w2) := ⟨H1.out.1.below hb, Sg.below H1.out.2 (hb)⟩
  clear hb
  clear H1
  simp only [Act.put, sa, sz, ss]
  refine rest_set (d := 7) (v := .int .i64 ((min a.toNat m : Nat) : Int)) (w' := w2) rfl rfl rfl (rfl) ?_
  simp only [Act.put, sa, sz, ss]
  refine rest_nil (then_normal ?_)
  refine wp_seq (wp_seq ?_)
  refine sq_start (l := [0, 1, 2, 3, 4, 5, 6, 7]) rfl ?_
  refine rest_set (d := 20) (v := PT g 0) (w' := w2) rfl rfl rfl (rfl) ?_
  simp only [Act.put, sa, sz, ss]
  refine rest_set (d := 21) (v := PT g 0) (w' := w2) rfl rfl rfl (by go_simp) ?_
  simp only [Act.put, sa, sz, ss]
  refine rest_set (d := 22) (v := PT g 1) (w' := w2) rfl rfl rfl (by go_simp) ?_
  simp only [Act.put, sa, sz, ss]
  refine rest_set (d := 23) (v := .slice (some ⟨gu, 0, none⟩) m cu) (w' := w2) rfl rfl rfl (ex_loadC H2.out.1 0 rfl rfl rfl Try.isAgg115 rfl) ?_
  simp only [Act.put, sa, sz, ss]
  refine rest_set (d := 24) (v := .int .i64 ((min a.toNat m : Nat) : Int)) (w' := w2) rfl rfl rfl (rfl) ?_
  simp only [Act.put, sa, sz, ss]
  refine rest_set (d := 25) (v := .slice (some ⟨gu, 0, none⟩) (min a.toNat m) cu) (w' := w2) rfl rfl rfl (ex_takeO (by omega) rfl rfl rfl) ?_
  simp only [Act.put, sa, sz, ss]
  refine rest_set (d := 26) (v := .int .i64 (((min a.toNat m) : Nat) : Int)) (w' := w2) rfl rfl rfl (by go_simp) ?_
  simp only [Act.put, sa, sz, ss]
  refine rest_set (d := 27) (v := .int .i64 0) (w' := w2) rfl rfl rfl (rfl) ?_
  simp only [Act.put, sa, sz, ss]
  refine rest_nil (then_normal (wp_block ?_))
  refine loop_ghost (α := Nat × Value) (fun x a' w' => ∃ s0 : Nat → Value, a' = ⟨#[PT g 0, .int .i64 a, .int .i64 bt, undef, undef, undef, .bool false, .int .i64 ((min a.toNat m : Nat) : Int), undef, s0 9, undef, undef, undef, .int .i64 a, PT g 0, PT g 0, PT g 1, .slice (some ⟨gu, 0, none⟩) m cu, .int .i64 ((m : Nat) : Int), .int .i64 ((min a.toNat m : Nat) : Int), PT g 0, PT g 0, PT g 1, .slice (some ⟨gu, 0, none⟩) m cu, .int .i64 ((min a.toNat m : Nat) : Int), .slice (some ⟨gu, 0, none⟩) (min a.toNat m) cu, .int .i64 (((min a.toNat m) : Nat) : Int), .int .i64 ((x.1 : Nat) : Int), s0 28, s0 29, s0 30, s0 31, s0 32, s0 33, s0 34, s0 35, s0 36, s0 37, s0 38, s0 39, s0 40, undef, undef, undef, undef, undef, undef, undef, undef, undef, undef, undef, undef, undef, undef, undef, undef, undef, undef, undef, undef, undef, undef, undef, undef, undef, undef, undef, undef, undef, undef, undef, undef, undef, undef, undef, undef, undef, undef, undef, undef, undef, undef, undef, undef, undef, undef, undef, undef], []⟩ ∧ (Mm w' [(g, [x.2, Value.slice (some ⟨gu, 0, none⟩) m cu, Value.bool false])] ∧ Sg w g S x.2 (rN n F x.1) (rP P F x.1) w') ∧ x.1 ≤ (min a.toNat m)) (fun x => (min a.toNat m) - x.1) (0, S) ?st0 ?rd0
  case st0 => exact ⟨(slotfn [undef, undef, undef, undef, undef, undef, undef, undef, undef, undef, undef, undef, undef, undef, undef, undef, undef, undef, undef, undef, undef, undef, undef, undef, undef, undef, undef, undef, undef, undef, undef, undef, undef, undef, undef, undef, undef, undef, undef, undef, undef]), rfl, ⟨H2.out.1, H2.out.2⟩, Nat.zero_le _⟩
  intro x a' w3 hI
  obtain ⟨s0, rfl, hMB, hk0⟩ := hI
  have H3 : Hid (_ ∧ _) := hMB
  clear hMB H2
  by_cases hltx : x.1 < (min a.toNat m)
  · have hrd : True := trivial
    clear hrd
    have hxm : x.1 < m := by omega
    refine wp_seq ?_
    refine sq_start (l := [0]) rfl ?_
    refine rest_set (d := 28) (v := .bool true) (w' := w3) rfl rfl rfl (by go_simp <;> omega) ?_
    simp only [Act.put, sa, sz, ss]
    refine rest_nil (then_normal ?_)
    refine wp_seq (wp_cond_true rfl ?_)
    refine wp_skip (then_normal ?_)
    refine wp_seq (wp_block (wp_seq ?_))
    refine sq_start (l := [0, 1, 2, 3]) rfl ?_
    refine rest_set (d := 29) (v := PT gu (2 * x.1)) (w' := w3) rfl rfl rfl (ex_ixO rfl rfl rfl (by omega)) ?_
    simp only [Act.put, sa, sz, ss]
    refine rest_set (d := 30) (v := .agg ([Value.int .i64 (((F x.1).st : Nat) : Int), Value.slice (F x.1).q.p (F x.1).q.n (F x.1).q.cp]).toArray) (w' := w3) rfl rfl rfl (ex_ldO (H3.out.2.cell hgu.out hgn.out (hcl.out x.1 hxm).1) (H3.out.2.cell hgu.out hgn.out (hcl.out x.1 hxm).2) rfl rfl) ?_
    simp only [Act.put, sa, sz, ss]
    have nbz : Hid (w3.heap.size ∉ vbl x.2) := fun hm => Nat.lt_irrefl _ (own_lt H3.out.2.row _ hm)
    refine rest_set (d := 9) (v := PT w3.heap.size 0) (w' := (w3.alloc (.cells ([Value.int .i64 0, Value.slice none 0 0] : List Value).toArray 120))) rfl rfl rfl (ex_mk120 rfl) ?_
    simp only [Act.put, sa, sz, ss]
    have o_γs4 : Hid (w.heap.size ≤ w3.heap.size) := H3.out.2.size
    have H4 : Hid (Mm (w3.alloc (.cells ([Value.int .i64 0, Value.slice none 0 0] : List Value).toArray 120)) ((w3.heap.size, [Value.int .i64 0, Value.slice none 0 0]) :: [(g, [x.2, Value.slice (some ⟨gu, 0, none⟩) m cu, Value.bool false])]) ∧ Sg w g S x.2 (rN n F x.1) (rP P F x.1) (w3.alloc (.cells ([Value.int .i64 0, Value.slice none 0 0] : List Value).toArray 120))) := ⟨H3.out.1.alloc _ 120 rfl, Sg.below H3.out.2 (((Below.refl _ _).alloc (Nat.le_refl _) _))⟩
    clear H3
    generalize hgw : w3.alloc (.cells ([Value.int .i64 0, Value.slice none 0 0] : List Value).toArray 120) = w4 at H4 ⊢
    clear hgw
    generalize w3.heap.size = γs4 at nbz o_γs4 H4 ⊢
    have nb_γs4 : Hid _ := nbz.out
    clear nbz
    refine rest_store rfl rfl rfl (ex_storeT (vs := [Value.int .i64 (((F x.1).st : Nat) : Int), Value.slice (F x.1).q.p (F x.1).q.n (F x.1).q.cp]) H4.out.1 0 rfl rfl rfl rfl Try.sizeOf120 rfl (Nat.le_of_ble_eq_true rfl)) ?_
    have H5 : Hid (Mm (w4.setCells γs4 0 [Value.int .i64 (((F x.1).st : Nat) : Int), Value.slice (F x.1).q.p (F x.1).q.n (F x.1).q.cp]) [(γs4, [Value.int .i64 (((F x.1).st : Nat) : Int), Value.slice (F x.1).q.p (F x.1).q.n (F x.1).q.cp]), (g, [x.2, Value.slice (some ⟨gu, 0, none⟩) m cu, Value.bool false])] ∧ Sg w g S x.2 (rN n F x.1) (rP P F x.1) (w4.setCells γs4 0 [Value.int .i64 (((F x.1).st : Nat) : Int), Value.slice (F x.1).q.p (F x.1).q.n (F x.1).q.cp])) := ⟨H4.out.1.put 0 (off := 0) (vs := [Value.int .i64 (((F x.1).st : Nat) : Int), Value.slice (F x.1).q.p (F x.1).q.n (F x.1).q.cp]) rfl (Nat.le_of_ble_eq_true rfl), H4.out.2.putNew o_γs4.out nb_γs4.out _ _⟩
    clear H4
    generalize hgw : World.setCells _ _ _ _ = w5 at H5 ⊢
    clear hgw
    refine rest_nil (then_normal ?_)
    refine walk_enterV (by kernel_rfl) 6 [0] [.quiet (PT g 0), .quiet (.agg ([Value.int .i64 (((F x.1).st : Nat) : Int), Value.slice (F x.1).q.p (F x.1).q.n (F x.1).q.cp]).toArray), .quiet (PT g 0), .quiet (PT g 0), .quiet (PT g 0), .quiet (x.2)] (fun w' => Mm w' [(γs4, [Value.int .i64 (((F x.1).st : Nat) : Int), Value.slice (F x.1).q.p (F x.1).q.n (F x.1).q.cp]), (g, [x.2, Value.slice (some ⟨gu, 0, none⟩) m cu, Value.bool false])]) ?pre6 ?F6 ?G6 _ 37 ?hpre6 (fun γ => ?hF6) (fun v γ => ?hG6) (by kernel_rfl) rfl ?hL6 ?hS6 ?ho6 (fun v => ?hla6) ?he6
    case hpre6 => simp only [tk, tz]; rfl
    case hF6 => simp only [fill, Kind.val, Act.put, sa, sz, ss]; rfl
    case hG6 => simp only [fill, Kind.val, Act.put, sa, sz, ss]; rfl
    case hL6 => exact trivial
    case hS6 => exact fun w' hb => H5.out.1.below hb
    case ho6 =>
      refine ak (fun _ => ⟨rfl, fun _ _ => rfl⟩) ?_
      refine ak (fun γ => ⟨rfl, fun w' h => ex_loadT h 0 rfl rfl rfl Try.isAgg120 Try.sizeOf120 rfl rfl⟩) ?_
      refine ak (fun _ => ⟨rfl, fun _ _ => rfl⟩) ?_
      refine ak (by refine fun γ => ⟨rfl, fun w' h => ?_⟩; clear h; go_simp) ?_
      refine ak (by refine fun γ => ⟨rfl, fun w' h => ?_⟩; clear h; go_simp) ?_
      refine ak (fun γ => ⟨rfl, fun w' h => ex_loadC h 1 rfl rfl rfl Try.isAgg34 rfl⟩) ?_
      exact trivial
    case hla6 => exact ⟨⟨_, _, rfl, rfl, fun γ => ⟨rfl, fun w' => rfl⟩⟩, trivial⟩
    intro γ w6 l hM hl
    have M6 : Mm w6 [(γs4, [Value.int .i64 (((F x.1).st : Nat) : Int), Value.slice (F x.1).q.p (F x.1).q.n (F x.1).q.cp]), (g, [x.2, Value.slice (some ⟨gu, 0, none⟩) m cu, Value.bool false])] := H5.out.1.grow hM (Nat.le_refl _) hl [] rfl (by decide)
    have B6 : Sg w g S x.2 (rN n F x.1) (rP P F x.1) w6 := Sg.below H5.out.2 (hM.below)
    clear hM hl l H5
    clear γ
    have H6 : Hid (_ ∧ _) := ⟨M6, B6⟩
    clear M6 B6
    refine ⟨102, #[.agg ([.int .i64 (((F x.1).st : Nat) : Int), .slice (F x.1).q.p (F x.1).q.n (F x.1).q.cp] : List Value).toArray, x.2], fun vv w' => w'.ownsRow 0 5 1 vv ((F x.1).st + (F x.1).q.n) (ints .u8 (ct (rP P F x.1) (F x.1).st (F x.1).q.f) ((F x.1).st + (F x.1).q.n)) ∧ Chg (vbl x.2) w6 w' ∧ ∀ z ∈ vbl vv, z ∈ vbl x.2 ∨ w6.heap.size ≤ z, exec_call rfl call102 rfl (mpn rfl), upon_v (F x.1) x.2 _ 0 _ (hv.out x.1 hxm).1 (hv.out x.1 hxm).2 w6 (Nat.zero_le _) H6.out.2.row (hok.out x.1 hxm _ _ _ _ H6.out.2), ?_⟩
    rintro vr w7 ⟨hO, hC, hb5⟩
    have hM : Mm w7 [(g, [x.2, Value.slice (some ⟨gu, 0, none⟩) m cu, Value.bool false])] := hC.mm (H6.out.1.one 1 rfl) (fun p hp => by obtain rfl := List.mem_singleton.1 hp; exact H6.out.2.ng hgS.out hg.out)
    have hs1 : Hid _ := own_st hO
    have H7 : Hid (Mm w7 [(g, [x.2, Value.slice (some ⟨gu, 0, none⟩) m cu, Value.bool false])] ∧ Sg w g S vr (rN n F (x.1 + 1)) (rP P F (x.1 + 1)) w7) := ⟨hM, H6.out.2.on hC hO hb5⟩
    clear hO hC hb5 hM H6
    refine rest_at (l := [7, 8, 9]) rfl ?_
    refine rest_set (d := 38) (v := PT g 0) (w' := w7) rfl rfl rfl (by go_simp) ?_
    simp only [Act.put, sa, sz, ss]
    refine rest_set (d := 39) (v := PT g 0) (w' := w7) rfl rfl rfl (by go_simp) ?_
    simp only [Act.put, sa, sz, ss]
    refine rest_store rfl rfl rfl (ex_st1 (v := vr) H7.out.1 0 rfl rfl Try.sizeOf34 rfl rfl (hs1.out) (Nat.le_of_ble_eq_true rfl)) ?_
    have H8 : Hid (Mm (w7.setCells g 0 [vr]) [(g, [vr, Value.slice (some ⟨gu, 0, none⟩) m cu, Value.bool false])] ∧ Sg w g S vr (rN n F (x.1 + 1)) (rP P F (x.1 + 1)) (w7.setCells g 0 [vr])) := ⟨H7.out.1.put 0 (off := 0) (vs := [vr]) rfl (Nat.le_of_ble_eq_true rfl), H7.out.2.put hgS.out hg.out _ _⟩
    clear H7
    generalize hgw : World.setCells _ _ _ _ = w8 at H8 ⊢
    clear hgw
    refine rest_nil (block_normal (then_normal ?_))
    refine sq_start (l := [0, 1]) rfl ?_
    refine rest_set (d := 40) (v := .int .i64 ((x.1 + 1 : Nat) : Int)) (w' := w8) rfl rfl rfl (by go_simp; rw [IntKind.wrap_i64]; omega) ?_
    simp only [Act.put, sa, sz, ss]
    refine rest_set (d := 27) (v := .int .i64 ((x.1 + 1 : Nat) : Int)) (w' := w8) rfl rfl rfl (rfl) ?_
    simp only [Act.put, sa, sz, ss]
    refine rest_nil (then_normal ?_)
    exact ⟨(x.1 + 1, vr), ⟨(slotfn [undef, undef, undef, undef, undef, undef, undef, undef, undef, PT γs4 0, undef, undef, undef, undef, undef, undef, undef, undef, undef, undef, undef, undef, undef, undef, undef, undef, undef, undef, .bool true, PT gu (2 * x.1), .agg ([Value.int .i64 (((F x.1).st : Nat) : Int), Value.slice (F x.1).q.p (F x.1).q.n (F x.1).q.cp]).toArray, PT g 0, .agg ([Value.int .i64 (((F x.1).st : Nat) : Int), Value.slice (F x.1).q.p (F x.1).q.n (F x.1).q.cp]).toArray, PT g 0, PT g 0, PT g 0, x.2, vr, PT g 0, PT g 0, .int .i64 ((x.1 + 1 : Nat) : Int)]), rfl, ⟨H8.out.1, H8.out.2⟩, (show x.1 + 1 ≤ (min a.toNat m) by omega)⟩, (show (min a.toNat m) - (x.1 + 1) < (min a.toNat m) - x.1 by omega)⟩
  have hxN : x.1 = (min a.toNat m) := by omega
  refine wp_seq ?_
  refine sq_start (l := [0]) rfl ?_
  refine rest_set (d := 28) (v := .bool false) (w' := w3) rfl rfl rfl (by go_simp <;> omega) ?_
  simp only [Act.put, sa, sz, ss]
  refine rest_nil (then_normal ?_)
  refine wp_seq (wp_cond_false rfl ?_)
  refine wp_exit ?_
  repeat refine then_exit ?_
  refine block_exit ?_
  have H9 : Hid (Mm w3 [(g, [x.2, Value.slice (some ⟨gu, 0, none⟩) m cu, Value.bool false])] ∧ Sg w g S x.2 (rN n F (min a.toNat m)) (rP P F (min a.toNat m)) w3) := ⟨H3.out.1, by rw [← hxN]; exact H3.out.2⟩
  clear H3
  refine then_normal (wp_seq ?_)
  refine sq_start (l := [0]) rfl ?_
  refine rest_set (d := 10) (v := .int .i64 0) (w' := w3) rfl rfl rfl (rfl) ?_
  simp only [Act.put, sa, sz, ss]
  refine rest_nil (then_normal ?_)
  refine wp_seq (wp_seq ?_)
  refine sq_start (l := [0, 1, 2, 3, 4, 5, 6]) rfl ?_
  refine rest_set (d := 41) (v := PT g 0) (w' := w3) rfl rfl rfl (rfl) ?_
  simp only [Act.put, sa, sz, ss]
  refine rest_set (d := 42) (v := PT g 0) (w' := w3) rfl rfl rfl (by go_simp) ?_
  simp only [Act.put, sa, sz, ss]
  refine rest_set (d := 43) (v := PT g 1) (w' := w3) rfl rfl rfl (by go_simp) ?_
  simp only [Act.put, sa, sz, ss]
  refine rest_set (d := 44) (v := .slice (some ⟨gu, 0, none⟩) m cu) (w' := w3) rfl rfl rfl (ex_loadC H9.out.1 0 rfl rfl rfl Try.isAgg115 rfl) ?_
  simp only [Act.put, sa, sz, ss]
  refine rest_set (d := 45) (v := .int .i64 ((min a.toNat m : Nat) : Int)) (w' := w3) rfl rfl rfl (rfl) ?_
  simp only [Act.put, sa, sz, ss]
  refine rest_set (d := 46) (v := .slice (some ⟨gu, (2 * (min a.toNat m)), none⟩) (m - (min a.toNat m)) (cu - (min a.toNat m))) (w' := w3) rfl rfl rfl (ex_dropO (by omega) (by omega) rfl rfl rfl) ?_
  simp only [Act.put, sa, sz, ss]
  refine rest_set (d := 11) (v := .slice (some ⟨gu, (2 * (min a.toNat m)), none⟩) (m - (min a.toNat m)) (cu - (min a.toNat m))) (w' := w3) rfl rfl rfl (rfl) ?_
  simp only [Act.put, sa, sz, ss]
  refine rest_nil (then_normal (wp_seq ?_))
  refine sq_start (l := [0, 1, 2]) rfl ?_
  refine rest_set (d := 47) (v := .slice (some ⟨gu, (2 * (min a.toNat m)), none⟩) (m - (min a.toNat m)) (cu - (min a.toNat m))) (w' := w3) rfl rfl rfl (rfl) ?_
  simp only [Act.put, sa, sz, ss]
  refine rest_set (d := 48) (v := .int .i64 (((m - (min a.toNat m)) : Nat) : Int)) (w' := w3) rfl rfl rfl (by go_simp) ?_
  simp only [Act.put, sa, sz, ss]
  refine rest_set (d := 49) (v := .bool true) (w' := w3) rfl rfl rfl (by go_simp <;> omega) ?_
  simp only [Act.put, sa, sz, ss]
  refine rest_nil (then_normal ?_)
  refine wp_cond_true rfl (wp_seq ?_)
  refine sq_start (l := [0, 1, 2, 3, 4, 5, 6, 7]) rfl ?_
  refine rest_set (d := 50) (v := .int .i64 bt) (w' := w3) rfl rfl rfl (rfl) ?_
  simp only [Act.put, sa, sz, ss]
  refine rest_set (d := 51) (v := .slice (some ⟨gu, (2 * (min a.toNat m)), none⟩) (m - (min a.toNat m)) (cu - (min a.toNat m))) (w' := w3) rfl rfl rfl (rfl) ?_
  simp only [Act.put, sa, sz, ss]
  refine rest_set (d := 52) (v := PT gu (2 * (min a.toNat m))) (w' := w3) rfl rfl rfl (ex_ixO0 rfl rfl rfl (by omega)) ?_
  simp only [Act.put, sa, sz, ss]
  refine rest_set (d := 53) (v := PT gu (2 * (min a.toNat m) + 1)) (w' := w3) rfl rfl rfl (by go_simp) ?_
  simp only [Act.put, sa, sz, ss]
  refine rest_set (d := 54) (v := .slice (F (min a.toNat m)).q.p (F (min a.toNat m)).q.n (F (min a.toNat m)).q.cp) (w' := w3) rfl rfl rfl (ex_ldS (H9.out.2.cell hgu.out hgn.out (hcl.out (min a.toNat m) hdm).2) rfl rfl) ?_
  simp only [Act.put, sa, sz, ss]
  refine rest_set (d := 55) (v := .int .i64 (((F (min a.toNat m)).q.n : Nat) : Int)) (w' := w3) rfl rfl rfl (by go_simp) ?_
  simp only [Act.put, sa, sz, ss]
  refine rest_enter (d := 56) (R := fun vv w' => vv = .int .i64 ((min bt.toNat (F (min a.toNat m)).q.n : Nat) : Int) ∧ Below w3.heap.size w3 w') rfl rfl rfl (exec_call (args := #[.int .i64 bt, .int .i64 (((F (min a.toNat m)).q.n : Nat) : Int)]) rfl call104 rfl (mpn rfl)) (Calls.mono (within_any bt ((F (min a.toNat m)).q.n) w3) (fun e w2 hh => ⟨_, hh.1, rfl, hh.2⟩)) ?_
  rintro _ w10 ⟨rfl, hb⟩
  have H10 : Hid (Mm w10 [(g, [x.2, Value.slice (some ⟨gu, 0, none⟩) m cu, Value.bool false])] ∧ Sg w g S x.2 (rN n F (min a.toNat m)) (rP P F (min a.toNat m)) w10) := ⟨H9.out.1.below hb, Sg.below H9.out.2 (hb)⟩
  clear hb
  clear H9
  simp only [Act.put, sa, sz, ss]
  refine rest_set (d := 10) (v := .int .i64 ((min bt.toNat (F (min a.toNat m)).q.n : Nat) : Int)) (w' := w10) rfl rfl rfl (rfl) ?_
  simp only [Act.put, sa, sz, ss]
  refine rest_nil (then_normal ?_)
  refine walk_value (by kernel_rfl) 11 [0] [.quiet (PT g 0), .quiet (PT g 0), .quiet (PT g 0), .quiet (PT g 0), .quiet (x.2), .quiet (.slice (some ⟨gu, (2 * (min a.toNat m)), none⟩) (m - (min a.toNat m)) (cu - (min a.toNat m))), .quiet (PT gu (2 * (min a.toNat m))), .quiet (PT gu (2 * (min a.toNat m) + 1)), .quiet (.slice (F (min a.toNat m)).q.p (F (min a.toNat m)).q.n (F (min a.toNat m)).q.cp), .quiet (.int .i64 ((min bt.toNat (F (min a.toNat m)).q.n : Nat) : Int)), .quiet (.slice (F (min a.toNat m)).q.p (min bt.toNat (F (min a.toNat m)).q.n) (F (min a.toNat m)).q.cp)] (fun u' => Mm u' [(g, [x.2, Value.slice (some ⟨gu, 0, none⟩) m cu, Value.bool false])] ∧ Sg w g S x.2 (rN n F (min a.toNat m)) (rP P F (min a.toNat m)) u') ?pre13 ?F13 ?G13 _ 68 ?hpre13 (fun γ => ?hF13) (fun v γ => ?hG13) (by kernel_rfl) rfl ?hL13 ?hS13 ?ho13 (fun v => ?hla13) ?he13
  case hpre13 => simp only [tk, tz]; rfl
  case hF13 => simp only [fill, Kind.val, Act.put, sa, sz, ss]; rfl
  case hG13 => simp only [fill, Kind.val, Act.put, sa, sz, ss]; rfl
  case hL13 => exact trivial
  case hS13 => exact fun w' hb => ⟨H10.out.1.below hb, Sg.below H10.out.2 (hb)⟩
  case ho13 =>
    refine ak (fun _ => ⟨rfl, fun _ _ => rfl⟩) ?_
    refine ak (fun _ => ⟨rfl, fun _ _ => rfl⟩) ?_
    refine ak (by refine fun γ => ⟨rfl, fun w' h => ?_⟩; clear h; go_simp) ?_
    refine ak (by refine fun γ => ⟨rfl, fun w' h => ?_⟩; clear h; go_simp) ?_
    refine ak (fun γ => ⟨rfl, fun w' hX => have h := hX.1; ex_loadC h 0 rfl rfl rfl Try.isAgg34 rfl⟩) ?_
    refine ak (fun _ => ⟨rfl, fun _ _ => rfl⟩) ?_
    refine ak (fun γ => ⟨rfl, fun w' _ => ex_ixO0 rfl rfl rfl (by omega)⟩) ?_
    refine ak (by refine fun γ => ⟨rfl, fun w' h => ?_⟩; clear h; go_simp) ?_
    refine ak (fun γ => ⟨rfl, fun w' hX => ex_ldS (hX.2.cell hgu.out hgn.out (hcl.out (min a.toNat m) hdm).2) rfl rfl⟩) ?_
    refine ak (fun _ => ⟨rfl, fun _ _ => rfl⟩) ?_
    refine ak (fun γ => ⟨rfl, fun w' _ => ex_take htc.out rfl rfl rfl⟩) ?_
    exact trivial
  case hla13 => exact ⟨⟨_, _, rfl, rfl, fun γ => ⟨rfl, fun w' => rfl⟩⟩, trivial⟩
  intro γ w11 l hM hl
  have M11 : Mm w11 [(g, [x.2, Value.slice (some ⟨gu, 0, none⟩) m cu, Value.bool false])] := H10.out.1.grow hM (Nat.le_refl _) hl [] rfl (by decide)
  have B11 : Sg w g S x.2 (rN n F (min a.toNat m)) (rP P F (min a.toNat m)) w11 := Sg.below H10.out.2 (hM.below)
  clear hM hl l H10
  clear γ
  have H11 : Hid (_ ∧ _) := ⟨M11, B11⟩
  clear M11 B11
  obtain ⟨vt, w12, hr, hO, hG, h5⟩ := own_appQ H11.out.2.row (Nat.zero_le _) (Pt8.pre_ok (hok.out (min a.toNat m) hdm _ _ _ _ H11.out.2).1 (k := (min bt.toNat (F (min a.toNat m)).q.n)) (Nat.min_le_right _ _)) (hok.out (min a.toNat m) hdm _ _ _ _ H11.out.2).2.1 (Pt8.pre_rs (hok.out (min a.toNat m) hdm _ _ _ _ H11.out.2).2.2 (Nat.min_le_right _ _)) (hbt.out) 34
  refine ⟨vt, w12, ex_app rfl rfl rfl hr, ?_⟩
  have hM : Mm w12 [(g, [x.2, Value.slice (some ⟨gu, 0, none⟩) m cu, Value.bool false])] := (Chg.grown hG).mm (H11.out.1.one 0 rfl) (fun p hp => by obtain rfl := List.mem_singleton.1 hp; exact H11.out.2.ng hgS.out hg.out)
  have hs2 : Hid _ := own_st hO
  have H12 : Hid (Mm w12 [(g, [x.2, Value.slice (some ⟨gu, 0, none⟩) m cu, Value.bool false])] ∧ Sg w g S vt (rN n F (min a.toNat m) + (min bt.toNat (F (min a.toNat m)).q.n)) (ct (rP P F (min a.toNat m)) (rN n F (min a.toNat m)) (F (min a.toNat m)).q.f) w12) := ⟨hM, H11.out.2.on (Chg.grown hG) hO (vbl_new h5 (Nat.le_refl _) rfl)⟩
  clear hr hO hG h5 hM H11
  refine rest_at (l := [12, 13, 14]) rfl ?_
  refine rest_set (d := 69) (v := PT g 0) (w' := w12) rfl rfl rfl (by go_simp) ?_
  simp only [Act.put, sa, sz, ss]
  refine rest_set (d := 70) (v := PT g 0) (w' := w12) rfl rfl rfl (by go_simp) ?_
  simp only [Act.put, sa, sz, ss]
  refine rest_store rfl rfl rfl (ex_st1 (v := vt) H12.out.1 0 rfl rfl Try.sizeOf34 rfl rfl (hs2.out) (Nat.le_of_ble_eq_true rfl)) ?_
  have H13 : Hid (Mm (w12.setCells g 0 [vt]) [(g, [vt, Value.slice (some ⟨gu, 0, none⟩) m cu, Value.bool false])] ∧ Sg w g S vt (rN n F (min a.toNat m) + (min bt.toNat (F (min a.toNat m)).q.n)) (ct (rP P F (min a.toNat m)) (rN n F (min a.toNat m)) (F (min a.toNat m)).q.f) (w12.setCells g 0 [vt])) := ⟨H12.out.1.put 0 (off := 0) (vs := [vt]) rfl (Nat.le_of_ble_eq_true rfl), H12.out.2.put hgS.out hg.out _ _⟩
  clear H12
  generalize hgw : World.setCells _ _ _ _ = w13 at H13 ⊢
  clear hgw
  refine rest_nil (then_normal (wp_seq ?_))
  refine sq_start (l := [0, 1, 2, 3, 4, 5, 6, 7, 8, 9, 10, 11]) rfl ?_
  refine rest_set (d := 71) (v := PT g 0) (w' := w13) rfl rfl rfl (rfl) ?_
  simp only [Act.put, sa, sz, ss]
  refine rest_set (d := 72) (v := PT g 0) (w' := w13) rfl rfl rfl (by go_simp) ?_
  simp only [Act.put, sa, sz, ss]
  refine rest_set (d := 73) (v := PT g 2) (w' := w13) rfl rfl rfl (by go_simp) ?_
  simp only [Act.put, sa, sz, ss]
  refine rest_set (d := 74) (v := .bool false) (w' := w13) rfl rfl rfl (ex_loadC H13.out.1 0 rfl rfl rfl Try.isAgg4 rfl) ?_
  simp only [Act.put, sa, sz, ss]
  refine rest_set (d := 75) (v := .bool true) (w' := w13) rfl rfl rfl (by go_simp) ?_
  simp only [Act.put, sa, sz, ss]
  refine rest_set (d := 76) (v := .bool true) (w' := w13) rfl rfl rfl (rfl) ?_
  simp only [Act.put, sa, sz, ss]
  refine rest_gone1 (d := 77) rfl rfl rfl ?_
  simp only [Act.put, sa, sz, ss]
  refine rest_gone1 (d := 78) rfl rfl rfl ?_
  simp only [Act.put, sa, sz, ss]
  refine rest_gone1 (d := 79) rfl rfl rfl ?_
  simp only [Act.put, sa, sz, ss]
  refine rest_gone1 (d := 80) rfl rfl rfl ?_
  simp only [Act.put, sa, sz, ss]
  refine rest_set (d := 81) (v := .bool true) (w' := w13) rfl rfl rfl (by go_simp) ?_
  simp only [Act.put, sa, sz, ss]
  refine rest_set (d := 12) (v := .bool true) (w' := w13) rfl rfl rfl (rfl) ?_
  simp only [Act.put, sa, sz, ss]
  refine rest_nil (then_normal (wp_seq ?_))
  refine sq_start (l := [0, 1, 2, 3, 4, 5, 6, 7]) rfl ?_
  refine rest_set (d := 82) (v := PT g 0) (w' := w13) rfl rfl rfl (rfl) ?_
  simp only [Act.put, sa, sz, ss]
  refine rest_set (d := 83) (v := PT g 0) (w' := w13) rfl rfl rfl (rfl) ?_
  simp only [Act.put, sa, sz, ss]
  refine rest_set (d := 84) (v := PT g 0) (w' := w13) rfl rfl rfl (by go_simp) ?_
  simp only [Act.put, sa, sz, ss]
  refine rest_set (d := 85) (v := PT g 1) (w' := w13) rfl rfl rfl (by go_simp) ?_
  simp only [Act.put, sa, sz, ss]
  refine rest_store rfl rfl rfl (ex_st1 (v := .slice none 0 0) H13.out.1 0 rfl rfl Try.sizeOf115 rfl rfl (rfl) (Nat.le_of_ble_eq_true rfl)) ?_
  have H14 : Hid (Mm (w13.setCells g 1 [Value.slice none 0 0]) [(g, [vt, Value.slice none 0 0, Value.bool false])] ∧ Sg w g S vt (rN n F (min a.toNat m) + (min bt.toNat (F (min a.toNat m)).q.n)) (ct (rP P F (min a.toNat m)) (rN n F (min a.toNat m)) (F (min a.toNat m)).q.f) (w13.setCells g 1 [Value.slice none 0 0])) := ⟨H13.out.1.put 0 (off := 1) (vs := [Value.slice none 0 0]) rfl (Nat.le_of_ble_eq_true rfl), H13.out.2.put hgS.out hg.out _ _⟩
  clear H13
  generalize hgw : World.setCells _ _ _ _ = w14 at H14 ⊢
  clear hgw
  refine rest_set (d := 86) (v := PT g 0) (w' := w14) rfl rfl rfl (by go_simp) ?_
  simp only [Act.put, sa, sz, ss]
  refine rest_set (d := 87) (v := PT g 2) (w' := w14) rfl rfl rfl (by go_simp) ?_
  simp only [Act.put, sa, sz, ss]
  refine rest_store rfl rfl rfl (ex_st1 (v := .bool false) H14.out.1 0 rfl rfl Try.sizeOf4 rfl rfl (rfl) (Nat.le_of_ble_eq_true rfl)) ?_
  have H15 : Hid (Mm (w14.setCells g 2 [Value.bool false]) [(g, [vt, Value.slice none 0 0, Value.bool false])] ∧ Sg w g S vt (rN n F (min a.toNat m) + (min bt.toNat (F (min a.toNat m)).q.n)) (ct (rP P F (min a.toNat m)) (rN n F (min a.toNat m)) (F (min a.toNat m)).q.f) (w14.setCells g 2 [Value.bool false])) := ⟨H14.out.1.put 0 (off := 2) (vs := [Value.bool false]) rfl (Nat.le_of_ble_eq_true rfl), H14.out.2.put hgS.out hg.out _ _⟩
  clear H14
  generalize hgw : World.setCells _ _ _ _ = w15 at H15 ⊢
  clear hgw
  refine rest_nil (then_normal (wp_seq ?_))
  refine sq_start (l := [0, 1]) rfl ?_
  refine rest_set (d := 88) (v := .bool true) (w' := w15) rfl rfl rfl (rfl) ?_
  simp only [Act.put, sa, sz, ss]
  refine rest_set (d := 6) (v := .bool true) (w' := w15) rfl rfl rfl (rfl) ?_
  simp only [Act.put, sa, sz, ss]
  refine rest_nil (then_normal (wp_ret ?_))
  repeat (first | refine then_ret ?_ | refine block_ret ?_)
  refine bodyPost_ret (v := .bool true) (by simp [results, Try.results73, go_sem, *]) rfl ?_
  exact ⟨rfl, vt, H15.out.1, H15.out.2⟩
set_option maxHeartbeats 4000000 in
set_option maxRecDepth 100000 in
theorem settle_part_new (g : Nat) (S : Value) (n : Nat) (P : Nat → Nat) (a bt : Int) (cu : Nat) (gu m : Nat) (F : Nat → Uop) (hmm : m ≤ 1000000) (hmc : m ≤ cu) (hdm : min a.toNat m < m) (w : World) (hm : Mm w [(g, [S, Value.slice (some ⟨gu, 0, none⟩) m cu, Value.bool true])]) (hg0 : g < w.heap.size) (hgS0 : g ∉ vbl S) (row0 : w.ownsRow 0 5 1 S n (ints .u8 P n)) (hgu0 : gu < w.heap.size) (hgn0 : gu ∉ g :: vbl S) (hcl0 : ∀ i, i < m → w.cell? ⟨gu, 2 * i, none⟩ = some (.int .i64 ((F i).st : Int)) ∧ w.cell? ⟨gu, 2 * i + 1, none⟩ = some (.slice (F i).q.p (F i).q.n (F i).q.cp)) (hv0 : ∀ i, i < m → (F i).st ≤ rN n F i ∧ (F i).st + (F i).q.n ≤ 2097152) (hok0 : ∀ i, i < m → ∀ s' n' P' w', Sg w g S s' n' P' w' → (F i).ok w') (hbt0 : rN n F (min a.toNat m) + (min bt.toNat (F (min a.toNat m)).q.n) ≤ 2097152) (htc0 : (min bt.toNat (F (min a.toNat m)).q.n) ≤ (F (min a.toNat m)).q.cp) :
    Calls Try.prog 73 #[PT g 0, .int .i64 a, .int .i64 bt] w fun e w' => e = .returned (.bool (decide (0 < (min a.toNat m) + (min bt.toNat (F (min a.toNat m)).q.n)))) ∧ ∃ s', Mm w' [(g, [s', Value.slice none 0 0, Value.bool false])] ∧ Sg w g S s' (rN n F (min a.toNat m) + (min bt.toNat (F (min a.toNat m)).q.n)) (ct (rP P F (min a.toNat m)) (rN n F (min a.toNat m)) (F (min a.toNat m)).q.f) w' := by
  have H0 : Hid (_ ∧ _) := ⟨hm, Sg.start (g := g) row0⟩
  clear hm
  have hg : Hid _ := hg0
  have hgS : Hid _ := hgS0
  clear hg0 hgS0
  have hgu : Hid _ := hgu0
  have hgn : Hid _ := hgn0
  have hcl : Hid _ := hcl0
  have hv : Hid _ := hv0
  have hok : Hid _ := hok0
  clear hgu0 hgn0 hcl0 hv0 hok0
  have hbt : Hid _ := hbt0
  have htc : Hid _ := htc0
  clear hbt0 htc0
  go_enter Try.func73, Try.ntmps73
  refine wp_seq ?_
  refine sq_startW (l := [0]) rfl (fun u0 hu0 => ?_)
  have H1 : Hid (Mm u0 [(g, [S, Value.slice (some ⟨gu, 0, none⟩) m cu, Value.bool true])] ∧ Sg w g S S n P u0) := by rw [hu0]; exact H0
  clear hu0 H0
  refine rest_set (d := 6) (v := .bool false) (w' := u0) rfl rfl rfl (rfl) ?_
  simp only [Act.put, sa, sz, ss]
  refine rest_nil (then_normal (wp_seq ?_))
  refine sq_start (l := [0, 1, 2, 3, 4, 5, 6, 7]) rfl ?_
  refine rest_set (d := 13) (v := .int .i64 a) (w' := u0) rfl rfl rfl (rfl) ?_
  simp only [Act.put, sa, sz, ss]
  refine rest_set (d := 14) (v := PT g 0) (w' := u0) rfl rfl rfl (rfl) ?_
  simp only [Act.put, sa, sz, ss]
  refine rest_set (d := 15) (v := PT g 0) (w' := u0) rfl rfl rfl (by go_simp) ?_
  simp only [Act.put, sa, sz, ss]
  refine rest_set (d := 16) (v := PT g 1) (w' := u0) rfl rfl rfl (by go_simp) ?_
  simp only [Act.put, sa, sz, ss]
  refine rest_set (d := 17) (v := .slice (some ⟨gu, 0, none⟩) m cu) (w' := u0) rfl rfl rfl (ex_loadC H1.out.1 0 rfl rfl rfl Try.isAgg115 rfl) ?_
  simp only [Act.put, sa, sz, ss]
  refine rest_set (d := 18) (v := .int .i64 ((m : Nat) : Int)) (w' := u0) rfl rfl rfl (by go_simp) ?_
  simp only [Act.put, sa, sz, ss]
  refine rest_enter (d := 19) (R := fun vv w' => vv = .int .i64 ((min a.toNat m : Nat) : Int) ∧ Below u0.heap.size u0 w') rfl rfl rfl (exec_call (args := #[.int .i64 a, .int .i64 ((m : Nat) : Int)]) rfl call104 rfl (mpn rfl)) (Calls.mono (within_any a m u0) (fun e w2 hh => ⟨_, hh.1, rfl, hh.2⟩)) ?_
  rintro _ w2 ⟨rfl, hb⟩
  have H2 : Hid (Mm w2 [(g, [S, Value.slice (some ⟨gu, 0, none⟩) m cu, Value.bool true])] ∧ Sg w g S S n P w2) := ⟨H1.out.1.below hb, Sg.below H1.out.2 (hb)⟩
  clear hb
  clear H1
  simp only [Act.put, sa, sz, ss]
  refine rest_set (d := 7) (v := .int .i64 ((min a.toNat m : Nat) : Int)) (w' := w2) rfl rfl rfl (rfl) ?_
  simp only [Act.put, sa, sz, ss]
  refine rest_nil (then_normal ?_)
  refine wp_seq (wp_seq ?_)
  refine sq_start (l := [0, 1, 2, 3, 4, 5, 6, 7]) rfl ?_
  refine rest_set (d := 20) (v := PT g 0) (w' := w2) rfl rfl rfl (rfl) ?_
  simp only [Act.put, sa, sz, ss]
  refine rest_set (d := 21) (v := PT g 0) (w' := w2) rfl rfl rfl (by go_simp) ?_
  simp only [Act.put, sa, sz, ss]
  refine rest_set (d := 22) (v := PT g 1) (w' := w2) rfl rfl rfl (by go_simp) ?_
  simp only [Act.put, sa, sz, ss]
  refine rest_set (d := 23) (v := .slice (some ⟨gu, 0, none⟩) m cu) (w' := w2) rfl rfl rfl (ex_loadC H2.out.1 0 rfl rfl rfl Try.isAgg115 rfl) ?_
  simp only [Act.put, sa, sz, ss]
  refine rest_set (d := 24) (v := .int .i64 ((min a.toNat m : Nat) : Int)) (w' := w2) rfl rfl rfl (rfl) ?_
  simp only [Act.put, sa, sz, ss]
  refine rest_set (d := 25) (v := .slice (some ⟨gu, 0, none⟩) (min a.toNat m) cu) (w' := w2) rfl rfl rfl (ex_takeO (by omega) rfl rfl rfl) ?_
  simp only [Act.put, sa, sz, ss]
  refine rest_set (d := 26) (v := .int .i64 (((min a.toNat m) : Nat) : Int)) (w' := w2) rfl rfl rfl (by go_simp) ?_
  simp only [Act.put, sa, sz, ss]
  refine rest_set (d := 27) (v := .int .i64 0) (w' := w2) rfl rfl rfl (rfl) ?_
  simp only [Act.put, sa, sz, ss]
  refine rest_nil (then_normal (wp_block ?_))
  refine loop_ghost (α := Nat × Value) (fun x a' w' => ∃ s0 : Nat → Value, a' = ⟨#[PT g 0, .int .i64 a, .int .i64 bt, undef, undef, undef, .bool false, .int .i64 ((min a.toNat m : Nat) : Int), undef, s0 9, undef, undef, undef, .int .i64 a, PT g 0, PT g 0, PT g 1, .slice (some ⟨gu, 0, none⟩) m cu, .int .i64 ((m : Nat) : Int), .int .i64 ((min a.toNat m : Nat) : Int), PT g 0, PT g 0, PT g 1, .slice (some ⟨gu, 0, none⟩) m cu, .int .i64 ((min a.toNat m : Nat) : Int), .slice (some ⟨gu, 0, none⟩) (min a.toNat m) cu, .int .i64 (((min a.toNat m) : Nat) : Int), .int .i64 ((x.1 : Nat) : Int), s0 28, s0 29, s0 30, s0 31, s0 32, s0 33, s0 34, s0 35, s0 36, s0 37, s0 38, s0 39, s0 40, undef, undef, undef, undef, undef, undef, undef, undef, undef, undef, undef, undef, undef, undef, undef, undef, undef, undef, undef, undef, undef, undef, undef, undef, undef, undef, undef, undef, undef, undef, undef, undef, undef, undef, undef, undef, undef, undef, undef, undef, undef, undef, undef, undef, undef, undef, undef, undef], []⟩ ∧ (Mm w' [(g, [x.2, Value.slice (some ⟨gu, 0, none⟩) m cu, Value.bool true])] ∧ Sg w g S x.2 (rN n F x.1) (rP P F x.1) w') ∧ x.1 ≤ (min a.toNat m)) (fun x => (min a.toNat m) - x.1) (0, S) ?st0 ?rd0
  case st0 => exact ⟨(slotfn [undef, undef, undef, undef, undef, undef, undef, undef, undef, undef, undef, undef, undef, undef, undef, undef, undef, undef, undef, undef, undef, undef, undef, undef, undef, undef, undef, undef, undef, undef, undef, undef, undef, undef, undef, undef, undef, undef, undef, undef, undef]), rfl, ⟨H2.out.1, H2.out.2⟩, Nat.zero_le _⟩
  intro x a' w3 hI
  obtain ⟨s0, rfl, hMB, hk0⟩ := hI
  have H3 : Hid (_ ∧ _) := hMB
  clear hMB H2
  by_cases hltx : x.1 < (min a.toNat m)
  · have hrd : True := trivial
    clear hrd
    have hxm : x.1 < m := by omega
    refine wp_seq ?_
    refine sq_start (l := [0]) rfl ?_
    refine rest_set (d := 28) (v := .bool true) (w' := w3) rfl rfl rfl (by go_simp <;> omega) ?_
    simp only [Act.put, sa, sz, ss]
    refine rest_nil (then_normal ?_)
    refine wp_seq (wp_cond_true rfl ?_)
    refine wp_skip (then_normal ?_)
    refine wp_seq (wp_block (wp_seq ?_))
    refine sq_start (l := [0, 1, 2, 3]) rfl ?_
    refine rest_set (d := 29) (v := PT gu (2 * x.1)) (w' := w3) rfl rfl rfl (ex_ixO rfl rfl rfl (by omega)) ?_
    simp only [Act.put, sa, sz, ss]
    refine rest_set (d := 30) (v := .agg ([Value.int .i64 (((F x.1).st : Nat) : Int), Value.slice (F x.1).q.p (F x.1).q.n (F x.1).q.cp]).toArray) (w' := w3) rfl rfl rfl (ex_ldO (H3.out.2.cell hgu.out hgn.out (hcl.out x.1 hxm).1) (H3.out.2.cell hgu.out hgn.out (hcl.out x.1 hxm).2) rfl rfl) ?_
    simp only [Act.put, sa, sz, ss]
    have nbz : Hid (w3.heap.size ∉ vbl x.2) := fun hm => Nat.lt_irrefl _ (own_lt H3.out.2.row _ hm)
    refine rest_set (d := 9) (v := PT w3.heap.size 0) (w' := (w3.alloc (.cells ([Value.int .i64 0, Value.slice none 0 0] : List Value).toArray 120))) rfl rfl rfl (ex_mk120 rfl) ?_
    simp only [Act.put, sa, sz, ss]
    have o_γs4 : Hid (w.heap.size ≤ w3.heap.size) := H3.out.2.size
    have H4 : Hid (Mm (w3.alloc (.cells ([Value.int .i64 0, Value.slice none 0 0] : List Value).toArray 120)) ((w3.heap.size, [Value.int .i64 0, Value.slice none 0 0]) :: [(g, [x.2, Value.slice (some ⟨gu, 0, none⟩) m cu, Value.bool true])]) ∧ Sg w g S x.2 (rN n F x.1) (rP P F x.1) (w3.alloc (.cells ([Value.int .i64 0, Value.slice none 0 0] : List Value).toArray 120))) := ⟨H3.out.1.alloc _ 120 rfl, Sg.below H3.out.2 (((Below.refl _ _).alloc (Nat.le_refl _) _))⟩
    clear H3
    generalize hgw : w3.alloc (.cells ([Value.int .i64 0, Value.slice none 0 0] : List Value).toArray 120) = w4 at H4 ⊢
    clear hgw
    generalize w3.heap.size = γs4 at nbz o_γs4 H4 ⊢
    have nb_γs4 : Hid _ := nbz.out
    clear nbz
    refine rest_store rfl rfl rfl (ex_storeT (vs := [Value.int .i64 (((F x.1).st : Nat) : Int), Value.slice (F x.1).q.p (F x.1).q.n (F x.1).q.cp]) H4.out.1 0 rfl rfl rfl rfl Try.sizeOf120 rfl (Nat.le_of_ble_eq_true rfl)) ?_
    have H5 : Hid (Mm (w4.setCells γs4 0 [Value.int .i64 (((F x.1).st : Nat) : Int), Value.slice (F x.1).q.p (F x.1).q.n (F x.1).q.cp]) [(γs4, [Value.int .i64 (((F x.1).st : Nat) : Int), Value.slice (F x.1).q.p (F x.1).q.n (F x.1).q.cp]), (g, [x.2, Value.slice (some ⟨gu, 0, none⟩) m cu, Value.bool true])] ∧ Sg w g S x.2 (rN n F x.1) (rP P F x.1) (w4.setCells γs4 0 [Value.int .i64 (((F x.1).st : Nat) : Int), Value.slice (F x.1).q.p (F x.1).q.n (F x.1).q.cp])) := ⟨H4.out.1.put 0 (off := 0) (vs := [Value.int .i64 (((F x.1).st : Nat) : Int), Value.slice (F x.1).q.p (F x.1).q.n (F x.1).q.cp]) rfl (Nat.le_of_ble_eq_true rfl), H4.out.2.putNew o_γs4.out nb_γs4.out _ _⟩
    clear H4
    generalize hgw : World.setCells _ _ _ _ = w5 at H5 ⊢
    clear hgw
    refine rest_nil (then_normal ?_)
    refine walk_enterV (by kernel_rfl) 6 [0] [.quiet (PT g 0), .quiet (.agg ([Value.int .i64 (((F x.1).st : Nat) : Int), Value.slice (F x.1).q.p (F x.1).q.n (F x.1).q.cp]).toArray), .quiet (PT g 0), .quiet (PT g 0), .quiet (PT g 0), .quiet (x.2)] (fun w' => Mm w' [(γs4, [Value.int .i64 (((F x.1).st : Nat) : Int), Value.slice (F x.1).q.p (F x.1).q.n (F x.1).q.cp]), (g, [x.2, Value.slice (some ⟨gu, 0, none⟩) m cu, Value.bool true])]) ?pre6 ?F6 ?G6 _ 37 ?hpre6 (fun γ => ?hF6) (fun v γ => ?hG6) (by kernel_rfl) rfl ?hL6 ?hS6 ?ho6 (fun v => ?hla6) ?he6
    case hpre6 => simp only [tk, tz]; rfl
    case hF6 => simp only [fill, Kind.val, Act.put, sa, sz, ss]; rfl
    case hG6 => simp only [fill, Kind.val, Act.put, sa, sz, ss]; rfl
    case hL6 => exact trivial
    case hS6 => exact fun w' hb => H5.out.1.below hb
    case ho6 =>
      refine ak (fun _ => ⟨rfl, fun _ _ => rfl⟩) ?_
      refine ak (fun γ => ⟨rfl, fun w' h => ex_loadT h 0 rfl rfl rfl Try.isAgg120 Try.sizeOf120 rfl rfl⟩) ?_
      refine ak (fun _ => ⟨rfl, fun _ _ => rfl⟩) ?_
      refine ak (by refine fun γ => ⟨rfl, fun w' h => ?_⟩; clear h; go_simp) ?_
      refine ak (by refine fun γ => ⟨rfl, fun w' h => ?_⟩; clear h; go_simp) ?_
      refine ak (fun γ => ⟨rfl, fun w' h => ex_loadC h 1 rfl rfl rfl Try.isAgg34 rfl⟩) ?_
      exact trivial
    case hla6 => exact ⟨⟨_, _, rfl, rfl, fun γ => ⟨rfl, fun w' => rfl⟩⟩, trivial⟩
    intro γ w6 l hM hl
    have M6 : Mm w6 [(γs4, [Value.int .i64 (((F x.1).st : Nat) : Int), Value.slice (F x.1).q.p (F x.1).q.n (F x.1).q.cp]), (g, [x.2, Value.slice (some ⟨gu, 0, none⟩) m cu, Value.bool true])] := H5.out.1.grow hM (Nat.le_refl _) hl [] rfl (by decide)
    have B6 : Sg w g S x.2 (rN n F x.1) (rP P F x.1) w6 := Sg.below H5.out.2 (hM.below)
    clear hM hl l H5
    clear γ
    have H6 : Hid (_ ∧ _) := ⟨M6, B6⟩
    clear M6 B6
    refine ⟨102, #[.agg ([.int .i64 (((F x.1).st : Nat) : Int), .slice (F x.1).q.p (F x.1).q.n (F x.1).q.cp] : List Value).toArray, x.2], fun vv w' => w'.ownsRow 0 5 1 vv ((F x.1).st + (F x.1).q.n) (ints .u8 (ct (rP P F x.1) (F x.1).st (F x.1).q.f) ((F x.1).st + (F x.1).q.n)) ∧ Chg (vbl x.2) w6 w' ∧ ∀ z ∈ vbl vv, z ∈ vbl x.2 ∨ w6.heap.size ≤ z, exec_call rfl call102 rfl (mpn rfl), upon_v (F x.1) x.2 _ 0 _ (hv.out x.1 hxm).1 (hv.out x.1 hxm).2 w6 (Nat.zero_le _) H6.out.2.row (hok.out x.1 hxm _ _ _ _ H6.out.2), ?_⟩
    rintro vr w7 ⟨hO, hC, hb5⟩
    have hM : Mm w7 [(g, [x.2, Value.slice (some ⟨gu, 0, none⟩) m cu, Value.bool true])] := hC.mm (H6.out.1.one 1 rfl) (fun p hp => by obtain rfl := List.mem_singleton.1 hp; exact H6.out.2.ng hgS.out hg.out)
    have hs1 : Hid _ := own_st hO
    have H7 : Hid (Mm w7 [(g, [x.2, Value.slice (some ⟨gu, 0, none⟩) m cu, Value.bool true])] ∧ Sg w g S vr (rN n F (x.1 + 1)) (rP P F (x.1 + 1)) w7) := ⟨hM, H6.out.2.on hC hO hb5⟩
    clear hO hC hb5 hM H6
    refine rest_at (l := [7, 8, 9]) rfl ?_
    refine rest_set (d := 38) (v := PT g 0) (w' := w7) rfl rfl rfl (by go_simp) ?_
    simp only [Act.put, sa, sz, ss]
    refine rest_set (d := 39) (v := PT g 0) (w' := w7) rfl rfl rfl (by go_simp) ?_
    simp only [Act.put, sa, sz, ss]
    refine rest_store rfl rfl rfl (ex_st1 (v := vr) H7.out.1 0 rfl rfl Try.sizeOf34 rfl rfl (hs1.out) (Nat.le_of_ble_eq_true rfl)) ?_
    have H8 : Hid (Mm (w7.setCells g 0 [vr]) [(g, [vr, Value.slice (some ⟨gu, 0, none⟩) m cu, Value.bool true])] ∧ Sg w g S vr (rN n F (x.1 + 1)) (rP P F (x.1 + 1)) (w7.setCells g 0 [vr])) := ⟨H7.out.1.put 0 (off := 0) (vs := [vr]) rfl (Nat.le_of_ble_eq_true rfl), H7.out.2.put hgS.out hg.out _ _⟩
    clear H7
    generalize hgw : World.setCells _ _ _ _ = w8 at H8 ⊢
    clear hgw
    refine rest_nil (block_normal (then_normal ?_))
    refine sq_start (l := [0, 1]) rfl ?_
    refine rest_set (d := 40) (v := .int .i64 ((x.1 + 1 : Nat) : Int)) (w' := w8) rfl rfl rfl (by go_simp; rw [IntKind.wrap_i64]; omega) ?_
    simp only [Act.put, sa, sz, ss]
    refine rest_set (d := 27) (v := .int .i64 ((x.1 + 1 : Nat) : Int)) (w' := w8) rfl rfl rfl (rfl) ?_
    simp only [Act.put, sa, sz, ss]
    refine rest_nil (then_normal ?_)
    exact ⟨(x.1 + 1, vr), ⟨(slotfn [undef, undef, undef, undef, undef, undef, undef, undef, undef, PT γs4 0, undef, undef, undef, undef, undef, undef, undef, undef, undef, undef, undef, undef, undef, undef, undef, undef, undef, undef, .bool true, PT gu (2 * x.1), .agg ([Value.int .i64 (((F x.1).st : Nat) : Int), Value.slice (F x.1).q.p (F x.1).q.n (F x.1).q.cp]).toArray, PT g 0, .agg ([Value.int .i64 (((F x.1).st : Nat) : Int), Value.slice (F x.1).q.p (F x.1).q.n (F x.1).q.cp]).toArray, PT g 0, PT g 0, PT g 0, x.2, vr, PT g 0, PT g 0, .int .i64 ((x.1 + 1 : Nat) : Int)]), rfl, ⟨H8.out.1, H8.out.2⟩, (show x.1 + 1 ≤ (min a.toNat m) by omega)⟩, (show (min a.toNat m) - (x.1 + 1) < (min a.toNat m) - x.1 by omega)⟩
  have hxN : x.1 = (min a.toNat m) := by omega
  refine wp_seq ?_
  refine sq_start (l := [0]) rfl ?_
  refine rest_set (d := 28) (v := .bool false) (w' := w3) rfl rfl rfl (by go_simp <;> omega) ?_
  simp only [Act.put, sa, sz, ss]
  refine rest_nil (then_normal ?_)
  refine wp_seq (wp_cond_false rfl ?_)
  refine wp_exit ?_
  repeat refine then_exit ?_
  refine block_exit ?_
  have H9 : Hid (Mm w3 [(g, [x.2, Value.slice (some ⟨gu, 0, none⟩) m cu, Value.bool true])] ∧ Sg w g S x.2 (rN n F (min a.toNat m)) (rP P F (min a.toNat m)) w3) := ⟨H3.out.1, by rw [← hxN]; exact H3.out.2⟩
  clear H3
  refine then_normal (wp_seq ?_)
  refine sq_start (l := [0]) rfl ?_
  refine rest_set (d := 10) (v := .int .i64 0) (w' := w3) rfl rfl rfl (rfl) ?_
  simp only [Act.put, sa, sz, ss]
  refine rest_nil (then_normal ?_)
  refine wp_seq (wp_seq ?_)
  refine sq_start (l := [0, 1, 2, 3, 4, 5, 6]) rfl ?_
  refine rest_set (d := 41) (v := PT g 0) (w' := w3) rfl rfl rfl (rfl) ?_
  simp only [Act.put, sa, sz, ss]
  refine rest_set (d := 42) (v := PT g 0) (w' := w3) rfl rfl rfl (by go_simp) ?_
  simp only [Act.put, sa, sz, ss]
  refine rest_set (d := 43) (v := PT g 1) (w' := w3) rfl rfl rfl (by go_simp) ?_
  simp only [Act.put, sa, sz, ss]
  refine rest_set (d := 44) (v := .slice (some ⟨gu, 0, none⟩) m cu) (w' := w3) rfl rfl rfl (ex_loadC H9.out.1 0 rfl rfl rfl Try.isAgg115 rfl) ?_
  simp only [Act.put, sa, sz, ss]
  refine rest_set (d := 45) (v := .int .i64 ((min a.toNat m : Nat) : Int)) (w' := w3) rfl rfl rfl (rfl) ?_
  simp only [Act.put, sa, sz, ss]
  refine rest_set (d := 46) (v := .slice (some ⟨gu, (2 * (min a.toNat m)), none⟩) (m - (min a.toNat m)) (cu - (min a.toNat m))) (w' := w3) rfl rfl rfl (ex_dropO (by omega) (by omega) rfl rfl rfl) ?_
  simp only [Act.put, sa, sz, ss]
  refine rest_set (d := 11) (v := .slice (some ⟨gu, (2 * (min a.toNat m)), none⟩) (m - (min a.toNat m)) (cu - (min a.toNat m))) (w' := w3) rfl rfl rfl (rfl) ?_
  simp only [Act.put, sa, sz, ss]
  refine rest_nil (then_normal (wp_seq ?_))
  refine sq_start (l := [0, 1, 2]) rfl ?_
  refine rest_set (d := 47) (v := .slice (some ⟨gu, (2 * (min a.toNat m)), none⟩) (m - (min a.toNat m)) (cu - (min a.toNat m))) (w' := w3) rfl rfl rfl (rfl) ?_
  simp only [Act.put, sa, sz, ss]
  refine rest_set (d := 48) (v := .int .i64 (((m - (min a.toNat m)) : Nat) : Int)) (w' := w3) rfl rfl rfl (by go_simp) ?_
  simp only [Act.put, sa, sz, ss]
  refine rest_set (d := 49) (v := .bool true) (w' := w3) rfl rfl rfl (by go_simp <;> omega) ?_
  simp only [Act.put, sa, sz, ss]
  refine rest_nil (then_normal ?_)
  refine wp_cond_true rfl (wp_seq ?_)
  refine sq_start (l := [0, 1, 2, 3, 4, 5, 6, 7]) rfl ?_
  refine rest_set (d := 50) (v := .int .i64 bt) (w' := w3) rfl rfl rfl (rfl) ?_
  simp only [Act.put, sa, sz, ss]
  refine rest_set (d := 51) (v := .slice (some ⟨gu, (2 * (min a.toNat m)), none⟩) (m - (min a.toNat m)) (cu - (min a.toNat m))) (w' := w3) rfl rfl rfl (rfl) ?_
  simp only [Act.put, sa, sz, ss]
  refine rest_set (d := 52) (v := PT gu (2 * (min a.toNat m))) (w' := w3) rfl rfl rfl (ex_ixO0 rfl rfl rfl (by omega)) ?_
  simp only [Act.put, sa, sz, ss]
  refine rest_set (d := 53) (v := PT gu (2 * (min a.toNat m) + 1)) (w' := w3) rfl rfl rfl (by go_simp) ?_
  simp only [Act.put, sa, sz, ss]
  refine rest_set (d := 54) (v := .slice (F (min a.toNat m)).q.p (F (min a.toNat m)).q.n (F (min a.toNat m)).q.cp) (w' := w3) rfl rfl rfl (ex_ldS (H9.out.2.cell hgu.out hgn.out (hcl.out (min a.toNat m) hdm).2) rfl rfl) ?_
  simp only [Act.put, sa, sz, ss]
  refine rest_set (d := 55) (v := .int .i64 (((F (min a.toNat m)).q.n : Nat) : Int)) (w' := w3) rfl rfl rfl (by go_simp) ?_
  simp only [Act.put, sa, sz, ss]
  refine rest_enter (d := 56) (R := fun vv w' => vv = .int .i64 ((min bt.toNat (F (min a.toNat m)).q.n : Nat) : Int) ∧ Below w3.heap.size w3 w') rfl rfl rfl (exec_call (args := #[.int .i64 bt, .int .i64 (((F (min a.toNat m)).q.n : Nat) : Int)]) rfl call104 rfl (mpn rfl)) (Calls.mono (within_any bt ((F (min a.toNat m)).q.n) w3) (fun e w2 hh => ⟨_, hh.1, rfl, hh.2⟩)) ?_
  rintro _ w10 ⟨rfl, hb⟩
  have H10 : Hid (Mm w10 [(g, [x.2, Value.slice (some ⟨gu, 0, none⟩) m cu, Value.bool true])] ∧ Sg w g S x.2 (rN n F (min a.toNat m)) (rP P F (min a.toNat m)) w10) := ⟨H9.out.1.below hb, Sg.below H9.out.2 (hb)⟩
  clear hb
  clear H9
  simp only [Act.put, sa, sz, ss]
  refine rest_set (d := 10) (v := .int .i64 ((min bt.toNat (F (min a.toNat m)).q.n : Nat) : Int)) (w' := w10) rfl rfl rfl (rfl) ?_
  simp only [Act.put, sa, sz, ss]
  refine rest_nil (then_normal ?_)
  refine walk_value (by kernel_rfl) 11 [0] [.quiet (PT g 0), .quiet (PT g 0), .quiet (PT g 0), .quiet (PT g 0), .quiet (x.2), .quiet (.slice (some ⟨gu, (2 * (min a.toNat m)), none⟩) (m - (min a.toNat m)) (cu - (min a.toNat m))), .quiet (PT gu (2 * (min a.toNat m))), .quiet (PT gu (2 * (min a.toNat m) + 1)), .quiet (.slice (F (min a.toNat m)).q.p (F (min a.toNat m)).q.n (F (min a.toNat m)).q.cp), .quiet (.int .i64 ((min bt.toNat (F (min a.toNat m)).q.n : Nat) : Int)), .quiet (.slice (F (min a.toNat m)).q.p (min bt.toNat (F (min a.toNat m)).q.n) (F (min a.toNat m)).q.cp)] (fun u' => Mm u' [(g, [x.2, Value.slice (some ⟨gu, 0, none⟩) m cu, Value.bool true])] ∧ Sg w g S x.2 (rN n F (min a.toNat m)) (rP P F (min a.toNat m)) u') ?pre13 ?F13 ?G13 _ 68 ?hpre13 (fun γ => ?hF13) (fun v γ => ?hG13) (by kernel_rfl) rfl ?hL13 ?hS13 ?ho13 (fun v => ?hla13) ?he13
  case hpre13 => simp only [tk, tz]; rfl
  case hF13 => simp only [fill, Kind.val, Act.put, sa, sz, ss]; rfl
  case hG13 => simp only [fill, Kind.val, Act.put, sa, sz, ss]; rfl
  case hL13 => exact trivial
  case hS13 => exact fun w' hb => ⟨H10.out.1.below hb, Sg.below H10.out.2 (hb)⟩
  case ho13 =>
    refine ak (fun _ => ⟨rfl, fun _ _ => rfl⟩) ?_
    refine ak (fun _ => ⟨rfl, fun _ _ => rfl⟩) ?_
    refine ak (by refine fun γ => ⟨rfl, fun w' h => ?_⟩; clear h; go_simp) ?_
    refine ak (by refine fun γ => ⟨rfl, fun w' h => ?_⟩; clear h; go_simp) ?_
    refine ak (fun γ => ⟨rfl, fun w' hX => have h := hX.1; ex_loadC h 0 rfl rfl rfl Try.isAgg34 rfl⟩) ?_
    refine ak (fun _ => ⟨rfl, fun _ _ => rfl⟩) ?_
    refine ak (fun γ => ⟨rfl, fun w' _ => ex_ixO0 rfl rfl rfl (by omega)⟩) ?_
    refine ak (by refine fun γ => ⟨rfl, fun w' h => ?_⟩; clear h; go_simp) ?_
    refine ak (fun γ => ⟨rfl, fun w' hX => ex_ldS (hX.2.cell hgu.out hgn.out (hcl.out (min a.toNat m) hdm).2) rfl rfl⟩) ?_
    refine ak (fun _ => ⟨rfl, fun _ _ => rfl⟩) ?_
    refine ak (fun γ => ⟨rfl, fun w' _ => ex_take htc.out rfl rfl rfl⟩) ?_
    exact trivial
  case hla13 => exact ⟨⟨_, _, rfl, rfl, fun γ => ⟨rfl, fun w' => rfl⟩⟩, trivial⟩
  intro γ w11 l hM hl
  have M11 : Mm w11 [(g, [x.2, Value.slice (some ⟨gu, 0, none⟩) m cu, Value.bool true])] := H10.out.1.grow hM (Nat.le_refl _) hl [] rfl (by decide)
  have B11 : Sg w g S x.2 (rN n F (min a.toNat m)) (rP P F (min a.toNat m)) w11 := Sg.below H10.out.2 (hM.below)
  clear hM hl l H10
  clear γ
  have H11 : Hid (_ ∧ _) := ⟨M11, B11⟩
  clear M11 B11
  obtain ⟨vt, w12, hr, hO, hG, h5⟩ := own_appQ H11.out.2.row (Nat.zero_le _) (Pt8.pre_ok (hok.out (min a.toNat m) hdm _ _ _ _ H11.out.2).1 (k := (min bt.toNat (F (min a.toNat m)).q.n)) (Nat.min_le_right _ _)) (hok.out (min a.toNat m) hdm _ _ _ _ H11.out.2).2.1 (Pt8.pre_rs (hok.out (min a.toNat m) hdm _ _ _ _ H11.out.2).2.2 (Nat.min_le_right _ _)) (hbt.out) 34
  refine ⟨vt, w12, ex_app rfl rfl rfl hr, ?_⟩
  have hM : Mm w12 [(g, [x.2, Value.slice (some ⟨gu, 0, none⟩) m cu, Value.bool true])] := (Chg.grown hG).mm (H11.out.1.one 0 rfl) (fun p hp => by obtain rfl := List.mem_singleton.1 hp; exact H11.out.2.ng hgS.out hg.out)
  have hs2 : Hid _ := own_st hO
  have H12 : Hid (Mm w12 [(g, [x.2, Value.slice (some ⟨gu, 0, none⟩) m cu, Value.bool true])] ∧ Sg w g S vt (rN n F (min a.toNat m) + (min bt.toNat (F (min a.toNat m)).q.n)) (ct (rP P F (min a.toNat m)) (rN n F (min a.toNat m)) (F (min a.toNat m)).q.f) w12) := ⟨hM, H11.out.2.on (Chg.grown hG) hO (vbl_new h5 (Nat.le_refl _) rfl)⟩
  clear hr hO hG h5 hM H11
  refine rest_at (l := [12, 13, 14]) rfl ?_
  refine rest_set (d := 69) (v := PT g 0) (w' := w12) rfl rfl rfl (by go_simp) ?_
  simp only [Act.put, sa, sz, ss]
  refine rest_set (d := 70) (v := PT g 0) (w' := w12) rfl rfl rfl (by go_simp) ?_
  simp only [Act.put, sa, sz, ss]
  refine rest_store rfl rfl rfl (ex_st1 (v := vt) H12.out.1 0 rfl rfl Try.sizeOf34 rfl rfl (hs2.out) (Nat.le_of_ble_eq_true rfl)) ?_
  have H13 : Hid (Mm (w12.setCells g 0 [vt]) [(g, [vt, Value.slice (some ⟨gu, 0, none⟩) m cu, Value.bool true])] ∧ Sg w g S vt (rN n F (min a.toNat m) + (min bt.toNat (F (min a.toNat m)).q.n)) (ct (rP P F (min a.toNat m)) (rN n F (min a.toNat m)) (F (min a.toNat m)).q.f) (w12.setCells g 0 [vt])) := ⟨H12.out.1.put 0 (off := 0) (vs := [vt]) rfl (Nat.le_of_ble_eq_true rfl), H12.out.2.put hgS.out hg.out _ _⟩
  clear H12
  generalize hgw : World.setCells _ _ _ _ = w13 at H13 ⊢
  clear hgw
  refine rest_nil (then_normal (wp_seq ?_))
  refine sq_start (l := [0, 1, 2, 3, 4, 5, 6, 7, 8, 9, 10, 11]) rfl ?_
  refine rest_set (d := 71) (v := PT g 0) (w' := w13) rfl rfl rfl (rfl) ?_
  simp only [Act.put, sa, sz, ss]
  refine rest_set (d := 72) (v := PT g 0) (w' := w13) rfl rfl rfl (by go_simp) ?_
  simp only [Act.put, sa, sz, ss]
  refine rest_set (d := 73) (v := PT g 2) (w' := w13) rfl rfl rfl (by go_simp) ?_
  simp only [Act.put, sa, sz, ss]
  refine rest_set (d := 74) (v := .bool true) (w' := w13) rfl rfl rfl (ex_loadC H13.out.1 0 rfl rfl rfl Try.isAgg4 rfl) ?_
  simp only [Act.put, sa, sz, ss]
  refine rest_set (d := 75) (v := .bool false) (w' := w13) rfl rfl rfl (by go_simp) ?_
  simp only [Act.put, sa, sz, ss]
  refine rest_set (d := 76) (v := .bool false) (w' := w13) rfl rfl rfl (rfl) ?_
  simp only [Act.put, sa, sz, ss]
  refine rest_set (d := 77) (v := .int .i64 ((min a.toNat m : Nat) : Int)) (w' := w13) rfl rfl rfl (rfl) ?_
  simp only [Act.put, sa, sz, ss]
  refine rest_set (d := 78) (v := .int .i64 ((min bt.toNat (F (min a.toNat m)).q.n : Nat) : Int)) (w' := w13) rfl rfl rfl (rfl) ?_
  simp only [Act.put, sa, sz, ss]
  refine rest_set (d := 79) (v := .int .i64 (((min a.toNat m) + (min bt.toNat (F (min a.toNat m)).q.n) : Nat) : Int)) (w' := w13) rfl rfl rfl (by have hbq := hbt.out; go_simp; rw [IntKind.wrap_i64]; omega) ?_
  simp only [Act.put, sa, sz, ss]
  refine rest_set (d := 80) (v := .bool (decide (0 < (min a.toNat m) + (min bt.toNat (F (min a.toNat m)).q.n)))) (w' := w13) rfl rfl rfl (by go_simp; omega) ?_
  simp only [Act.put, sa, sz, ss]
  refine rest_set (d := 81) (v := .bool (decide (0 < (min a.toNat m) + (min bt.toNat (F (min a.toNat m)).q.n)))) (w' := w13) rfl rfl rfl (by go_simp) ?_
  simp only [Act.put, sa, sz, ss]
  refine rest_set (d := 12) (v := .bool (decide (0 < (min a.toNat m) + (min bt.toNat (F (min a.toNat m)).q.n)))) (w' := w13) rfl rfl rfl (rfl) ?_
  simp only [Act.put, sa, sz, ss]
  refine rest_nil (then_normal (wp_seq ?_))
  refine sq_start (l := [0, 1, 2, 3, 4, 5, 6, 7]) rfl ?_
  refine rest_set (d := 82) (v := PT g 0) (w' := w13) rfl rfl rfl (rfl) ?_
  simp only [Act.put, sa, sz, ss]
  refine rest_set (d := 83) (v := PT g 0) (w' := w13) rfl rfl rfl (rfl) ?_
  simp only [Act.put, sa, sz, ss]
  refine rest_set (d := 84) (v := PT g 0) (w' := w13) rfl rfl rfl (by go_simp) ?_
  simp only [Act.put, sa, sz, ss]
  refine rest_set (d := 85) (v := PT g 1) (w' := w13) rfl rfl rfl (by go_simp) ?_
  simp only [Act.put, sa, sz, ss]
  refine rest_store rfl rfl rfl (ex_st1 (v := .slice none 0 0) H13.out.1 0 rfl rfl Try.sizeOf115 rfl rfl (rfl) (Nat.le_of_ble_eq_true rfl)) ?_
  have H14 : Hid (Mm (w13.setCells g 1 [Value.slice none 0 0]) [(g, [vt, Value.slice none 0 0, Value.bool true])] ∧ Sg w g S vt (rN n F (min a.toNat m) + (min bt.toNat (F (min a.toNat m)).q.n)) (ct (rP P F (min a.toNat m)) (rN n F (min a.toNat m)) (F (min a.toNat m)).q.f) (w13.setCells g 1 [Value.slice none 0 0])) := ⟨H13.out.1.put 0 (off := 1) (vs := [Value.slice none 0 0]) rfl (Nat.le_of_ble_eq_true rfl), H13.out.2.put hgS.out hg.out _ _⟩
  clear H13
  generalize hgw : World.setCells _ _ _ _ = w14 at H14 ⊢
  clear hgw
  refine rest_set (d := 86) (v := PT g 0) (w' := w14) rfl rfl rfl (by go_simp) ?_
  simp only [Act.put, sa, sz, ss]
  refine rest_set (d := 87) (v := PT g 2) (w' := w14) rfl rfl rfl (by go_simp) ?_
  simp only [Act.put, sa, sz, ss]
  refine rest_store rfl rfl rfl (ex_st1 (v := .bool false) H14.out.1 0 rfl rfl Try.sizeOf4 rfl rfl (rfl) (Nat.le_of_ble_eq_true rfl)) ?_
  have H15 : Hid (Mm (w14.setCells g 2 [Value.bool false]) [(g, [vt, Value.slice none 0 0, Value.bool false])] ∧ Sg w g S vt (rN n F (min a.toNat m) + (min bt.toNat (F (min a.toNat m)).q.n)) (ct (rP P F (min a.toNat m)) (rN n F (min a.toNat m)) (F (min a.toNat m)).q.f) (w14.setCells g 2 [Value.bool false])) := ⟨H14.out.1.put 0 (off := 2) (vs := [Value.bool false]) rfl (Nat.le_of_ble_eq_true rfl), H14.out.2.put hgS.out hg.out _ _⟩
  clear H14
  generalize hgw : World.setCells _ _ _ _ = w15 at H15 ⊢
  clear hgw
  refine rest_nil (then_normal (wp_seq ?_))
  refine sq_start (l := [0, 1]) rfl ?_
  refine rest_set (d := 88) (v := .bool (decide (0 < (min a.toNat m) + (min bt.toNat (F (min a.toNat m)).q.n)))) (w' := w15) rfl rfl rfl (rfl) ?_
  simp only [Act.put, sa, sz, ss]
  refine rest_set (d := 6) (v := .bool (decide (0 < (min a.toNat m) + (min bt.toNat (F (min a.toNat m)).q.n)))) (w' := w15) rfl rfl rfl (rfl) ?_
  simp only [Act.put, sa, sz, ss]
  refine rest_nil (then_normal (wp_ret ?_))
  repeat (first | refine then_ret ?_ | refine block_ret ?_)
  refine bodyPost_ret (v := .bool (decide (0 < (min a.toNat m) + (min bt.toNat (F (min a.toNat m)).q.n)))) (by simp [results, Try.results73, go_sem, *]) rfl ?_
  exact ⟨rfl, vt, H15.out.1, H15.out.2⟩
end Wi
end Rg
end Go.Proofs.Ytidicdlfjdlpnaa
end
section
namespace Go.Proofs.Ytidicdlfjdlpnaa
open Go.RowKit
namespace Rg
namespace Wi
set_option maxRecDepth 100000
def opF (l : List Uop) (i : Nat) : Uop := l.getD i Uop.no
theorem opF_at {l : List Uop} {i : Nat} (h : i < l.length) : l[i]? = some (opF l i) := by
  unfold opF
  rw [List.getD_eq_getElem?_getD, List.getElem?_eq_getElem h]
  rfl
theorem opF_mem {l : List Uop} {i : Nat} (h : i < l.length) : opF l i ∈ l := List.mem_of_getElem? (opF_at h)
theorem opF_app {l : List Uop} (o : Uop) {i : Nat} (h : i < l.length) : opF (l ++ [o]) i = opF l i := by
  unfold opF
  rw [List.getD_eq_getElem?_getD, List.getD_eq_getElem?_getD, List.getElem?_append_left h]
theorem opF_last (l : List Uop) (o : Uop) : opF (l ++ [o]) l.length = o := by
  unfold opF
  rw [List.getD_eq_getElem?_getD, List.getElem?_append_right (Nat.le_refl _), Nat.sub_self]
  rfl
theorem rN_cg (n : Nat) {F G : Nat → Uop} : ∀ {i : Nat}, (∀ j, j < i → F j = G j) → rN n F i = rN n G i
  | 0, _ => rfl
  | i + 1, h => by
    show (F i).st + (F i).q.n = (G i).st + (G i).q.n
    rw [h i (Nat.lt_succ_self _)]
/-- A file. -/
structure Fq where
  nm : ByteArray
  g : Nat
  s : Value
  u : Value
  n : Nat
  P : Nat → Nat
  ops : List Uop
  fr : Bool
/-- How many operations are under way; how many bytes the content has, and which. -/
def Fq.m (f : Fq) : Nat := f.ops.length
def Fq.N (f : Fq) : Nat := rN f.n (opF f.ops) f.ops.length
def Fq.C (f : Fq) : Nat → Nat := rP f.P (opF f.ops) f.ops.length
def Fq.bl (f : Fq) : List Nat := f.g :: fbl f.s f.u f.ops
structure FOk (w : World) (f : Fq) : Prop where
  cel : Mm w [(f.g, [f.s, f.u, Value.bool f.fr])]
  fi : Fi f.s f.u f.n f.P f.ops w
  ap : Apt f.g f.s f.u f.ops
  vl : ∀ i, i < f.ops.length → (opF f.ops i).st ≤ rN f.n (opF f.ops) i ∧ (opF f.ops i).st + (opF f.ops i).q.n ≤ 1048576 ∧ ((opF f.ops i).st = rN f.n (opF f.ops) i ∨ (opF f.ops i).q.n = 0)
  n1 : f.n ≤ 1048576
  m1 : f.ops.length ≤ 1000000
section
variable {w w' : World} {f : Fq}
theorem FOk.glt (h : FOk w f) : f.g < w.heap.size := (h.cel.blk _ (List.mem_cons_self ..)).1
theorem FOk.lt (h : FOk w f) : ∀ x ∈ f.bl, x < w.heap.size := fun x hx => by
  rcases List.mem_cons.1 hx with e | e
  · subst e; exact h.glt
  · exact h.fi.lt x e
theorem FOk.chg {L : List Nat} (h : FOk w f) (hc : Chg L w w') (hn : ∀ x ∈ f.bl, x ∉ L) : FOk w' f :=
  ⟨hc.mm h.cel (fun p hp => by obtain rfl := List.mem_singleton.1 hp; exact hn _ (List.mem_cons_self ..)), h.fi.chg hc (fun x hx => hn x (List.mem_cons_of_mem _ hx)), h.ap, h.vl, h.n1, h.m1⟩
theorem FOk.below (h : FOk w f) (hb : Below w.heap.size w w') : FOk w' f := h.chg (L := []) (Chg.of hb) (fun _ _ hx => by cases hx)
theorem FOk.N1 (h : FOk w f) : f.N ≤ 1048576 := by
  unfold Fq.N
  cases hm : f.ops.length with
  | zero => exact h.n1
  | succ k => exact (h.vl k (by omega)).2.1
/-- The operations under way, where there are some. -/
theorem FOk.und (h : FOk w f) (hm : 0 < f.ops.length) : ∃ gu cu, f.u = .slice (some ⟨gu, 0, none⟩) f.ops.length cu ∧ f.ops.length ≤ cu ∧ gu < w.heap.size ∧ gu ∉ f.g :: vbl f.s ∧ ∀ i, i < f.ops.length → w.cell? ⟨gu, 2 * i, none⟩ = some (.int .i64 ((opF f.ops i).st : Int)) ∧ w.cell? ⟨gu, 2 * i + 1, none⟩ = some (.slice (opF f.ops i).q.p (opF f.ops i).q.n (opF f.ops i).q.cp) := by
  rcases h.fi.und.2 with ⟨_, h2⟩ | ⟨gu, cu, cur, h1, h2, h3, h4, h5⟩
  · omega
  · have hmem : gu ∈ vbl f.u := by rw [h1]; unfold vbl; simp [Value.ownBlock]
    refine ⟨gu, cu, h1, h4, own_lt h.fi.und gu hmem, fun hx => ?_, fun i hi => ?_⟩
    · rcases List.mem_cons.1 hx with e | e
      · subst e; exact h.ap.gu hmem
      · exact h.ap.su gu e hmem
    · obtain ⟨g2, c2, e2, h6, h7⟩ := h.fi.opAt (opF_at hi)
      rw [h1] at e2
      injection e2 with e3
      injection e3 with e4
      injection e4 with e5
      subst e5
      exact ⟨h6, h7⟩
theorem FOk.bare (h : FOk w f) (hm : f.ops.length = 0) : ∃ pu cu, f.u = .slice pu 0 cu := by
  obtain ⟨p, c, e, _⟩ := own_slice h.fi.und
  exact ⟨p, c, by rw [e, hm]⟩
end
theorem size_f (f : Fq) (w : World) (h : FOk w f) : Calls Try.prog 68 #[PT f.g 0] w fun e w' => e = .returned (.int .i64 ((f.N : Nat) : Int)) ∧ Below w.heap.size w w' := by
  obtain ⟨ps, cs, es, _⟩ := own_slice h.fi.row
  have hc := h.cel
  unfold Fq.N
  by_cases hm : f.ops.length = 0
  · obtain ⟨pu, cu, eu⟩ := h.bare hm
    rw [eu, es] at hc
    rw [hm]
    exact size_nil f.g ps pu f.n cs cu f.fr w hc
  · obtain ⟨gu, cu, eu, h1, h2, h3, h4⟩ := h.und (by omega)
    rw [eu] at hc
    obtain ⟨k, hk⟩ : ∃ k, f.ops.length = k + 1 := ⟨f.ops.length - 1, by omega⟩
    have := size_F f.g gu f.s f.ops.length cu f.fr (opF f.ops k) (by omega) h.m1 (Nat.le_trans (h.vl k (by omega)).2.1 (by omega)) w hc h2 (by
      rw [show f.ops.length - 1 = k by omega]
      exact h4 k (by omega))
    rw [hk]
    exact this
/-- What a crash that keeps a operations and bt bytes of the next one leaves. -/
def Fq.dn (f : Fq) (a : Int) : Nat := min a.toNat f.ops.length
def Fq.tn (f : Fq) (a bt : Int) : Nat := if f.dn a < f.ops.length then min bt.toNat (opF f.ops (f.dn a)).q.n else 0
def Fq.sN (f : Fq) (a bt : Int) : Nat := rN f.n (opF f.ops) (f.dn a) + f.tn a bt
def Fq.sP (f : Fq) (a : Int) : Nat → Nat := ct (rP f.P (opF f.ops) (f.dn a)) (rN f.n (opF f.ops) (f.dn a)) (opF f.ops (f.dn a)).q.f
def Fq.there (f : Fq) (a bt : Int) : Bool := !f.fr || decide (0 < f.dn a + f.tn a bt)
theorem Sg.cg {w w' : World} {g n n2 : Nat} {S s : Value} {P P2 : Nat → Nat} (h : Sg w g S s n P w') (hn : n = n2) (e : ∀ j, j < n → P j = P2 j) : Sg w g S s n2 P2 w' := by
  subst hn
  exact ⟨h.ch, own_cg h.row e, h.bl⟩
theorem ct_low (P : Nat → Nat) (n : Nat) (Q : Nat → Nat) (j : Nat) (h : j < n) : P j = ct P n Q j := by
  unfold ct
  rw [if_pos h]
theorem Fq.rN_le {w : World} {f : Fq} (h : FOk w f) (i : Nat) (hi : i ≤ f.ops.length) : rN f.n (opF f.ops) i ≤ 1048576 := by
  cases i with
  | zero => exact h.n1
  | succ k => exact (h.vl k (by omega)).2.1
theorem settle_f (f : Fq) (a bt : Int) (w : World) (h : FOk w f) : Calls Try.prog 73 #[PT f.g 0, .int .i64 a, .int .i64 bt] w fun e w' => e = .returned (.bool (f.there a bt)) ∧ ∃ s', Mm w' [(f.g, [s', Value.slice none 0 0, Value.bool false])] ∧ Sg w f.g f.s s' (f.sN a bt) (f.sP a) w' := by
  have hc := h.cel
  by_cases hm : f.ops.length = 0
  · obtain ⟨pu, cu, eu⟩ := h.bare hm
    have hd : f.dn a = 0 := by unfold Fq.dn; rw [hm, Nat.min_zero]
    have ht : f.tn a bt = 0 := by unfold Fq.tn; rw [hd, if_neg (by omega)]
    have fin : ∀ (s' : Value) (w' : World), Sg w f.g f.s s' f.n f.P w' → Sg w f.g f.s s' (f.sN a bt) (f.sP a) w' := fun s' w' hs => hs.cg (by unfold Fq.sN; rw [hd, ht]; rfl) (fun j hj => by unfold Fq.sP; rw [hd]; exact ct_low _ _ _ j hj)
    rw [eu] at hc
    cases hf : f.fr with
    | false =>
      rw [hf] at hc
      refine (settle_none_old f.g f.s f.n f.P a bt cu pu w hc h.glt h.ap.gs h.fi.row).mono fun e w' hh => ?_
      obtain ⟨h1, s', h2, h3⟩ := hh
      exact ⟨by rw [h1]; unfold Fq.there; rw [hf]; rfl, s', h2, fin s' w' h3⟩
    | true =>
      rw [hf] at hc
      refine (settle_none_new f.g f.s f.n f.P a bt cu pu w hc h.glt h.ap.gs h.fi.row).mono fun e w' hh => ?_
      obtain ⟨h1, s', h2, h3⟩ := hh
      exact ⟨by rw [h1]; unfold Fq.there; rw [hf, hd, ht, Nat.min_zero]; rfl, s', h2, fin s' w' h3⟩
  · obtain ⟨gu, cu, eu, k1, k2, k3, k4⟩ := h.und (by omega)
    rw [eu] at hc
    have hv : ∀ i, i < f.ops.length → (opF f.ops i).st ≤ rN f.n (opF f.ops) i ∧ (opF f.ops i).st + (opF f.ops i).q.n ≤ 2097152 := fun i hi => ⟨(h.vl i hi).1, Nat.le_trans (h.vl i hi).2.1 (by omega)⟩
    have hok : ∀ i, i < f.ops.length → ∀ s' n' P' w', Sg w f.g f.s s' n' P' w' → (opF f.ops i).ok w' := fun i hi s' n' P' w' hs => (h.fi.opk _ (opF_mem hi)).keep hs.ch.size (fun x hx => hs.ch.block x (h.lt x (by
      unfold Fq.bl fbl
      simp only [List.mem_cons, List.mem_append, List.mem_flatMap]
      exact .inr (.inr (.inr ⟨_, opF_mem hi, hx⟩)))) (fun hm => by
      rcases List.mem_cons.1 hm with e | e
      · subst e; exact h.ap.go _ (opF_mem hi) hx
      · exact h.ap.so x e _ (opF_mem hi) hx))
    by_cases hd : min a.toNat f.ops.length = f.ops.length
    · have ht : f.tn a bt = 0 := by unfold Fq.tn Fq.dn; rw [hd, if_neg (Nat.lt_irrefl _)]
      have fin : ∀ (s' : Value) (w' : World), Sg w f.g f.s s' (rN f.n (opF f.ops) (min a.toNat f.ops.length)) (rP f.P (opF f.ops) (min a.toNat f.ops.length)) w' → Sg w f.g f.s s' (f.sN a bt) (f.sP a) w' := fun s' w' hs => hs.cg (by unfold Fq.sN; rw [ht]; rfl) (fun j hj => by unfold Fq.sP; exact ct_low _ _ _ j hj)
      cases hf : f.fr with
      | false =>
        rw [hf] at hc
        refine (settle_all_old f.g f.s f.n f.P a bt cu gu f.ops.length (opF f.ops) h.m1 k1 hd w hc h.glt h.ap.gs h.fi.row k2 k3 k4 hv hok).mono fun e w' hh => ?_
        obtain ⟨h1, s', h2, h3⟩ := hh
        exact ⟨by rw [h1]; unfold Fq.there; rw [hf]; rfl, s', h2, fin s' w' h3⟩
      | true =>
        rw [hf] at hc
        refine (settle_all_new f.g f.s f.n f.P a bt cu gu f.ops.length (opF f.ops) h.m1 k1 hd w hc h.glt h.ap.gs h.fi.row k2 k3 k4 hv hok).mono fun e w' hh => ?_
        obtain ⟨h1, s', h2, h3⟩ := hh
        exact ⟨by rw [h1]; unfold Fq.there; rw [hf, ht]; rfl, s', h2, fin s' w' h3⟩
    · have hlt : min a.toNat f.ops.length < f.ops.length := by omega
      have ht : f.tn a bt = min bt.toNat (opF f.ops (min a.toNat f.ops.length)).q.n := by unfold Fq.tn Fq.dn; rw [if_pos hlt]
      have hbt : rN f.n (opF f.ops) (min a.toNat f.ops.length) + min bt.toNat (opF f.ops (min a.toNat f.ops.length)).q.n ≤ 2097152 := by
        have e1 := Fq.rN_le h (min a.toNat f.ops.length) (by omega)
        have e2 := (h.vl _ hlt).2.1
        omega
      have htc : min bt.toNat (opF f.ops (min a.toNat f.ops.length)).q.n ≤ (opF f.ops (min a.toNat f.ops.length)).q.cp := Nat.le_trans (Nat.min_le_right _ _) (h.fi.opk _ (opF_mem hlt)).1.2
      have fin : ∀ (s' : Value) (w' : World), Sg w f.g f.s s' (rN f.n (opF f.ops) (min a.toNat f.ops.length) + min bt.toNat (opF f.ops (min a.toNat f.ops.length)).q.n) (ct (rP f.P (opF f.ops) (min a.toNat f.ops.length)) (rN f.n (opF f.ops) (min a.toNat f.ops.length)) (opF f.ops (min a.toNat f.ops.length)).q.f) w' → Sg w f.g f.s s' (f.sN a bt) (f.sP a) w' := fun s' w' hs => hs.cg (by unfold Fq.sN; rw [ht]; rfl) (fun j _ => rfl)
      cases hf : f.fr with
      | false =>
        rw [hf] at hc
        refine (settle_part_old f.g f.s f.n f.P a bt cu gu f.ops.length (opF f.ops) h.m1 k1 hlt w hc h.glt h.ap.gs h.fi.row k2 k3 k4 hv hok hbt htc).mono fun e w' hh => ?_
        obtain ⟨h1, s', h2, h3⟩ := hh
        exact ⟨by rw [h1]; unfold Fq.there; rw [hf]; rfl, s', h2, fin s' w' h3⟩
      | true =>
        rw [hf] at hc
        refine (settle_part_new f.g f.s f.n f.P a bt cu gu f.ops.length (opF f.ops) h.m1 k1 hlt w hc h.glt h.ap.gs h.fi.row k2 k3 k4 hv hok hbt htc).mono fun e w' hh => ?_
        obtain ⟨h1, s', h2, h3⟩ := hh
        exact ⟨by rw [h1]; unfold Fq.there; rw [hf, ht]; rfl, s', h2, fin s' w' h3⟩
/-- The file then. -/
def Fq.set (f : Fq) (s : Value) (a bt : Int) : Fq := ⟨f.nm, f.g, s, .slice none 0 0, f.sN a bt, f.sP a, [], false⟩
theorem FOk.settled {w w' : World} {f : Fq} (h : FOk w f) {s' : Value} {a bt : Int} (hm : Mm w' [(f.g, [s', Value.slice none 0 0, Value.bool false])]) (hs : Sg w f.g f.s s' (f.sN a bt) (f.sP a) w') : FOk w' (f.set s' a bt) ∧ Chg f.bl w w' ∧ ∀ x ∈ (f.set s' a bt).bl, x ∈ f.bl ∨ w.heap.size ≤ x := by
  have hbs : ∀ x ∈ vbl f.s, x ∈ f.bl := fun x hx => by unfold Fq.bl fbl; simp [hx]
  have hle : f.sN a bt ≤ 1048576 := by
    unfold Fq.sN Fq.tn
    have e1 := Fq.rN_le h (f.dn a) (Nat.min_le_right _ _)
    split
    · rename_i hlt
      obtain ⟨_, e4, e5⟩ := h.vl _ hlt
      have e3 := Nat.min_le_right bt.toNat (opF f.ops (f.dn a)).q.n
      rcases e5 with e5 | e5 <;> omega
    · omega
  have hgs : f.g ∉ vbl s' := hs.ng h.ap.gs h.glt
  refine ⟨⟨hm, ⟨hs.row, World.ownsRow_nil _ _ _ _, fun o ho => (by cases ho)⟩, ⟨hgs, fun hx => (by cases hx), fun o ho => (by cases ho), fun x _ hx => (by cases hx), fun x _ o ho => (by cases ho), fun x hx => (by cases hx)⟩, fun i hi => absurd hi (Nat.not_lt_zero _), hle, Nat.zero_le _⟩, hs.ch.mono (fun x hx => .inl ?_), fun x hx => ?_⟩
  · rcases List.mem_cons.1 hx with e | e
    · subst e; exact List.mem_cons_self ..
    · exact hbs x e
  · rcases List.mem_cons.1 hx with e | e
    · exact .inl (by rw [e]; exact List.mem_cons_self ..)
    · have e2 : x ∈ vbl s' := by
        unfold Fq.set fbl at e
        simpa [Value.ownBlock] using e
      exact (hs.bl x e2).imp_left (hbs x)
/-- The file with one operation more. -/
def Fq.more (f : Fq) (u : Value) (o : Uop) : Fq := ⟨f.nm, f.g, f.s, u, f.n, f.P, f.ops ++ [o], f.fr⟩
theorem begin_f (f : Fq) (o : Uop) (w : World) (h : FOk w f) (hm : f.ops.length < 1000000) (ho : o.ok w) (ha : ∀ x ∈ uob o, x ∉ f.bl) (h1 : o.st ≤ f.N) (h2 : o.st + o.q.n ≤ 1048576) (h3 : o.st = f.N ∨ o.q.n = 0) :
    Calls Try.prog 69 #[PT f.g 0, .agg ([.int .i64 ((o.st : Nat) : Int), .slice o.q.p o.q.n o.q.cp] : List Value).toArray] w fun e w' => e = .returned (.tuple #[]) ∧ ∃ u', FOk w' (f.more u' o) ∧ Chg f.bl w w' ∧ ∀ x ∈ vbl u', x ∈ f.bl ∨ w.heap.size ≤ x := by
  obtain ⟨ps, cs, es, _⟩ := own_slice h.fi.row
  obtain ⟨pu, cu, eu, _⟩ := own_slice h.fi.und
  have hc := h.cel
  have hfi := h.fi
  have hap := h.ap
  rw [es, eu] at hc hfi hap
  have hub : ∀ x ∈ vbl f.u, x ∈ f.bl := fun x hx => by unfold Fq.bl fbl; simp [hx]
  have hgu : ∀ x ∈ f.g :: vbl (Value.slice pu f.ops.length cu), x ∈ f.bl := fun x hx => by
    rw [← eu] at hx
    rcases List.mem_cons.1 hx with e | e
    · subst e; exact List.mem_cons_self ..
    · exact hub x e
  refine (begin_any f.g ps pu f.n cs cu f.fr f.P f.ops o (by omega) w hc hfi hap ho (fun x hx hx2 => ha x hx (hgu x hx2))).mono fun e w' hh => ?_
  obtain ⟨e1, u', e2, e3, e4, e5⟩ := hh
  rw [← es] at e2 e3
  have e6 : ∀ x ∈ vbl u', x ∈ vbl f.u ∨ w.heap.size ≤ x := by rw [eu]; exact e5
  have hcg : ∀ i, i ≤ f.ops.length → rN f.n (opF (f.ops ++ [o])) i = rN f.n (opF f.ops) i := fun i hi => rN_cg f.n (fun j hj => opF_app o (by omega))
  refine ⟨e1, u', ⟨e2, e3, ?_, fun i hi => ?_, h.n1, ?_⟩, e4.mono (fun x hx => .inl (hgu x hx)), fun x hx => (e6 x hx).imp_left (hub x)⟩
  · refine h.ap.begun (B := w.heap.size) h.lt e6 (fun x hx => ⟨?_, ha x hx⟩)
    unfold uob at hx
    split at hx
    · simp at hx
    · simp at hx
      subst hx
      exact ho.2.2.lt (by omega)
  · have hi2 : i < f.ops.length + 1 := by simpa [Fq.more] using hi
    show (opF (f.ops ++ [o]) i).st ≤ rN f.n (opF (f.ops ++ [o])) i ∧ (opF (f.ops ++ [o]) i).st + (opF (f.ops ++ [o]) i).q.n ≤ 1048576 ∧ ((opF (f.ops ++ [o]) i).st = rN f.n (opF (f.ops ++ [o])) i ∨ (opF (f.ops ++ [o]) i).q.n = 0)
    rcases Nat.lt_or_eq_of_le (Nat.le_of_lt_succ hi2) with hl | hl
    · rw [opF_app o hl, hcg i (by omega)]
      exact h.vl i hl
    · subst hl
      rw [opF_last, hcg _ (Nat.le_refl _)]
      exact ⟨h1, h2, h3⟩
  · show (f.ops ++ [o]).length ≤ 1000000
    rw [List.length_append]
    show f.ops.length + 1 ≤ 1000000
    omega
end Wi
end Rg
end Go.Proofs.Ytidicdlfjdlpnaa
end
section
namespace Go.Proofs.Ytidicdlfjdlpnaa
open Go.RowKit
namespace Rg
namespace Wi
theorem call64 : ∀ args w, (callFunc 64 args).run Try.prog w = .ok (.enter 64 args) w := by intro args w; go_simp
set_option maxRecDepth 100000
/-- How a pointer to a file reads. -/
def RF : Value → Option (DataW Nat × List MemPlace)
  | .pointer (some ⟨g, 0, none⟩) => some (.held g, [])
  | .pointer none => some (.nil, [])
  | _ => none
theorem RF_held {v : Value} {g : Nat} {ps : List MemPlace} (h : RF v = some (.held g, ps)) : v = PT g 0 := by
  unfold RF at h
  split at h
  · simp at h
    rw [h.1]
  · simp at h
  · cases h
theorem RF_nil {v : Value} {ps : List MemPlace} (h : RF v = some (.nil, ps)) : v = .pointer none := by
  unfold RF at h
  split at h
  · simp at h
  · rfl
  · cases h
def RU : Value → Option (DataW Nat × List MemPlace)
  | .agg ⟨[]⟩ => some (.nil, [])
  | _ => none
theorem RU_inv {v : Value} {z : DataW Nat × List MemPlace} (h : RU v = some z) : v = .agg ([] : List Value).toArray := by
  unfold RU at h
  split at h
  · rfl
  · cases h
structure Dq where
  d : Nat
  mb : Nat
  rb : Nat
  k : Nat
  fs : List Fq
  rf : Nat → Bool
def lk (fs : List Fq) (s : ByteArray) : Option Fq := fs.find? (fun f => decide (f.nm = s))
def dv : Option Fq → DataW Nat
  | some f => .held f.g
  | none => .nil
def pv : Option Fq → Value
  | some f => PT f.g 0
  | none => .pointer none
/-- A text as a map's key. -/
abbrev ky (s : ByteArray) : Lit := .string s.data.toList
structure DOk (w : World) (D : Dq) : Prop where
  cel : Mm w [(D.d, [Value.map (some D.mb), Value.map (some D.rb), Value.int .i64 ((D.k : Nat) : Int)])]
  mp : ∃ X, w.ownsMap Try.prog 9 RF D.mb D.fs.length X ∧ (∀ s, X.atKey (ky s) .nil = dv (lk D.fs s)) ∧ (∀ s, Maps.has X (ky s) = (lk D.fs s).isSome) ∧ Maps.size X = D.fs.length
  rm : ∃ n Y, w.ownsMap Try.prog 3 RU D.rb n Y ∧ ∀ i : Nat, i < 4611686018427387905 → Maps.has Y (.int .i64 (i : Int)) = D.rf i
  fl : ∀ f ∈ D.fs, FOk w f
  ap : ∀ f ∈ D.fs, ∀ g ∈ D.fs, f.nm ≠ g.nm → ∀ x ∈ f.bl, x ∉ g.bl
  hd : ∀ f ∈ D.fs, ∀ x ∈ f.bl, x ≠ D.d ∧ x ≠ D.mb ∧ x ≠ D.rb
  h3 : D.d ≠ D.mb ∧ D.d ≠ D.rb ∧ D.mb ≠ D.rb
  un : (D.fs.map Fq.nm).Nodup
  k1 : D.k < 4611686018427387904
  n64 : D.fs.length ≤ 64
theorem ownMap_keep {w w' : World} {k : TypeId} {R : Value → Option (DataW Nat × List MemPlace)} {b n : Nat} {D : DataW Nat} (h : w.ownsMap Try.prog k R b n D) (hb : w'.heap[b]? = w.heap[b]?) : w'.ownsMap Try.prog k R b n D := by
  obtain ⟨es, clock, h1, h2, h3, h4⟩ := h
  exact ⟨es, clock, hb.trans h1, h2, h3, h4⟩
theorem lk_mem {fs : List Fq} {s : ByteArray} {f : Fq} (h : lk fs s = some f) : f ∈ fs ∧ f.nm = s := by
  unfold lk at h
  exact ⟨List.mem_of_find?_eq_some h, by have e := List.find?_some h; exact of_decide_eq_true e⟩
theorem DOk.look {w u : World} {D : Dq} (h : DOk w D) (s : ByteArray) (hs : s.size ≤ maxLen) (hu : u.heap[D.mb]? = w.heap[D.mb]?) : (Instr.lookup 39 (.map (some D.mb)) (.string s) false).run Try.prog u = .ok (pv (lk D.fs s)) u := by
  obtain ⟨X, h1, h2, _, _⟩ := h.mp
  obtain ⟨v, ps, hr, hv⟩ := (ownMap_keep h1 hu).lookup (Maps.string_keyed Try.underlying9) Try.underlying39 (z := .pointer none) (by kernel_rfl) (zd := .nil) (zp := []) rfl (WideMaps.keyOf_string_mk Try.underlying9 hs)
  rw [hr]
  have e := h2 s
  unfold ky at e
  rw [e] at hv
  cases hl : lk D.fs s with
  | none =>
    rw [hl] at hv
    rw [RF_nil hv]
    rfl
  | some f =>
    rw [hl] at hv
    rw [RF_held hv]
    rfl
theorem Cw.up {w u u' : World} {v : Value} {n : Nat} {P : Nat → Nat} (hb : Below w.heap.size w u) (h : Cw u v n P u') : Cw w v n P u' := ⟨hb.trans (h.b.mono hb.size), own_base h.own hb.size⟩
set_option maxHeartbeats 2000000 in
set_option maxRecDepth 100000 in
theorem Pending_hit (d mb rb g m cu : Nat) (pu : Option Addr) (S : Value) (fr : Bool) (k : Int) (s : ByteArray) (w : World) (hm : Mm w [(d, [Value.map (some mb), Value.map (some rb), Value.int .i64 k]), (g, [S, Value.slice pu m cu, Value.bool fr])]) (hlk0 : ∀ u, Below w.heap.size w u → (Instr.lookup 39 (.map (some mb)) (.string s) false).run Try.prog u = .ok (PT g 0) u) :
    Calls Try.prog 27 #[PT d 0, .string s] w fun e w' => e = .returned (.int .i64 ((m : Nat) : Int)) ∧ Below w.heap.size w w' := by
  have H0 : Hid (_ ∧ _) := ⟨hm, Below.refl w.heap.size w⟩
  clear hm
  have hlk : Hid _ := hlk0
  clear hlk0
  go_enter Try.func27, Try.ntmps27
  refine wp_seq ?_
  refine sq_startW (l := [0]) rfl (fun u0 hu0 => ?_)
  have H1 : Hid (Mm u0 [(d, [Value.map (some mb), Value.map (some rb), Value.int .i64 k]), (g, [S, Value.slice pu m cu, Value.bool fr])] ∧ Below w.heap.size w u0) := by rw [hu0]; exact H0
  clear hu0 H0
  refine rest_set (d := 4) (v := .int .i64 0) (w' := u0) rfl rfl rfl (rfl) ?_
  simp only [Act.put, sa, sz, ss]
  refine rest_nil (then_normal (wp_seq ?_))
  refine sq_start (l := [0, 1, 2, 3, 4, 5, 6, 7]) rfl ?_
  refine rest_set (d := 8) (v := PT d 0) (w' := u0) rfl rfl rfl (rfl) ?_
  simp only [Act.put, sa, sz, ss]
  refine rest_set (d := 9) (v := .string s) (w' := u0) rfl rfl rfl (rfl) ?_
  simp only [Act.put, sa, sz, ss]
  refine rest_enter (d := 10) (R := fun vv w' => vv = .tuple #[PT g 0, .int .i64 0] ∧ Below u0.heap.size u0 w') rfl rfl rfl (exec_call (args := #[PT d 0, .string s]) rfl call64 rfl (mpn rfl)) (Calls.mono (find_hit d mb rb g k s u0 (H1.out.1.one 0 rfl) (fun u hu => hlk.out u (H1.out.2.trans (hu.mono H1.out.2.size)))) (fun e w2 hh => ⟨_, hh.1, rfl, hh.2⟩)) ?_
  rintro _ w2 ⟨rfl, hb⟩
  have H2 : Hid (Mm w2 [(d, [Value.map (some mb), Value.map (some rb), Value.int .i64 k]), (g, [S, Value.slice pu m cu, Value.bool fr])] ∧ Below w.heap.size w w2) := ⟨H1.out.1.below hb, H1.out.2.trans (hb.mono H1.out.2.size)⟩
  clear hb
  clear H1
  simp only [Act.put, sa, sz, ss]
  refine rest_set (d := 7) (v := .tuple #[PT g 0, .int .i64 0]) (w' := w2) rfl rfl rfl (rfl) ?_
  simp only [Act.put, sa, sz, ss]
  refine rest_set (d := 11) (v := PT g 0) (w' := w2) rfl rfl rfl (by go_simp) ?_
  simp only [Act.put, sa, sz, ss]
  refine rest_set (d := 12) (v := .int .i64 0) (w' := w2) rfl rfl rfl (by go_simp) ?_
  simp only [Act.put, sa, sz, ss]
  refine rest_set (d := 5) (v := PT g 0) (w' := w2) rfl rfl rfl (rfl) ?_
  simp only [Act.put, sa, sz, ss]
  refine rest_set (d := 6) (v := .int .i64 0) (w' := w2) rfl rfl rfl (rfl) ?_
  simp only [Act.put, sa, sz, ss]
  refine rest_nil (then_normal ?_)
  refine wp_seq (wp_seq ?_)
  refine sq_start (l := [0, 1]) rfl ?_
  refine rest_set (d := 13) (v := .int .i64 0) (w' := w2) rfl rfl rfl (rfl) ?_
  simp only [Act.put, sa, sz, ss]
  refine rest_set (d := 14) (v := .bool false) (w' := w2) rfl rfl rfl (by kernel_rfl) ?_
  simp only [Act.put, sa, sz, ss]
  refine rest_nil (then_normal ?_)
  refine wp_cond_false rfl (wp_skip ?_)
  refine then_normal (wp_seq ?_)
  refine sq_start (l := [0, 1, 2, 3, 4, 5]) rfl ?_
  refine rest_set (d := 15) (v := PT g 0) (w' := w2) rfl rfl rfl (rfl) ?_
  simp only [Act.put, sa, sz, ss]
  refine rest_set (d := 16) (v := PT g 0) (w' := w2) rfl rfl rfl (by go_simp) ?_
  simp only [Act.put, sa, sz, ss]
  refine rest_set (d := 17) (v := PT g 1) (w' := w2) rfl rfl rfl (by go_simp) ?_
  simp only [Act.put, sa, sz, ss]
  refine rest_set (d := 18) (v := .slice pu m cu) (w' := w2) rfl rfl rfl (ex_loadC H2.out.1 1 rfl rfl rfl Try.isAgg115 rfl) ?_
  simp only [Act.put, sa, sz, ss]
  refine rest_set (d := 19) (v := .int .i64 ((m : Nat) : Int)) (w' := w2) rfl rfl rfl (by go_simp) ?_
  simp only [Act.put, sa, sz, ss]
  refine rest_set (d := 4) (v := .int .i64 ((m : Nat) : Int)) (w' := w2) rfl rfl rfl (rfl) ?_
  simp only [Act.put, sa, sz, ss]
  refine rest_nil (then_normal (wp_ret ?_))
  repeat (first | refine then_ret ?_ | refine block_ret ?_)
  refine bodyPost_ret (v := .int .i64 ((m : Nat) : Int)) (by simp [results, Try.results27, go_sem, *]) rfl ?_
  exact ⟨rfl, H2.out.2⟩
set_option maxHeartbeats 2000000 in
set_option maxRecDepth 100000 in
theorem Pending_miss (d mb rb : Nat) (k : Int) (s : ByteArray) (w : World) (hm : Mm w [(d, [Value.map (some mb), Value.map (some rb), Value.int .i64 k])]) (hlk0 : ∀ u, Below w.heap.size w u → (Instr.lookup 39 (.map (some mb)) (.string s) false).run Try.prog u = .ok (.pointer none) u) :
    Calls Try.prog 27 #[PT d 0, .string s] w fun e w' => e = .returned (.int .i64 0) ∧ Below w.heap.size w w' := by
  have H0 : Hid (_ ∧ _) := ⟨hm, Below.refl w.heap.size w⟩
  clear hm
  have hlk : Hid _ := hlk0
  clear hlk0
  go_enter Try.func27, Try.ntmps27
  refine wp_seq ?_
  refine sq_startW (l := [0]) rfl (fun u0 hu0 => ?_)
  have H1 : Hid (Mm u0 [(d, [Value.map (some mb), Value.map (some rb), Value.int .i64 k])] ∧ Below w.heap.size w u0) := by rw [hu0]; exact H0
  clear hu0 H0
  refine rest_set (d := 4) (v := .int .i64 0) (w' := u0) rfl rfl rfl (rfl) ?_
  simp only [Act.put, sa, sz, ss]
  refine rest_nil (then_normal (wp_seq ?_))
  refine sq_start (l := [0, 1, 2, 3, 4, 5, 6, 7]) rfl ?_
  refine rest_set (d := 8) (v := PT d 0) (w' := u0) rfl rfl rfl (rfl) ?_
  simp only [Act.put, sa, sz, ss]
  refine rest_set (d := 9) (v := .string s) (w' := u0) rfl rfl rfl (rfl) ?_
  simp only [Act.put, sa, sz, ss]
  refine rest_enter (d := 10) (R := fun vv w' => vv = .tuple #[.pointer none, .int .i64 6] ∧ Below u0.heap.size u0 w') rfl rfl rfl (exec_call (args := #[PT d 0, .string s]) rfl call64 rfl (mpn rfl)) (Calls.mono (find_miss d mb rb k s u0 (H1.out.1.one 0 rfl) (fun u hu => hlk.out u (H1.out.2.trans (hu.mono H1.out.2.size)))) (fun e w2 hh => ⟨_, hh.1, rfl, hh.2⟩)) ?_
  rintro _ w2 ⟨rfl, hb⟩
  have H2 : Hid (Mm w2 [(d, [Value.map (some mb), Value.map (some rb), Value.int .i64 k])] ∧ Below w.heap.size w w2) := ⟨H1.out.1.below hb, H1.out.2.trans (hb.mono H1.out.2.size)⟩
  clear hb
  clear H1
  simp only [Act.put, sa, sz, ss]
  refine rest_set (d := 7) (v := .tuple #[.pointer none, .int .i64 6]) (w' := w2) rfl rfl rfl (rfl) ?_
  simp only [Act.put, sa, sz, ss]
  refine rest_set (d := 11) (v := .pointer none) (w' := w2) rfl rfl rfl (by go_simp) ?_
  simp only [Act.put, sa, sz, ss]
  refine rest_set (d := 12) (v := .int .i64 6) (w' := w2) rfl rfl rfl (by go_simp) ?_
  simp only [Act.put, sa, sz, ss]
  refine rest_set (d := 5) (v := .pointer none) (w' := w2) rfl rfl rfl (rfl) ?_
  simp only [Act.put, sa, sz, ss]
  refine rest_set (d := 6) (v := .int .i64 6) (w' := w2) rfl rfl rfl (rfl) ?_
  simp only [Act.put, sa, sz, ss]
  refine rest_nil (then_normal ?_)
  refine wp_seq (wp_seq ?_)
  refine sq_start (l := [0, 1]) rfl ?_
  refine rest_set (d := 13) (v := .int .i64 6) (w' := w2) rfl rfl rfl (rfl) ?_
  simp only [Act.put, sa, sz, ss]
  refine rest_set (d := 14) (v := .bool true) (w' := w2) rfl rfl rfl (by kernel_rfl) ?_
  simp only [Act.put, sa, sz, ss]
  refine rest_nil (then_normal ?_)
  refine wp_cond_true rfl (wp_seq ?_)
  refine sq_start (l := [0]) rfl ?_
  refine rest_set (d := 4) (v := .int .i64 0) (w' := w2) rfl rfl rfl (rfl) ?_
  simp only [Act.put, sa, sz, ss]
  refine rest_nil (then_normal (wp_ret ?_))
  repeat (first | refine then_ret ?_ | refine block_ret ?_)
  refine bodyPost_ret (v := .int .i64 0) (by simp [results, Try.results27, go_sem, *]) rfl ?_
  exact ⟨rfl, H2.out.2⟩
theorem Pending_f (D : Dq) (s : ByteArray) (hs : s.size ≤ maxLen) (w : World) (h : DOk w D) : Calls Try.prog 27 #[PT D.d 0, .string s] w fun e w' => e = .returned (.int .i64 (((match lk D.fs s with | some f => f.ops.length | none => 0) : Nat) : Int)) ∧ Below w.heap.size w w' := by
  have hlt : D.mb < w.heap.size := by obtain ⟨X, h1, _⟩ := h.mp; exact h1.lt
  cases hl : lk D.fs s with
  | none => exact Pending_miss D.d D.mb D.rb D.k s w h.cel (fun u hu => by rw [h.look s hs (hu.block _ hlt), hl]; rfl)
  | some f =>
    have hf := h.fl f (lk_mem hl).1
    obtain ⟨pu, cu, eu, _⟩ := own_slice hf.fi.und
    have hc := hf.cel
    rw [eu] at hc
    have hne : D.d ≠ f.g := fun e => ((h.hd f (lk_mem hl).1) f.g (List.mem_cons_self ..)).1 e.symm
    exact Pending_hit D.d D.mb D.rb f.g f.ops.length cu pu f.s f.fr D.k s w (hc.cons (h.cel.blk _ (List.mem_cons_self ..)).2 (h.cel.blk _ (List.mem_cons_self ..)).1 (fun p hp => by obtain rfl := List.mem_singleton.1 hp; exact hne.symm)) (fun u hu => by rw [h.look s hs (hu.block _ hlt), hl]; rfl)
end Wi
end Rg
end Go.Proofs.Ytidicdlfjdlpnaa
end
section
namespace Go.Proofs.Ytidicdlfjdlpnaa
open Go.RowKit
namespace Rg
namespace Wi
set_option maxRecDepth 100000
open Go.Shelf
attribute [local go_sem] Oper.semAt_some
/-- What a crash is told to keep of a file: a name, how many operations, how many bytes of the next one. -/
abbrev Kv := { x : ByteArray × Int × Int // x.1.size ≤ maxLen ∧ (Lit.int .i64 x.2.1).wf = true ∧ (Lit.int .i64 x.2.2).wf = true }
def kvv (x : Kv) : Value := .agg #[.string x.1.1, .int .i64 x.1.2.1, .int .i64 x.1.2.2]
def kv0 : Kv := ⟨(ByteArray.empty, 0, 0), by decide, by decide, by decide⟩
def kup {α : Type} (f : Nat → α) (k : Nat) : List α := (List.range k).map f
theorem kup_succ {α : Type} (f : Nat → α) (k : Nat) : kup f (k + 1) = kup f k ++ [f k] := by simp [kup, List.range_succ]
theorem kup_length {α : Type} (f : Nat → α) (k : Nat) : (kup f k).length = k := by simp [kup]
/-- What a round keeps: what lay below n₀, and the block of the slice. -/
def Kb (n₀ Bs : Nat) (W W' : World) : Prop := Below n₀ W W' ∧ W'.heap[Bs]? = W.heap[Bs]?
theorem Kb.refl (n₀ Bs : Nat) (W : World) : Kb n₀ Bs W W := ⟨Below.refl _ _, rfl⟩
theorem Kb.trans {n₀ Bs : Nat} {A B C : World} (h : Kb n₀ Bs A B) (k : Kb n₀ Bs B C) : Kb n₀ Bs A C := ⟨h.1.trans k.1, k.2.trans h.2⟩
theorem Kb.put {n₀ Bs : Nat} {w : World} (h1 : n₀ ≤ w.heap.size) (h2 : Bs < w.heap.size) (W : World) (l : Nat) (o o' : Obj) (hl : w.heap.size ≤ l) (ho : W.heap[l]? = some o) (hc : o.isCells = false) (hw : o.isWalk = false) : Kb n₀ Bs W (W.putObj l o') :=
  ⟨belowK_b h1 W l o o' hl ho hc hw, by simp [World.putObj]; rw [Array.getElem?_setIfInBounds_ne (by omega)]⟩
/-- The j-th pair that Backward hands on. -/
def kbk (len : Nat) (zs : Nat → Kv) (j : Nat) : Nat × Kv := (len - 1 - j, zs (len - 1 - j))
set_option maxHeartbeats 2000000 in
theorem back1_in (F : Fence) (n : Nat) (h8 : F.fn 105) (hro : F.round = none) (hn : 1 ≤ n) (l Bs n₀ b off len cap : Nat) (zs : Nat → Kv) (hreach : len ≤ 1152921504606846976) (hb : b < n₀) (J Jx : List (Nat × Kv) → World → Prop)
    (hY : ∀ pre x W, J pre W → pre.length < len → YieldAt F (n - 1) Try.prog l #[.int .i64 (x.1 : Int), kvv x.2] W fun e W' =>
      (e = .returned (.bool true) ∧ J (pre ++ [x]) W' ∧ Kb n₀ Bs W W') ∨ (e = .returned (.bool false) ∧ Jx (pre ++ [x]) W'))
    (W : World) (hBs : W.cell? ⟨Bs, 0, none⟩ = some (.slice (some ⟨b, off, none⟩) len cap)) (hc : ∀ j, j < len → W.cell? ⟨b, off + j * 3, none⟩ = some (.string (zs j).1.1) ∧ W.cell? ⟨b, off + j * 3 + 1, none⟩ = some (.int .i64 (zs j).1.2.1) ∧ W.cell? ⟨b, off + j * 3 + 2, none⟩ = some (.int .i64 (zs j).1.2.2)) (h0 : J [] W) :
    CallsIn F n Try.prog 105 #[.func (.yield l) #[] #[], .pointer (some ⟨Bs, 0, none⟩)] W fun e W' => (∃ v, e = .returned v) ∧
      ((∃ ys, ys = kup (kbk len zs) len ∧ J ys W') ∨ (∃ pre, (∃ k, k ≤ len ∧ pre = kup (kbk len zs) k) ∧ Jx pre W')) := by
  refine callsIn_of_wp Try.func105 rfl h8 ?_ hro
  simp only [Try.ntmps105, List.size_toArray, List.length_cons, List.length_nil, Nat.reduceAdd, Nat.reduceSub, Array.replicate_succ, Array.replicate_zero, List.push_toArray, List.append_toArray, List.nil_append, List.cons_append]
  gi_wp2
  gi_loopw [3] (fun i wr => ∃ k : Nat, k ≤ len ∧ i = .int .i64 ((len : Int) - 1 - k) ∧ J (kup (kbk len zs) k) wr ∧ Kb n₀ Bs W wr)
    (fun i _ => (RowKit.intOf i + 1).toNat)
  case atStart => exact ⟨0, Nat.zero_le _, by simp, h0, Kb.refl _ _ _⟩
  case round =>
    obtain ⟨k, hk, rfl, hJs, hnx⟩ := hrel
    by_cases hlt : k < len
    · obtain ⟨hc1, hc2, hc3⟩ := hc (len - 1 - k) (by omega)
      have hcx := fun (o : Nat) => hnx.1.cell (p := ⟨b, o, none⟩) hb
      rw [← hcx] at hc1 hc2 hc3
      have hBs' := (World.cell?_of_block (a := ⟨Bs, 0, none⟩) hnx.2).trans hBs
      obtain ⟨fn, tmps, assign, body, hy, hR⟩ := hY _ (kbk len zs k) wr hJs (by rw [kup_length]; exact hlt)
      obtain ⟨jj, hjj⟩ : ∃ jj : Nat, jj = len - 1 - k := ⟨_, rfl⟩
      have ejj : (len : Int) - 1 - k = (jj : Int) := by omega
      rw [ejj]
      unfold kbk kvv at hy
      rw [← hjj] at hc1 hc2 hc3 hy
      dsimp only at hy
      have hjl : jj < len := by omega
      have HJ : Hid (jj = len - 1 - k ∧ k < len) := ⟨hjj, hlt⟩
      clear hjj ejj hlt hk hBs hc hcx
      gi_wp2
      refine hR.mono ?_
      have hjj := HJ.out.1
      have hlt := HJ.out.2
      rintro e W3 (⟨rfl, hJ3, hk3⟩ | ⟨rfl, hJx3⟩)
      · clear hjj hlt
        gi_wp2
        have hjj := HJ.out.1
        have hlt := HJ.out.2
        go_roundw
        case rel => exact ⟨k + 1, by omega, by simp; omega, by rw [kup_succ]; exact hJ3, hnx.trans hk3⟩
        case measure => simp [RowKit.intOf]
      · clear hjj hlt
        gi_wp2
        have hlt := HJ.out.2
        refine bodyPost_ret (results_none rfl _ _ _) rfl ?_
        exact ⟨⟨_, rfl⟩, .inr ⟨_, ⟨k + 1, by omega, (kup_succ _ _).symm⟩, hJx3⟩⟩
    · obtain rfl : k = len := by omega
      have em : (k : Int) - 1 - k = -1 := by omega
      rw [em]
      gi_wp2
      go_end0
      exact ⟨⟨_, rfl⟩, .inl ⟨_, rfl, hJs⟩⟩
set_option maxHeartbeats 1000000 in
theorem back1_nil_in (F : Fence) (n : Nat) (h8 : F.fn 105) (hro : F.round = none) (l Bs : Nat) (J : List (Nat × Kv) → World → Prop) (W : World) (hBs : W.cell? ⟨Bs, 0, none⟩ = some (.slice none 0 0)) (h0 : J [] W) :
    CallsIn F n Try.prog 105 #[.func (.yield l) #[] #[], .pointer (some ⟨Bs, 0, none⟩)] W fun e W' => (∃ v, e = .returned v) ∧ J [] W' := by
  refine callsIn_of_wp Try.func105 rfl h8 ?_ hro
  simp only [Try.ntmps105, List.size_toArray, List.length_cons, List.length_nil, Nat.reduceAdd, Nat.reduceSub, Array.replicate_succ, Array.replicate_zero, List.push_toArray, List.append_toArray, List.nil_append, List.cons_append]
  gi_wp2
  gi_loopw [3] (fun i wr => i = .int .i64 (-1) ∧ J [] wr) (fun _ _ => 0)
  case atStart => exact ⟨by simp, h0⟩
  case round =>
    obtain ⟨rfl, hJs⟩ := hrel
    gi_wp2
    go_end0
    exact ⟨⟨_, rfl⟩, hJs⟩
set_option maxHeartbeats 1000000 in
theorem back_in (F : Fence) (n : Nat) (h6 : F.fn 76) (hro : F.round = none) (a : Option Addr) (len cap : Nat) (w : World) :
    CallsIn F n Try.prog 76 #[.slice a len cap] w fun e w' => e = .returned (.func (.func 105) #[] #[.pointer (some ⟨w.heap.size, 0, none⟩)]) ∧ w' = w.alloc (.cells #[.slice a len cap] 35) := by
  refine callsIn_of_wp Try.func76 rfl h6 ?_ hro
  simp only [Try.ntmps76, List.size_toArray, List.length_cons, List.length_nil, Nat.reduceAdd, Nat.reduceSub, Array.replicate_succ, Array.replicate_zero, List.push_toArray, List.append_toArray, List.nil_append, List.cons_append]
  gi_wp2
  go_ret
  exact ⟨rfl, rfl⟩
/-- The slice sv holds len keeps zs in a block below n₀; or it is nil, and there are none. -/
def Kps (n₀ : Nat) (W : World) (sv : Value) (len : Nat) (zs : Nat → Kv) : Prop :=
  (sv = .slice none 0 0 ∧ len = 0) ∨ ∃ b off cap, sv = .slice (some ⟨b, off, none⟩) len cap ∧ b < n₀ ∧ ∀ j, j < len → W.cell? ⟨b, off + j * 3, none⟩ = some (.string (zs j).1.1) ∧ W.cell? ⟨b, off + j * 3 + 1, none⟩ = some (.int .i64 (zs j).1.2.1) ∧ W.cell? ⟨b, off + j * 3 + 2, none⟩ = some (.int .i64 (zs j).1.2.2)
theorem Kps.below {n₀ : Nat} {A B : World} (h : Below n₀ A B) {sv : Value} {len : Nat} {zs : Nat → Kv} : Kps n₀ A sv len zs → Kps n₀ B sv len zs
  | .inl e => .inl e
  | .inr ⟨b, off, cap, e, hb, hc⟩ => .inr ⟨b, off, cap, e, hb, fun j hj => ⟨(h.cell (p := ⟨b, _, none⟩) hb).trans (hc j hj).1, (h.cell (p := ⟨b, _, none⟩) hb).trans (hc j hj).2.1, (h.cell (p := ⟨b, _, none⟩) hb).trans (hc j hj).2.2⟩⟩
theorem back_stops (F : Fence) (n : Nat) (h8 : F.fn 105) (hro : F.round = none) (hn : 1 ≤ n) (Bs n₀ : Nat) (sv : Value) (len : Nat) (zs : Nat → Kv) (hreach : len ≤ 1152921504606846976) (w : World) (hBs : Bs < w.heap.size) (hn₀ : n₀ ≤ w.heap.size)
    (hc : w.cell? ⟨Bs, 0, none⟩ = some sv) (hI : Kps n₀ w sv len zs) :
    SeqStopsK F n Try.prog 105 #[.pointer (some ⟨Bs, 0, none⟩)] (fun x : Nat × Kv => #[Value.int .i64 (x.1 : Int), kvv x.2]) (Kb n₀ Bs) (fun ys => ys = kup (kbk len zs) len)
      (fun pre => ∃ k, k ≤ len ∧ pre = kup (kbk len zs) k) len w := fun l J Jx W hW _ _ hY h0 => by
  have hc' := (hW.cell (p := ⟨Bs, 0, none⟩) hBs).trans hc
  rcases hI.below (hW.mono hn₀) with ⟨rfl, rfl⟩ | ⟨b, off, cap, rfl, hb, hcs⟩
  · exact (back1_nil_in F n h8 hro l Bs J W hc' h0).mono fun e W' ⟨he, hj⟩ => ⟨he, .inl ⟨_, rfl, hj⟩⟩
  · exact back1_in F n h8 hro hn l Bs n₀ b off len cap zs hreach hb J Jx hY W hc' hcs h0
end Wi
end Rg
end Go.Proofs.Ytidicdlfjdlpnaa
end
section
namespace Go.Proofs.Ytidicdlfjdlpnaa
open Go.RowKit
namespace Rg
namespace Wi
set_option maxRecDepth 100000
open Go.Shelf
attribute [local go_sem] Oper.semAt_some
/-- How a keep reads. -/
def RK : Value → Option (DataW Nat × List MemPlace)
  | .agg ⟨[.string s, .int .i64 a, .int .i64 b]⟩ => some (.agg [.lit (.string s.data.toList), .lit (.int .i64 a), .lit (.int .i64 b)], [])
  | _ => none
def kdt (x : Kv) : DataW Nat := .agg [.lit (.string x.1.1.data.toList), .lit (.int .i64 x.1.2.1), .lit (.int .i64 x.1.2.2)]
theorem RK_kvv (x : Kv) : RK (kvv x) = some (kdt x, []) := rfl
/-- The map of what came. -/
def fD (pre : List (Nat × Kv)) : DataW Nat := pre.foldl (fun D x => D.put (ky x.2.1.1) (kdt x.2)) (.map [])
theorem fD_snoc (pre : List (Nat × Kv)) (x : Nat × Kv) : fD (pre ++ [x]) = (fD pre).put (ky x.2.1.1) (kdt x.2) := by simp [fD]
set_option maxHeartbeats 4000000 in
theorem crash_in (Q : Nat → World → Prop) (d mb rb : Nat) (k : Int) (a : Option Addr) (len cap : Nat) (zs : Nat → Kv) (hlen : len ≤ 1152921504606846976) (w : World) (hm : Mm w [(d, [Value.map (some mb), Value.map (some rb), Value.int .i64 k])]) (hK : Kps w.heap.size w (.slice a len cap) len zs)
    (hdf : ∀ W bx m, Below w.heap.size w W → w.heap.size ≤ bx → w.heap.size ≤ m → Boxed W bx 123 (.map (some m)) → W.ownsMap Try.prog 9 RK m len (fD (kup (kbk len zs) len)) →
      Calls Try.prog 77 #[.map (some mb), .func (.func 78) #[] #[.pointer (some ⟨bx, 0, none⟩)]] W fun e W' => e = .returned (.tuple #[]) ∧ (∀ D, w.heap.size ≤ D → D < W.heap.size → W'.heap[D]? = W.heap[D]?) ∧ Q W.heap.size W') :
    Calls Try.prog 24 #[PT d 0, .slice a len cap] w fun e w' => e = .returned (.int .i64 0) ∧ ∃ N W2 D, Q N W2 ∧ w.heap.size ≤ D ∧ D < N ∧ W2.heap[D]? = some (.deferred (some [])) ∧ w' = W2.putObj D (.deferred none) := by
  have HD : Hid _ := hdf
  clear hdf
  refine (callsIn_wide (n := 9)).1 ?_
  have hmm := @run_makeMap Try.prog
  have hro : Fence.wide.round = none := rfl
  refine callsIn_of_wp_marks Try.func24 rfl trivial ?_ hro
  simp only [Try.ntmps24, List.size_toArray, List.length_cons, List.length_nil, Nat.reduceAdd, Nat.reduceSub, Array.replicate_succ, Array.replicate_zero, List.push_toArray, List.append_toArray, List.nil_append, List.cons_append]
  gi_wp2_with (first
    | (gi_at_call 75; refine (callsIn_wide.2 (made_ok d mb rb k w hm)).mono ?_; rintro e w1 ⟨rfl, hb1⟩)
    | (refine ⟨trivial, ?_⟩; gi_at_call 75; refine (callsIn_wide.2 (made_ok d mb rb k w hm)).mono ?_; rintro e w1 ⟨rfl, hb1⟩)
    | (gi_at_call 76; refine (back_in Fence.wide _ trivial hro _ _ _ _).mono ?_; rintro e w' ⟨rfl, rfl⟩)
    | (refine ⟨trivial, ?_⟩; gi_at_call 76; refine (back_in Fence.wide _ trivial hro _ _ _ _).mono ?_; rintro e w' ⟨rfl, rfl⟩))
  have hm0 := ((World.ownsMap_made w1 Try.prog 9 RK).alloc (.cells #[.map (some w1.heap.size)] 123)).alloc (.cells #[.slice a len cap] 35)
  have bF := (Boxed.new (w1.alloc (.map #[] 0)) 123 (.map (some w1.heap.size))).alloc (.cells #[.slice a len cap] 35)
  have bN := Boxed.new ((w1.alloc (.map #[] 0)).alloc (.cells #[.map (some w1.heap.size)] 123)) 35 (.slice a len cap)
  simp only [World.size_alloc] at bF bN
  have hs1 := hb1.size
  have hB0 : Below w.heap.size w (((w1.alloc (.map #[] 0)).alloc (.cells #[.map (some w1.heap.size)] 123)).alloc (.cells #[.slice a len cap] 35)) := ((hb1.alloc hs1 _).alloc (by simp; omega) _).alloc (by simp; omega) _
  have hsz : (((w1.alloc (.map #[] 0)).alloc (.cells #[.map (some w1.heap.size)] 123)).alloc (.cells #[.slice a len cap] 35)).heap.size = w1.heap.size + 3 := by simp
  obtain ⟨W0, hW0⟩ : ∃ W0, ((w1.alloc (.map #[] 0)).alloc (.cells #[.map (some w1.heap.size)] 123)).alloc (.cells #[.slice a len cap] 35) = W0 := ⟨_, rfl⟩
  rw [hW0] at hm0 bF bN hB0 hsz ⊢
  clear hW0
  refine wpIn_rangeFunc_ownH hro (by decide) (gf := 105) (lb := #[.pointer (some ⟨w1.heap.size + 1 + 1, 0, none⟩)]) rfl trivial (enters_of Try.func105 (by kernel_rfl) rfl)
    (back_stops Fence.wide _ trivial hro (by decide) (w1.heap.size + 1 + 1) w.heap.size (.slice a len cap) len zs hlen W0 (by omega) (by omega) bN.cell (hK.below hB0)) Kb.trans (Kb.put (by omega) (by omega)) (Below.refl _ _) (fun _ => rfl)
    (fun pre W => (Boxed W (w1.heap.size + 1) 123 (.map (some w1.heap.size)) ∧ W.ownsMap Try.prog 9 RK w1.heap.size pre.length (fD pre)) ∧ (Below w.heap.size w W ∧ w1.heap.size + 3 ≤ W.heap.size))
    (fun _ _ _ => False)
    (OwnFrom.and (OwnFrom.and (Own.from (boxed_own _ _ _) _) (fun s A B row hs hg hr => hs.kept hg (fun e => by have := (hr _ e.symm).1; omega))) (OwnFrom.and (ownFrom_below (Nat.le_refl _) (by omega)) (fun s A B row hs hg hr => Nat.le_trans hs hg.size)))
    (fun _ _ _ _ _ hs _ _ => hs)
    ⟨⟨bF, hm0⟩, hB0, by omega⟩
    (fun x a' W => ∃ Bx, w1.heap.size + 3 ≤ Bx ∧ W.heap[Bx]? = some (.cells #[.string x.2.1.1, .int .i64 x.2.1.2.1, .int .i64 x.2.1.2.2] 57 (0, 0)) ∧ a' = { tmps := #[PT d 0, .slice a len cap, undef, undef, .int .i64 0, .pointer (some ⟨w1.heap.size + 1, 0, none⟩), undef, .pointer (some ⟨Bx, 0, none⟩), PT d 0, .bool true, .bool false, .map (some w1.heap.size), .slice a len cap, .func (.func 105) #[] #[.pointer (some ⟨w1.heap.size + 1 + 1, 0, none⟩)], .int .i64 (x.1 : Int), kvv x.2, undef, undef, undef, undef, undef, undef, undef, undef, undef, undef], defers := [] })
    (fun x a' _ X Y row hs hg hr => by
      obtain ⟨Bx, h1, h2, h3⟩ := hs
      exact ⟨Bx, h1, (hg.block Bx (Array.getElem?_eq_some_iff.1 h2).1 (fun e => by obtain ⟨_, o, ho, hc⟩ := hr Bx e.symm; rw [h2] at ho; cases ho; cases hc)).trans h2, h3⟩)
    ?assign ?body ?done ?stop
  case assign =>
    rintro l pre x W K ⟨⟨bS1, hM1⟩, hB1, hz1⟩ hK'
    unfold kvv
    gi_wp2
    exact hK' _ _ ((KeepsOthers.alloc _ _).from _) ⟨(Below.refl _ W).alloc hB1.size _, Below.heap_alloc W _ _ (by omega)⟩ ⟨⟨bS1.alloc _, hM1.alloc _⟩, hB1.alloc hB1.size _, by simp; omega⟩ ⟨W.heap.size, hz1, World.alloc_heap_new W _, rfl⟩
  case body =>
    rintro l pre x a' W hl ⟨r, hr⟩ ⟨⟨bS1, hM1⟩, hB1, hz1⟩ ⟨Bx, hBx, bX, rfl⟩ hlt
    have cS := bS1.cell
    have cX0 : W.cell? ⟨Bx, 0, none⟩ = some (.string x.2.1.1) := by simp [World.cell?, bX]
    have cX1 : W.cell? ⟨Bx, 1, none⟩ = some (.int .i64 x.2.1.2.1) := by simp [World.cell?, bX]
    have cX2 : W.cell? ⟨Bx, 2, none⟩ = some (.int .i64 x.2.1.2.2) := by simp [World.cell?, bX]
    gi_wp2_with (gi_at_mapUpdate; refine wpListIn_mapUpdate_own _ rfl _ _ _ 123 rfl 9 57 (Maps.string_keyed Try.underlying9) Try.underlying123 _ w1.heap.size pre.length _ rfl hM1 (by unfold maxLen; omega) _ _ _ rfl rfl (WideMaps.keyOf_string_mk Try.underlying9 x.2.2.1) _ [] (RK_kvv x.2) ?_; intro w2 hown1 hgrow1)
    exact ⟨KeepsFrom.of_grownBy hgrow1 (fun j e => by cases e; omega), ⟨(Below.refl _ W).grown hgrow1 hB1.size (fun k e => by cases e; omega), hgrow1.block _ (by omega) (fun e => absurd (Option.some.inj e) (by omega))⟩,
      ⟨⟨bS1.kept hgrow1 (fun e => absurd (Option.some.inj e) (by omega)), by rw [fD_snoc, List.length_append]; exact hown1⟩, hB1.grown hgrow1 hB1.size (fun k e => by cases e; omega), Nat.le_trans hz1 hgrow1.size⟩⟩
  case done =>
    rintro D ys W hD rfl ⟨⟨bS1, hM1⟩, hB1, hz1⟩ hKd
    have hm1 := hm.below hB1
    have cD := ((hm1.blk _ (List.mem_cons_self ..)).2 0 _ rfl).1
    dsimp only at cD
    have hMl := hM1
    rw [kup_length] at hMl
    have hDlt := (Array.getElem?_eq_some_iff.1 hKd).1
    gi_wp2_with (first
      | (gi_at_call 77; refine (callsIn_wide.2 (HD.out W (w1.heap.size + 1) w1.heap.size hB1 (by omega) (by omega) bS1 hMl)).mono ?_; rintro e W2 ⟨rfl, hDk, hQ⟩)
      | (refine ⟨trivial, ?_⟩; gi_at_call 77; refine (callsIn_wide.2 (HD.out W (w1.heap.size + 1) w1.heap.size hB1 (by omega) (by omega) bS1 hMl)).mono ?_; rintro e W2 ⟨rfl, hDk, hQ⟩))
    have hKd2 := (hDk D (by omega) hDlt).trans hKd
    refine ⟨by simp, .inl ⟨_, _, rfl, run_takeDeferred hKd2, ?_⟩⟩
    exact ⟨_, results_tmp rfl _ _ _, rfl, W.heap.size, W2, D, hQ, by omega, hDlt, hKd2, rfl⟩
  case stop =>
    rintro D c pre W _ _ h _
    exact h.elim
end Wi
end Rg
end Go.Proofs.Ytidicdlfjdlpnaa
end
section
namespace Go.Proofs.Ytidicdlfjdlpnaa
open Go.RowKit
namespace Rg
namespace Wi
set_option maxRecDepth 100000
open Go.Maps
theorem ranges_keep {w w' : World} {b r n cnt : Nat} {D : DataW Nat} {left : Lit → Bool} (h : w.ranges Try.prog 9 RF b r n D left cnt) (hb : w'.heap[b]? = w.heap[b]?) (hr : w'.heap[r]? = w.heap[r]?) : w'.ranges Try.prog 9 RF b r n D left cnt := by
  obtain ⟨es, clock, since, seen, c0, h1, F, hs, hD, h2, rest⟩ := h
  exact ⟨es, clock, since, seen, c0, hb.trans h1, F, hs, hD, hr.trans h2, rest⟩
theorem find_keep {α : Type} {p q : α → Bool} : ∀ (l : List α), (∀ x, p x = true → q x = true) → (l.filter q).find? p = l.find? p
  | [], _ => rfl
  | x :: r, h => by
    cases hq : q x with
    | true =>
      rw [List.filter_cons_of_pos hq, List.find?_cons, List.find?_cons, find_keep r h]
    | false =>
      have hp : p x = false := by
        cases hp : p x with
        | false => rfl
        | true => rw [h x hp] at hq; cases hq
      rw [List.filter_cons_of_neg (by rw [hq]; decide), List.find?_cons, hp, find_keep r h]
theorem Fk_at {pd : Lit → DataW Nat → Bool} {es0 : List (Lit × DataW Nat)} {left : Lit → Bool} {kl : Lit} (hl : left kl = true) (zd : DataW Nat) : (Fk pd es0 left).atKey kl zd = (DataW.map es0).atKey kl zd := by
  unfold Fk DataW.atKey
  simp only
  rw [find_keep es0 (fun p hp => by rw [WideAt.sameKey_eq hp, hl, Bool.or_true])]
set_option maxHeartbeats 4000000 in
theorem delfunc_I (I : Nat → (Lit → Bool) → World → Prop) (pd : Lit → DataW Nat → Bool) (g : Nat) (cb : Array Value) (b n : Nat) (D : DataW Nat) (w : World)
    (eg : ∀ args w, (callFunc g args).run Try.prog w = .ok (.enter g args) w) (hown : w.ownsMap Try.prog 9 RF b n D)
    (h0 : ∀ w', w'.heap.size = w.heap.size + 1 → w.grownBy w' none → I w.heap.size (Maps.has D) w')
    (hst : ∀ r left u u' x, I r left u → (x = r ∨ x = b) → u.grownBy u' (some x) → I r left u')
    (hdel : ∀ r left (u : World) (key val : Value) (kl : Lit) (yd : DataW Nat) (yp : List MemPlace), I r left u → keyOf Try.prog 9 key = some kl → RF val = some (yd, yp) → left kl = true → (∀ zd, D.atKey kl zd = yd) →
      Calls Try.prog g (#[key, val] ++ cb) u fun e u' => e = .returned (.bool (pd kl yd)) ∧ I r (fun z => left z && !z.sameKey kl) u' ∧ u.heap.size ≤ u'.heap.size ∧ u'.heap[b]? = u.heap[b]? ∧ u'.heap[r]? = u.heap[r]?) :
    Calls Try.prog 77 #[.map (some b), .func (.func g) #[] cb] w fun e w' => e = .returned (.tuple #[]) ∧ w'.ownsMap Try.prog 9 RF b n (Lib.deleteFuncD pd D) ∧ ∃ r left, (∀ kl, left kl = false) ∧ I r left w' := by
  have K : Keyed Try.prog 9 := Maps.string_keyed Try.underlying9
  obtain ⟨es0, rfl, hap, hkeys⟩ := hown.entries K
  have HD : Hid _ := hdel
  have HS : Hid _ := hst
  have H0 : Hid _ := h0
  clear hdel hst h0
  go_enter Try.func77, Try.ntmps77
  go_wp2_with (first
    | (at_range; refine wpList_range_own _ rfl _ 39 rfl 9 111 K Try.underlying39 RF b n _ rfl hown ?_; intro w0 hrg0 hg0 hs0)
    | go_in)
  go_frame
  go_loopw [8] (fun _ wr => ∃ (left : Lit → Bool) (cnt : Nat), wr.ranges Try.prog 9 RF b w.heap.size n (Fk pd es0 left) left cnt ∧ I w.heap.size left wr)
    (fun _ wr => wr.rangeLeft b w.heap.size)
  case atStart => exact ⟨_, _, by rw [Fk_start hkeys]; exact hrg0, H0.out w0 hs0 hg0⟩
  case round =>
    obtain ⟨left, cnt, hrg, hI⟩ := hrel
    go_wp2_with (first
      | (at_next; refine wpList_next_ranges _ rfl _ rfl 9 K RF id id (fun key _ _ => ⟨key, rfl⟩) (fun v _ _ => ⟨v, rfl⟩) b w.heap.size n _ _ _ rfl hrg ?_ ?_)
      | go_in)
    · intro _ hl0
      go_wp2
      go_end0
      exact ⟨rfl, by rw [← Fk_end hl0]; exact hrg.owns, _, _, hl0, hI⟩
    · intro x c kl yd yp w1 cnt1 hkey hlx hv hat hrg1 hlt hg1 hs1 hen
      have hI1 := HS.out _ _ _ _ _ hI (.inl rfl) hg1
      have hc := HD.out _ left w1 x c kl yd yp hI1 hkey hv hlx (fun zd => (Fk_at hlx zd).symm.trans (hat zd))
      have hbl := hrg1.owns.lt
      have hrl := hrg1.lt
      cases hp : pd kl yd <;> rw [hp] at hc
      · go_wp2_with (first
          | (go_at_fn g; refine hc.mono ?_; rintro e w2 ⟨rfl, hI2, hz, hk1, hk2⟩)
          | go_in)
        have hrg2 := ranges_keep hrg1 hk1 hk2
        go_roundw
        case rel => exact ⟨_, cnt1, by rw [← Fk_stays hap (K.key hkey) hlx hp hat]; exact hrg2, hI2⟩
        case measure => rw [hrg2.left_eq, hrg.left_eq]; exact hlt
      · go_wp2_with (first
          | (go_at_fn g; refine hc.mono ?_; rintro e w2 ⟨rfl, hI2, hz, hk1, hk2⟩; have hrg2 := ranges_keep hrg1 hk1 hk2)
          | (at_delete; refine wpList_delete_ranges _ rfl _ _ 39 9 rfl 111 K Try.underlying39 RF b w.heap.size n _ _ _ rfl hrg2 _ _ rfl hkey ?_; intro w3 cnt3 hrg3 hle hturn; go_frame)
          | go_in)
        rw [strike_twice] at hrg3
        go_roundw
        case rel => exact ⟨_, cnt3, by rw [← Fk_struck hap (K.key hkey) hlx hp hat]; exact hrg3, HS.out _ _ _ _ _ hI2 (.inr rfl) hturn.grown⟩
        case measure => rw [hrg3.left_eq, hrg.left_eq]; omega
end Wi
end Rg
end Go.Proofs.Ytidicdlfjdlpnaa
end
section
namespace Go.Proofs.Ytidicdlfjdlpnaa
open Go.RowKit
namespace Rg
namespace Wi
theorem call66 : ∀ args w, (callFunc 66 args).run Try.prog w = .ok (.enter 66 args) w := by intro args w; go_simp
theorem call72 : ∀ args w, (callFunc 72 args).run Try.prog w = .ok (.enter 72 args) w := by intro args w; go_simp
theorem call73 : ∀ args w, (callFunc 73 args).run Try.prog w = .ok (.enter 73 args) w := by intro args w; go_simp
set_option maxRecDepth 100000
theorem Kp.chg {d : Nat} {w u : World} (h : Kp d w u) : Chg [d] w u := ⟨h.os, h.tape, h.output, h.size, fun k hk hn => h.block k hk (fun e => hn (by rw [e]; exact List.mem_singleton.2 rfl))⟩
/-- Behind a call that was made in a world u1 with A, and answered in u2 with B. -/
def Aft (A : World → Prop) (B : World → World → Prop) (w' : World) : Prop := ∃ u1 u2, A u1 ∧ B u1 u2 ∧ Below u2.heap.size u2 w'
theorem Aft.step {A : World → Prop} {B : World → World → Prop} {w1 w2 : World} (h : Aft A B w1) (hb : Below w1.heap.size w1 w2) : Aft A B w2 := by
  obtain ⟨u1, u2, h1, h2, h3⟩ := h
  exact ⟨u1, u2, h1, h2, h3.trans (hb.mono h3.size)⟩
set_option maxHeartbeats 2000000 in
set_option maxRecDepth 100000 in
theorem counted_no (d mb rb k : Nat) (hk : k < 4611686018427387904) (s : ByteArray) (w : World) (hm : Mm w [(d, [Value.map (some mb), Value.map (some rb), Value.int .i64 ((k : Nat) : Int)])]) (hlr0 : ∀ u, Kp d w u → (Instr.lookup 40 (.map (some rb)) (.int .i64 ((k + 1 : Nat) : Int)) true).run Try.prog u = .ok (.tuple #[.agg ([] : List Value).toArray, .bool true]) u) :
    Calls Try.prog 72 #[PT d 0, .string s] w fun e w' => e = .returned (.tuple #[.pointer none, .int .i64 13]) ∧ Mm w' [(d, [Value.map (some mb), Value.map (some rb), Value.int .i64 ((k + 1 : Nat) : Int)])] ∧ Kp d w w' := by
  have H0 : Hid (_ ∧ _) := ⟨hm, Kp.refl d w⟩
  clear hm
  have hlr : Hid _ := hlr0
  clear hlr0
  go_enter Try.func72, Try.ntmps72
  refine wp_seq ?_
  refine sq_startW (l := [0, 1]) rfl (fun u0 hu0 => ?_)
  have H1 : Hid (Mm u0 [(d, [Value.map (some mb), Value.map (some rb), Value.int .i64 ((k : Nat) : Int)])] ∧ Kp d w u0) := by rw [hu0]; exact H0
  clear hu0 H0
  refine rest_set (d := 4) (v := .pointer none) (w' := u0) rfl rfl rfl (rfl) ?_
  simp only [Act.put, sa, sz, ss]
  refine rest_set (d := 5) (v := .int .i64 0) (w' := u0) rfl rfl rfl (rfl) ?_
  simp only [Act.put, sa, sz, ss]
  refine rest_nil (then_normal ?_)
  refine wp_seq (wp_seq ?_)
  refine sq_start (l := [0, 1, 2]) rfl ?_
  refine rest_set (d := 7) (v := PT d 0) (w' := u0) rfl rfl rfl (rfl) ?_
  simp only [Act.put, sa, sz, ss]
  refine rest_enter (d := 8) (R := fun vv w' => vv = .int .i64 13 ∧ Mm w' [(d, [Value.map (some mb), Value.map (some rb), Value.int .i64 ((k + 1 : Nat) : Int)])] ∧ Kp d u0 w') rfl rfl rfl (exec_call (args := #[PT d 0]) rfl call66 rfl (mpn rfl)) (Calls.mono (count_no d mb rb k hk u0 (H1.out.1.one 0 rfl) (fun u hu => hlr.out u (H1.out.2.join hu))) (fun e w2 hh => ⟨_, hh.1, rfl, hh.2⟩)) ?_
  rintro _ w2 ⟨rfl, hn, hp⟩
  have H2 : Hid (Mm w2 [(d, [Value.map (some mb), Value.map (some rb), Value.int .i64 ((k + 1 : Nat) : Int)])] ∧ Kp d w w2) := ⟨H1.out.1.change 0 rfl hp hn, H1.out.2.join hp⟩
  clear hn hp
  clear H1
  simp only [Act.put, sa, sz, ss]
  refine rest_set (d := 6) (v := .int .i64 13) (w' := w2) rfl rfl rfl (rfl) ?_
  simp only [Act.put, sa, sz, ss]
  refine rest_nil (then_normal (wp_seq ?_))
  refine sq_start (l := [0, 1]) rfl ?_
  refine rest_set (d := 9) (v := .int .i64 13) (w' := w2) rfl rfl rfl (rfl) ?_
  simp only [Act.put, sa, sz, ss]
  refine rest_set (d := 10) (v := .bool true) (w' := w2) rfl rfl rfl (by kernel_rfl) ?_
  simp only [Act.put, sa, sz, ss]
  refine rest_nil (then_normal ?_)
  refine wp_cond_true rfl (wp_seq ?_)
  refine sq_start (l := [0, 1, 2]) rfl ?_
  refine rest_set (d := 11) (v := .int .i64 13) (w' := w2) rfl rfl rfl (rfl) ?_
  simp only [Act.put, sa, sz, ss]
  refine rest_set (d := 4) (v := .pointer none) (w' := w2) rfl rfl rfl (rfl) ?_
  simp only [Act.put, sa, sz, ss]
  refine rest_set (d := 5) (v := .int .i64 13) (w' := w2) rfl rfl rfl (rfl) ?_
  simp only [Act.put, sa, sz, ss]
  refine rest_nil (then_normal (wp_ret ?_))
  repeat (first | refine then_ret ?_ | refine block_ret ?_)
  refine bodyPost_ret (v := .tuple #[.pointer none, .int .i64 13]) (by simp [results, Try.results72, go_sem, *]) rfl ?_
  exact ⟨rfl, H2.out.1.one 0 rfl, H2.out.2⟩
set_option maxHeartbeats 2000000 in
set_option maxRecDepth 100000 in
theorem counted_hit (d mb rb k : Nat) (hk : k < 4611686018427387904) (g : Nat) (s : ByteArray) (w : World) (hm : Mm w [(d, [Value.map (some mb), Value.map (some rb), Value.int .i64 ((k : Nat) : Int)])]) (hlr0 : ∀ u, Kp d w u → (Instr.lookup 40 (.map (some rb)) (.int .i64 ((k + 1 : Nat) : Int)) true).run Try.prog u = .ok (.tuple #[.agg ([] : List Value).toArray, .bool false]) u) (hlk0 : ∀ u, Kp d w u → (Instr.lookup 39 (.map (some mb)) (.string s) false).run Try.prog u = .ok (PT g 0) u) :
    Calls Try.prog 72 #[PT d 0, .string s] w fun e w' => e = .returned (.tuple #[PT g 0, .int .i64 0]) ∧ Mm w' [(d, [Value.map (some mb), Value.map (some rb), Value.int .i64 ((k + 1 : Nat) : Int)])] ∧ Kp d w w' := by
  have H0 : Hid (_ ∧ _) := ⟨hm, Kp.refl d w⟩
  clear hm
  have hlr : Hid _ := hlr0
  clear hlr0
  have hlk : Hid _ := hlk0
  clear hlk0
  go_enter Try.func72, Try.ntmps72
  refine wp_seq ?_
  refine sq_startW (l := [0, 1]) rfl (fun u0 hu0 => ?_)
  have H1 : Hid (Mm u0 [(d, [Value.map (some mb), Value.map (some rb), Value.int .i64 ((k : Nat) : Int)])] ∧ Kp d w u0) := by rw [hu0]; exact H0
  clear hu0 H0
  refine rest_set (d := 4) (v := .pointer none) (w' := u0) rfl rfl rfl (rfl) ?_
  simp only [Act.put, sa, sz, ss]
  refine rest_set (d := 5) (v := .int .i64 0) (w' := u0) rfl rfl rfl (rfl) ?_
  simp only [Act.put, sa, sz, ss]
  refine rest_nil (then_normal ?_)
  refine wp_seq (wp_seq ?_)
  refine sq_start (l := [0, 1, 2]) rfl ?_
  refine rest_set (d := 7) (v := PT d 0) (w' := u0) rfl rfl rfl (rfl) ?_
  simp only [Act.put, sa, sz, ss]
  refine rest_enter (d := 8) (R := fun vv w' => vv = .int .i64 0 ∧ Mm w' [(d, [Value.map (some mb), Value.map (some rb), Value.int .i64 ((k + 1 : Nat) : Int)])] ∧ Kp d u0 w') rfl rfl rfl (exec_call (args := #[PT d 0]) rfl call66 rfl (mpn rfl)) (Calls.mono (count_ok d mb rb k hk u0 (H1.out.1.one 0 rfl) (fun u hu => hlr.out u (H1.out.2.join hu))) (fun e w2 hh => ⟨_, hh.1, rfl, hh.2⟩)) ?_
  rintro _ w2 ⟨rfl, hn, hp⟩
  have H2 : Hid (Mm w2 [(d, [Value.map (some mb), Value.map (some rb), Value.int .i64 ((k + 1 : Nat) : Int)])] ∧ Kp d w w2) := ⟨H1.out.1.change 0 rfl hp hn, H1.out.2.join hp⟩
  clear hn hp
  clear H1
  simp only [Act.put, sa, sz, ss]
  refine rest_set (d := 6) (v := .int .i64 0) (w' := w2) rfl rfl rfl (rfl) ?_
  simp only [Act.put, sa, sz, ss]
  refine rest_nil (then_normal (wp_seq ?_))
  refine sq_start (l := [0, 1]) rfl ?_
  refine rest_set (d := 9) (v := .int .i64 0) (w' := w2) rfl rfl rfl (rfl) ?_
  simp only [Act.put, sa, sz, ss]
  refine rest_set (d := 10) (v := .bool false) (w' := w2) rfl rfl rfl (by kernel_rfl) ?_
  simp only [Act.put, sa, sz, ss]
  refine rest_nil (then_normal ?_)
  refine wp_cond_false rfl (wp_skip ?_)
  refine then_normal (wp_seq ?_)
  refine sq_start (l := [0, 1, 2, 3, 4, 5, 6]) rfl ?_
  refine rest_set (d := 12) (v := PT d 0) (w' := w2) rfl rfl rfl (rfl) ?_
  simp only [Act.put, sa, sz, ss]
  refine rest_set (d := 13) (v := .string s) (w' := w2) rfl rfl rfl (rfl) ?_
  simp only [Act.put, sa, sz, ss]
  refine rest_enter (d := 14) (R := fun vv w' => vv = .tuple #[PT g 0, .int .i64 0] ∧ Below w2.heap.size w2 w') rfl rfl rfl (exec_call (args := #[PT d 0, .string s]) rfl call64 rfl (mpn rfl)) (Calls.mono (find_hit d mb rb g ((k + 1 : Nat) : Int) s w2 (H2.out.1.one 0 rfl) (fun u hu => hlk.out u (H2.out.2.trans (hu)))) (fun e w2 hh => ⟨_, hh.1, rfl, hh.2⟩)) ?_
  rintro _ w3 ⟨rfl, hb⟩
  have H3 : Hid (Mm w3 [(d, [Value.map (some mb), Value.map (some rb), Value.int .i64 ((k + 1 : Nat) : Int)])] ∧ Kp d w w3) := ⟨H2.out.1.below hb, H2.out.2.trans (hb)⟩
  clear hb
  clear H2
  simp only [Act.put, sa, sz, ss]
  refine rest_set (d := 15) (v := PT g 0) (w' := w3) rfl rfl rfl (by go_simp) ?_
  simp only [Act.put, sa, sz, ss]
  refine rest_set (d := 16) (v := .int .i64 0) (w' := w3) rfl rfl rfl (by go_simp) ?_
  simp only [Act.put, sa, sz, ss]
  refine rest_set (d := 4) (v := PT g 0) (w' := w3) rfl rfl rfl (rfl) ?_
  simp only [Act.put, sa, sz, ss]
  refine rest_set (d := 5) (v := .int .i64 0) (w' := w3) rfl rfl rfl (rfl) ?_
  simp only [Act.put, sa, sz, ss]
  refine rest_nil (then_normal (wp_ret ?_))
  repeat (first | refine then_ret ?_ | refine block_ret ?_)
  refine bodyPost_ret (v := .tuple #[PT g 0, .int .i64 0]) (by simp [results, Try.results72, go_sem, *]) rfl ?_
  exact ⟨rfl, H3.out.1.one 0 rfl, H3.out.2⟩
set_option maxHeartbeats 2000000 in
set_option maxRecDepth 100000 in
theorem counted_miss (d mb rb k : Nat) (hk : k < 4611686018427387904) (s : ByteArray) (w : World) (hm : Mm w [(d, [Value.map (some mb), Value.map (some rb), Value.int .i64 ((k : Nat) : Int)])]) (hlr0 : ∀ u, Kp d w u → (Instr.lookup 40 (.map (some rb)) (.int .i64 ((k + 1 : Nat) : Int)) true).run Try.prog u = .ok (.tuple #[.agg ([] : List Value).toArray, .bool false]) u) (hlk0 : ∀ u, Kp d w u → (Instr.lookup 39 (.map (some mb)) (.string s) false).run Try.prog u = .ok (.pointer none) u) :
    Calls Try.prog 72 #[PT d 0, .string s] w fun e w' => e = .returned (.tuple #[.pointer none, .int .i64 6]) ∧ Mm w' [(d, [Value.map (some mb), Value.map (some rb), Value.int .i64 ((k + 1 : Nat) : Int)])] ∧ Kp d w w' := by
  have H0 : Hid (_ ∧ _) := ⟨hm, Kp.refl d w⟩
  clear hm
  have hlr : Hid _ := hlr0
  clear hlr0
  have hlk : Hid _ := hlk0
  clear hlk0
  go_enter Try.func72, Try.ntmps72
  refine wp_seq ?_
  refine sq_startW (l := [0, 1]) rfl (fun u0 hu0 => ?_)
  have H1 : Hid (Mm u0 [(d, [Value.map (some mb), Value.map (some rb), Value.int .i64 ((k : Nat) : Int)])] ∧ Kp d w u0) := by rw [hu0]; exact H0
  clear hu0 H0
  refine rest_set (d := 4) (v := .pointer none) (w' := u0) rfl rfl rfl (rfl) ?_
  simp only [Act.put, sa, sz, ss]
  refine rest_set (d := 5) (v := .int .i64 0) (w' := u0) rfl rfl rfl (rfl) ?_
  simp only [Act.put, sa, sz, ss]
  refine rest_nil (then_normal ?_)
  refine wp_seq (wp_seq ?_)
  refine sq_start (l := [0, 1, 2]) rfl ?_
  refine rest_set (d := 7) (v := PT d 0) (w' := u0) rfl rfl rfl (rfl) ?_
  simp only [Act.put, sa, sz, ss]
  refine rest_enter (d := 8) (R := fun vv w' => vv = .int .i64 0 ∧ Mm w' [(d, [Value.map (some mb), Value.map (some rb), Value.int .i64 ((k + 1 : Nat) : Int)])] ∧ Kp d u0 w') rfl rfl rfl (exec_call (args := #[PT d 0]) rfl call66 rfl (mpn rfl)) (Calls.mono (count_ok d mb rb k hk u0 (H1.out.1.one 0 rfl) (fun u hu => hlr.out u (H1.out.2.join hu))) (fun e w2 hh => ⟨_, hh.1, rfl, hh.2⟩)) ?_
  rintro _ w2 ⟨rfl, hn, hp⟩
  have H2 : Hid (Mm w2 [(d, [Value.map (some mb), Value.map (some rb), Value.int .i64 ((k + 1 : Nat) : Int)])] ∧ Kp d w w2) := ⟨H1.out.1.change 0 rfl hp hn, H1.out.2.join hp⟩
  clear hn hp
  clear H1
  simp only [Act.put, sa, sz, ss]
  refine rest_set (d := 6) (v := .int .i64 0) (w' := w2) rfl rfl rfl (rfl) ?_
  simp only [Act.put, sa, sz, ss]
  refine rest_nil (then_normal (wp_seq ?_))
  refine sq_start (l := [0, 1]) rfl ?_
  refine rest_set (d := 9) (v := .int .i64 0) (w' := w2) rfl rfl rfl (rfl) ?_
  simp only [Act.put, sa, sz, ss]
  refine rest_set (d := 10) (v := .bool false) (w' := w2) rfl rfl rfl (by kernel_rfl) ?_
  simp only [Act.put, sa, sz, ss]
  refine rest_nil (then_normal ?_)
  refine wp_cond_false rfl (wp_skip ?_)
  refine then_normal (wp_seq ?_)
  refine sq_start (l := [0, 1, 2, 3, 4, 5, 6]) rfl ?_
  refine rest_set (d := 12) (v := PT d 0) (w' := w2) rfl rfl rfl (rfl) ?_
  simp only [Act.put, sa, sz, ss]
  refine rest_set (d := 13) (v := .string s) (w' := w2) rfl rfl rfl (rfl) ?_
  simp only [Act.put, sa, sz, ss]
  refine rest_enter (d := 14) (R := fun vv w' => vv = .tuple #[.pointer none, .int .i64 6] ∧ Below w2.heap.size w2 w') rfl rfl rfl (exec_call (args := #[PT d 0, .string s]) rfl call64 rfl (mpn rfl)) (Calls.mono (find_miss d mb rb ((k + 1 : Nat) : Int) s w2 (H2.out.1.one 0 rfl) (fun u hu => hlk.out u (H2.out.2.trans (hu)))) (fun e w2 hh => ⟨_, hh.1, rfl, hh.2⟩)) ?_
  rintro _ w3 ⟨rfl, hb⟩
  have H3 : Hid (Mm w3 [(d, [Value.map (some mb), Value.map (some rb), Value.int .i64 ((k + 1 : Nat) : Int)])] ∧ Kp d w w3) := ⟨H2.out.1.below hb, H2.out.2.trans (hb)⟩
  clear hb
  clear H2
  simp only [Act.put, sa, sz, ss]
  refine rest_set (d := 15) (v := .pointer none) (w' := w3) rfl rfl rfl (by go_simp) ?_
  simp only [Act.put, sa, sz, ss]
  refine rest_set (d := 16) (v := .int .i64 6) (w' := w3) rfl rfl rfl (by go_simp) ?_
  simp only [Act.put, sa, sz, ss]
  refine rest_set (d := 4) (v := .pointer none) (w' := w3) rfl rfl rfl (rfl) ?_
  simp only [Act.put, sa, sz, ss]
  refine rest_set (d := 5) (v := .int .i64 6) (w' := w3) rfl rfl rfl (rfl) ?_
  simp only [Act.put, sa, sz, ss]
  refine rest_nil (then_normal (wp_ret ?_))
  repeat (first | refine then_ret ?_ | refine block_ret ?_)
  refine bodyPost_ret (v := .tuple #[.pointer none, .int .i64 6]) (by simp [results, Try.results72, go_sem, *]) rfl ?_
  exact ⟨rfl, H3.out.1.one 0 rfl, H3.out.2⟩
set_option maxHeartbeats 2000000 in
set_option maxRecDepth 100000 in
theorem Sync_no (d mb rb k : Nat) (hk : k < 4611686018427387904) (s : ByteArray) (w : World) (hm : Mm w [(d, [Value.map (some mb), Value.map (some rb), Value.int .i64 ((k : Nat) : Int)])]) (hlr0 : ∀ u, Kp d w u → (Instr.lookup 40 (.map (some rb)) (.int .i64 ((k + 1 : Nat) : Int)) true).run Try.prog u = .ok (.tuple #[.agg ([] : List Value).toArray, .bool true]) u) :
    Calls Try.prog 21 #[PT d 0, .string s] w fun e w' => e = .returned (.int .i64 13) ∧ Mm w' [(d, [Value.map (some mb), Value.map (some rb), Value.int .i64 ((k + 1 : Nat) : Int)])] ∧ Kp d w w' := by
  have H0 : Hid (_ ∧ _) := ⟨hm, Kp.refl d w⟩
  clear hm
  have hlr : Hid _ := hlr0
  clear hlr0
  go_enter Try.func21, Try.ntmps21
  refine wp_seq ?_
  refine sq_startW (l := [0]) rfl (fun u0 hu0 => ?_)
  have H1 : Hid (Mm u0 [(d, [Value.map (some mb), Value.map (some rb), Value.int .i64 ((k : Nat) : Int)])] ∧ Kp d w u0) := by rw [hu0]; exact H0
  clear hu0 H0
  refine rest_set (d := 4) (v := .int .i64 0) (w' := u0) rfl rfl rfl (rfl) ?_
  simp only [Act.put, sa, sz, ss]
  refine rest_nil (then_normal (wp_seq ?_))
  refine sq_start (l := [0, 1, 2, 3, 4, 5, 6, 7]) rfl ?_
  refine rest_set (d := 8) (v := PT d 0) (w' := u0) rfl rfl rfl (rfl) ?_
  simp only [Act.put, sa, sz, ss]
  refine rest_set (d := 9) (v := .string s) (w' := u0) rfl rfl rfl (rfl) ?_
  simp only [Act.put, sa, sz, ss]
  refine rest_enter (d := 10) (R := fun vv w' => vv = .tuple #[.pointer none, .int .i64 13] ∧ Mm w' [(d, [Value.map (some mb), Value.map (some rb), Value.int .i64 ((k + 1 : Nat) : Int)])] ∧ Kp d u0 w') rfl rfl rfl (exec_call (args := #[PT d 0, .string s]) rfl call72 rfl (mpn rfl)) (Calls.mono (counted_no d mb rb k hk s u0 (H1.out.1.one 0 rfl) (fun u hu => hlr.out u (H1.out.2.join hu))) (fun e w2 hh => ⟨_, hh.1, rfl, hh.2⟩)) ?_
  rintro _ w2 ⟨rfl, hn, hp⟩
  have H2 : Hid (Mm w2 [(d, [Value.map (some mb), Value.map (some rb), Value.int .i64 ((k + 1 : Nat) : Int)])] ∧ Kp d w w2) := ⟨H1.out.1.change 0 rfl hp hn, H1.out.2.join hp⟩
  clear hn hp
  clear H1
  simp only [Act.put, sa, sz, ss]
  refine rest_set (d := 7) (v := .tuple #[.pointer none, .int .i64 13]) (w' := w2) rfl rfl rfl (rfl) ?_
  simp only [Act.put, sa, sz, ss]
  refine rest_set (d := 11) (v := .pointer none) (w' := w2) rfl rfl rfl (by go_simp) ?_
  simp only [Act.put, sa, sz, ss]
  refine rest_set (d := 12) (v := .int .i64 13) (w' := w2) rfl rfl rfl (by go_simp) ?_
  simp only [Act.put, sa, sz, ss]
  refine rest_set (d := 5) (v := .pointer none) (w' := w2) rfl rfl rfl (rfl) ?_
  simp only [Act.put, sa, sz, ss]
  refine rest_set (d := 6) (v := .int .i64 13) (w' := w2) rfl rfl rfl (rfl) ?_
  simp only [Act.put, sa, sz, ss]
  refine rest_nil (then_normal ?_)
  refine wp_seq (wp_seq ?_)
  refine sq_start (l := [0, 1]) rfl ?_
  refine rest_set (d := 13) (v := .int .i64 13) (w' := w2) rfl rfl rfl (rfl) ?_
  simp only [Act.put, sa, sz, ss]
  refine rest_set (d := 14) (v := .bool true) (w' := w2) rfl rfl rfl (by kernel_rfl) ?_
  simp only [Act.put, sa, sz, ss]
  refine rest_nil (then_normal ?_)
  refine wp_cond_true rfl (wp_seq ?_)
  refine sq_start (l := [0, 1]) rfl ?_
  refine rest_set (d := 15) (v := .int .i64 13) (w' := w2) rfl rfl rfl (rfl) ?_
  simp only [Act.put, sa, sz, ss]
  refine rest_set (d := 4) (v := .int .i64 13) (w' := w2) rfl rfl rfl (rfl) ?_
  simp only [Act.put, sa, sz, ss]
  refine rest_nil (then_normal (wp_ret ?_))
  repeat (first | refine then_ret ?_ | refine block_ret ?_)
  refine bodyPost_ret (v := .int .i64 13) (by simp [results, Try.results21, go_sem, *]) rfl ?_
  exact ⟨rfl, H2.out.1.one 0 rfl, H2.out.2⟩
set_option maxHeartbeats 2000000 in
set_option maxRecDepth 100000 in
theorem Sync_miss (d mb rb k : Nat) (hk : k < 4611686018427387904) (s : ByteArray) (w : World) (hm : Mm w [(d, [Value.map (some mb), Value.map (some rb), Value.int .i64 ((k : Nat) : Int)])]) (hlr0 : ∀ u, Kp d w u → (Instr.lookup 40 (.map (some rb)) (.int .i64 ((k + 1 : Nat) : Int)) true).run Try.prog u = .ok (.tuple #[.agg ([] : List Value).toArray, .bool false]) u) (hlk0 : ∀ u, Kp d w u → (Instr.lookup 39 (.map (some mb)) (.string s) false).run Try.prog u = .ok (.pointer none) u) :
    Calls Try.prog 21 #[PT d 0, .string s] w fun e w' => e = .returned (.int .i64 6) ∧ Mm w' [(d, [Value.map (some mb), Value.map (some rb), Value.int .i64 ((k + 1 : Nat) : Int)])] ∧ Kp d w w' := by
  have H0 : Hid (_ ∧ _) := ⟨hm, Kp.refl d w⟩
  clear hm
  have hlr : Hid _ := hlr0
  clear hlr0
  have hlk : Hid _ := hlk0
  clear hlk0
  go_enter Try.func21, Try.ntmps21
  refine wp_seq ?_
  refine sq_startW (l := [0]) rfl (fun u0 hu0 => ?_)
  have H1 : Hid (Mm u0 [(d, [Value.map (some mb), Value.map (some rb), Value.int .i64 ((k : Nat) : Int)])] ∧ Kp d w u0) := by rw [hu0]; exact H0
  clear hu0 H0
  refine rest_set (d := 4) (v := .int .i64 0) (w' := u0) rfl rfl rfl (rfl) ?_
  simp only [Act.put, sa, sz, ss]
  refine rest_nil (then_normal (wp_seq ?_))
  refine sq_start (l := [0, 1, 2, 3, 4, 5, 6, 7]) rfl ?_
  refine rest_set (d := 8) (v := PT d 0) (w' := u0) rfl rfl rfl (rfl) ?_
  simp only [Act.put, sa, sz, ss]
  refine rest_set (d := 9) (v := .string s) (w' := u0) rfl rfl rfl (rfl) ?_
  simp only [Act.put, sa, sz, ss]
  refine rest_enter (d := 10) (R := fun vv w' => vv = .tuple #[.pointer none, .int .i64 6] ∧ Mm w' [(d, [Value.map (some mb), Value.map (some rb), Value.int .i64 ((k + 1 : Nat) : Int)])] ∧ Kp d u0 w') rfl rfl rfl (exec_call (args := #[PT d 0, .string s]) rfl call72 rfl (mpn rfl)) (Calls.mono (counted_miss d mb rb k hk s u0 (H1.out.1.one 0 rfl) (fun u hu => hlr.out u (H1.out.2.join hu)) (fun u hu => hlk.out u (H1.out.2.join hu))) (fun e w2 hh => ⟨_, hh.1, rfl, hh.2⟩)) ?_
  rintro _ w2 ⟨rfl, hn, hp⟩
  have H2 : Hid (Mm w2 [(d, [Value.map (some mb), Value.map (some rb), Value.int .i64 ((k + 1 : Nat) : Int)])] ∧ Kp d w w2) := ⟨H1.out.1.change 0 rfl hp hn, H1.out.2.join hp⟩
  clear hn hp
  clear H1
  simp only [Act.put, sa, sz, ss]
  refine rest_set (d := 7) (v := .tuple #[.pointer none, .int .i64 6]) (w' := w2) rfl rfl rfl (rfl) ?_
  simp only [Act.put, sa, sz, ss]
  refine rest_set (d := 11) (v := .pointer none) (w' := w2) rfl rfl rfl (by go_simp) ?_
  simp only [Act.put, sa, sz, ss]
  refine rest_set (d := 12) (v := .int .i64 6) (w' := w2) rfl rfl rfl (by go_simp) ?_
  simp only [Act.put, sa, sz, ss]
  refine rest_set (d := 5) (v := .pointer none) (w' := w2) rfl rfl rfl (rfl) ?_
  simp only [Act.put, sa, sz, ss]
  refine rest_set (d := 6) (v := .int .i64 6) (w' := w2) rfl rfl rfl (rfl) ?_
  simp only [Act.put, sa, sz, ss]
  refine rest_nil (then_normal ?_)
  refine wp_seq (wp_seq ?_)
  refine sq_start (l := [0, 1]) rfl ?_
  refine rest_set (d := 13) (v := .int .i64 6) (w' := w2) rfl rfl rfl (rfl) ?_
  simp only [Act.put, sa, sz, ss]
  refine rest_set (d := 14) (v := .bool true) (w' := w2) rfl rfl rfl (by kernel_rfl) ?_
  simp only [Act.put, sa, sz, ss]
  refine rest_nil (then_normal ?_)
  refine wp_cond_true rfl (wp_seq ?_)
  refine sq_start (l := [0, 1]) rfl ?_
  refine rest_set (d := 15) (v := .int .i64 6) (w' := w2) rfl rfl rfl (rfl) ?_
  simp only [Act.put, sa, sz, ss]
  refine rest_set (d := 4) (v := .int .i64 6) (w' := w2) rfl rfl rfl (rfl) ?_
  simp only [Act.put, sa, sz, ss]
  refine rest_nil (then_normal (wp_ret ?_))
  repeat (first | refine then_ret ?_ | refine block_ret ?_)
  refine bodyPost_ret (v := .int .i64 6) (by simp [results, Try.results21, go_sem, *]) rfl ?_
  exact ⟨rfl, H2.out.1.one 0 rfl, H2.out.2⟩
set_option maxHeartbeats 2000000 in
set_option maxRecDepth 100000 in
theorem Sync_hit (d mb rb k : Nat) (hk : k < 4611686018427387904) (g m cu : Nat) (pu : Option Addr) (S : Value) (fr : Bool) (s : ByteArray) (Ψ : World → World → Prop) (w : World) (hm : Mm w [(d, [Value.map (some mb), Value.map (some rb), Value.int .i64 ((k : Nat) : Int)]), (g, [S, Value.slice pu m cu, Value.bool fr])]) (hlr0 : ∀ u, Kp d w u → (Instr.lookup 40 (.map (some rb)) (.int .i64 ((k + 1 : Nat) : Int)) true).run Try.prog u = .ok (.tuple #[.agg ([] : List Value).toArray, .bool false]) u) (hlk0 : ∀ u, Kp d w u → (Instr.lookup 39 (.map (some mb)) (.string s) false).run Try.prog u = .ok (PT g 0) u) (hst0 : ∀ u, Kp d w u → Mm u [(d, [Value.map (some mb), Value.map (some rb), Value.int .i64 ((k + 1 : Nat) : Int)])] → Calls Try.prog 73 #[PT g 0, .int .i64 ((m : Nat) : Int), .int .i64 0] u fun e u' => ∃ x, e = .returned (.bool x) ∧ Ψ u u') :
    Calls Try.prog 21 #[PT d 0, .string s] w fun e w' => e = .returned (.int .i64 0) ∧ Aft (fun u => Kp d w u ∧ Mm u [(d, [Value.map (some mb), Value.map (some rb), Value.int .i64 ((k + 1 : Nat) : Int)])]) Ψ w' := by
  have H0 : Hid (_ ∧ _) := ⟨hm, Kp.refl d w⟩
  clear hm
  have hlr : Hid _ := hlr0
  clear hlr0
  have hlk : Hid _ := hlk0
  clear hlk0
  have hst : Hid _ := hst0
  clear hst0
  go_enter Try.func21, Try.ntmps21
  refine wp_seq ?_
  refine sq_startW (l := [0]) rfl (fun u0 hu0 => ?_)
  have H1 : Hid (Mm u0 [(d, [Value.map (some mb), Value.map (some rb), Value.int .i64 ((k : Nat) : Int)]), (g, [S, Value.slice pu m cu, Value.bool fr])] ∧ Kp d w u0) := by rw [hu0]; exact H0
  clear hu0 H0
  refine rest_set (d := 4) (v := .int .i64 0) (w' := u0) rfl rfl rfl (rfl) ?_
  simp only [Act.put, sa, sz, ss]
  refine rest_nil (then_normal (wp_seq ?_))
  refine sq_start (l := [0, 1, 2, 3, 4, 5, 6, 7]) rfl ?_
  refine rest_set (d := 8) (v := PT d 0) (w' := u0) rfl rfl rfl (rfl) ?_
  simp only [Act.put, sa, sz, ss]
  refine rest_set (d := 9) (v := .string s) (w' := u0) rfl rfl rfl (rfl) ?_
  simp only [Act.put, sa, sz, ss]
  refine rest_enter (d := 10) (R := fun vv w' => vv = .tuple #[PT g 0, .int .i64 0] ∧ Mm w' [(d, [Value.map (some mb), Value.map (some rb), Value.int .i64 ((k + 1 : Nat) : Int)])] ∧ Kp d u0 w') rfl rfl rfl (exec_call (args := #[PT d 0, .string s]) rfl call72 rfl (mpn rfl)) (Calls.mono (counted_hit d mb rb k hk g s u0 (H1.out.1.one 0 rfl) (fun u hu => hlr.out u (H1.out.2.join hu)) (fun u hu => hlk.out u (H1.out.2.join hu))) (fun e w2 hh => ⟨_, hh.1, rfl, hh.2⟩)) ?_
  rintro _ w2 ⟨rfl, hn, hp⟩
  have H2 : Hid (Mm w2 [(d, [Value.map (some mb), Value.map (some rb), Value.int .i64 ((k + 1 : Nat) : Int)]), (g, [S, Value.slice pu m cu, Value.bool fr])] ∧ Kp d w w2) := ⟨H1.out.1.change 0 rfl hp hn, H1.out.2.join hp⟩
  clear hn hp
  clear H1
  simp only [Act.put, sa, sz, ss]
  refine rest_set (d := 7) (v := .tuple #[PT g 0, .int .i64 0]) (w' := w2) rfl rfl rfl (rfl) ?_
  simp only [Act.put, sa, sz, ss]
  refine rest_set (d := 11) (v := PT g 0) (w' := w2) rfl rfl rfl (by go_simp) ?_
  simp only [Act.put, sa, sz, ss]
  refine rest_set (d := 12) (v := .int .i64 0) (w' := w2) rfl rfl rfl (by go_simp) ?_
  simp only [Act.put, sa, sz, ss]
  refine rest_set (d := 5) (v := PT g 0) (w' := w2) rfl rfl rfl (rfl) ?_
  simp only [Act.put, sa, sz, ss]
  refine rest_set (d := 6) (v := .int .i64 0) (w' := w2) rfl rfl rfl (rfl) ?_
  simp only [Act.put, sa, sz, ss]
  refine rest_nil (then_normal ?_)
  refine wp_seq (wp_seq ?_)
  refine sq_start (l := [0, 1]) rfl ?_
  refine rest_set (d := 13) (v := .int .i64 0) (w' := w2) rfl rfl rfl (rfl) ?_
  simp only [Act.put, sa, sz, ss]
  refine rest_set (d := 14) (v := .bool false) (w' := w2) rfl rfl rfl (by kernel_rfl) ?_
  simp only [Act.put, sa, sz, ss]
  refine rest_nil (then_normal ?_)
  refine wp_cond_false rfl (wp_skip ?_)
  refine then_normal (wp_seq ?_)
  refine sq_start (l := [0, 1, 2, 3, 4, 5, 6]) rfl ?_
  refine rest_set (d := 16) (v := PT g 0) (w' := w2) rfl rfl rfl (rfl) ?_
  simp only [Act.put, sa, sz, ss]
  refine rest_set (d := 17) (v := PT g 0) (w' := w2) rfl rfl rfl (rfl) ?_
  simp only [Act.put, sa, sz, ss]
  refine rest_set (d := 18) (v := PT g 0) (w' := w2) rfl rfl rfl (by go_simp) ?_
  simp only [Act.put, sa, sz, ss]
  refine rest_set (d := 19) (v := PT g 1) (w' := w2) rfl rfl rfl (by go_simp) ?_
  simp only [Act.put, sa, sz, ss]
  refine rest_set (d := 20) (v := .slice pu m cu) (w' := w2) rfl rfl rfl (ex_loadC H2.out.1 1 rfl rfl rfl Try.isAgg115 rfl) ?_
  simp only [Act.put, sa, sz, ss]
  refine rest_set (d := 21) (v := .int .i64 ((m : Nat) : Int)) (w' := w2) rfl rfl rfl (by go_simp) ?_
  simp only [Act.put, sa, sz, ss]
  refine rest_enter (d := 22) (R := fun vv w' => (∃ x, vv = .bool x) ∧ Ψ w2 w') rfl rfl rfl (exec_call (args := #[PT g 0, .int .i64 ((m : Nat) : Int), .int .i64 0]) rfl call73 rfl (mpn rfl)) (Calls.mono (hst.out w2 H2.out.2 (H2.out.1.one 0 rfl)) (fun e w2 hh => by obtain ⟨x, he, hO⟩ := hh; exact ⟨_, he, ⟨x, rfl⟩, hO⟩)) ?_
  rintro _ w3 ⟨⟨bx, rfl⟩, hO⟩
  have H3 : Hid (Mm w3 [] ∧ Aft (fun u => Kp d w u ∧ Mm u [(d, [Value.map (some mb), Value.map (some rb), Value.int .i64 ((k + 1 : Nat) : Int)])]) Ψ w3) := ⟨Mm.nil _, ⟨w2, w3, ⟨H2.out.2, H2.out.1.one 0 rfl⟩, hO, Below.refl _ _⟩⟩
  clear hO H2
  simp only [Act.put, sa, sz, ss]
  refine rest_nil (then_normal (wp_seq ?_))
  refine sq_start (l := [0]) rfl ?_
  refine rest_set (d := 4) (v := .int .i64 0) (w' := w3) rfl rfl rfl (rfl) ?_
  simp only [Act.put, sa, sz, ss]
  refine rest_nil (then_normal (wp_ret ?_))
  repeat (first | refine then_ret ?_ | refine block_ret ?_)
  refine bodyPost_ret (v := .int .i64 0) (by simp [results, Try.results21, go_sem, *]) rfl ?_
  exact ⟨rfl, H3.out.2⟩
end Wi
end Rg
end Go.Proofs.Ytidicdlfjdlpnaa
end
section
namespace Go.Proofs.Ytidicdlfjdlpnaa
open Go.RowKit
namespace Rg
namespace Wi
set_option maxRecDepth 100000
theorem nm_inj : ∀ {l : List Fq}, (l.map Fq.nm).Nodup → ∀ {x y : Fq}, x ∈ l → y ∈ l → x.nm = y.nm → x = y
  | [], _, x, _, hx, _, _ => by cases hx
  | a :: r, h, x, y, hx, hy, e => by
    rw [List.map_cons, List.nodup_cons] at h
    rcases List.mem_cons.1 hx with hx | hx
    · rcases List.mem_cons.1 hy with hy | hy
      · rw [hx, hy]
      · exact absurd (by rw [← hx, e]; exact List.mem_map_of_mem hy) h.1
    · rcases List.mem_cons.1 hy with hy | hy
      · exact absurd (by rw [← hy, ← e]; exact List.mem_map_of_mem hx) h.1
      · exact nm_inj h.2 hx hy e
def Dq.tick (D : Dq) : Dq := ⟨D.d, D.mb, D.rb, D.k + 1, D.fs, D.rf⟩
theorem DOk.tick {w u : World} {D : Dq} (h : DOk w D) (hk : D.k + 1 < 4611686018427387904) (hp : Kp D.d w u) (hm : Mm u [(D.d, [Value.map (some D.mb), Value.map (some D.rb), Value.int .i64 ((D.k + 1 : Nat) : Int)])]) : DOk u D.tick := by
  obtain ⟨X, x1, x2, x3, x4⟩ := h.mp
  obtain ⟨n, Y, y1, y2⟩ := h.rm
  exact ⟨hm, ⟨X, ownMap_keep x1 (hp.block _ x1.lt h.h3.1.symm), x2, x3, x4⟩, ⟨n, Y, ownMap_keep y1 (hp.block _ y1.lt h.h3.2.1.symm), y2⟩, fun f hf => (h.fl f hf).chg (Kp.chg hp) (fun x hx hm => ((h.hd f hf) x hx).1 (List.mem_singleton.1 hm)), h.ap, h.hd, h.h3, h.un, hk, h.n64⟩
/-- A disk in which a file has become another. -/
def swp (f f' x : Fq) : Fq := if x.nm = f.nm then f' else x
def Dq.swap (D : Dq) (f f' : Fq) : Dq := ⟨D.d, D.mb, D.rb, D.k, D.fs.map (swp f f'), D.rf⟩
theorem swp_nm {f f' : Fq} (h : f'.nm = f.nm) (x : Fq) : (swp f f' x).nm = x.nm := by
  unfold swp
  split
  · rename_i e; rw [h, e]
  · rfl
theorem lk_swap {f f' : Fq} (h : f'.nm = f.nm) (fs : List Fq) (s : ByteArray) : lk (fs.map (swp f f')) s = (lk fs s).map (swp f f') := by
  unfold lk
  rw [List.find?_map]
  congr 1
  congr 1
  funext x
  show decide ((swp f f' x).nm = s) = decide (x.nm = s)
  rw [swp_nm h]
theorem DOk.swap {w w' : World} {D : Dq} {f f' : Fq} (h : DOk w D) (hf : f ∈ D.fs) (hn : f'.nm = f.nm) (hg : f'.g = f.g) (hF : FOk w' f') (hc : Chg f.bl w w') (hb : ∀ x ∈ f'.bl, x ∈ f.bl ∨ w.heap.size ≤ x) : DOk w' (D.swap f f') := by
  obtain ⟨X, x1, x2, x3, x4⟩ := h.mp
  obtain ⟨n, Y, y1, y2⟩ := h.rm
  have hdl : D.d < w.heap.size := (h.cel.blk _ (List.mem_cons_self ..)).1
  have hsg : ∀ x ∈ D.fs, (swp f f' x).g = x.g := fun x hx => by
    unfold swp
    split
    · rename_i e; rw [hg, nm_inj h.un hx hf e]
    · rfl
  have key : ∀ x ∈ D.fs, (x = f ∧ swp f f' x = f') ∨ (x.nm ≠ f.nm ∧ swp f f' x = x) := fun x hx => by
    by_cases e : x.nm = f.nm
    · exact .inl ⟨nm_inj h.un hx hf e, by unfold swp; rw [if_pos e]⟩
    · exact .inr ⟨e, by unfold swp; rw [if_neg e]⟩
  refine ⟨hc.mm h.cel (fun p hp hm => ?_), ⟨X, (show (D.swap f f').fs.length = D.fs.length from List.length_map ..) ▸ ownMap_keep x1 (hc.block _ x1.lt (fun hm => ((h.hd f hf) _ hm).2.1 rfl)), fun s => ?_, fun s => ?_, ?_⟩, ⟨n, Y, ownMap_keep y1 (hc.block _ y1.lt (fun hm => ((h.hd f hf) _ hm).2.2 rfl)), y2⟩, fun y hy => ?_, fun y hy z hz hne x hx => ?_, fun y hy x hx => ?_, h.h3, ?_, h.k1, by show (D.fs.map (swp f f')).length ≤ 64; rw [List.length_map]; exact h.n64⟩
  · obtain rfl := List.mem_singleton.1 hp
    exact ((h.hd f hf) _ hm).1 rfl
  · rw [x2 s]
    show dv (lk D.fs s) = dv (lk (D.fs.map (swp f f')) s)
    rw [lk_swap hn]
    cases hl : lk D.fs s with
    | none => rfl
    | some x => exact congrArg DataW.held (hsg x (lk_mem hl).1).symm
  · rw [x3 s]
    show (lk D.fs s).isSome = (lk (D.fs.map (swp f f')) s).isSome
    rw [lk_swap hn, Option.isSome_map]
  · rw [x4]
    exact (List.length_map ..).symm
  · obtain ⟨x, hx, rfl⟩ := List.mem_map.1 hy
    rcases key x hx with ⟨_, e⟩ | ⟨e1, e⟩
    · rw [e]; exact hF
    · rw [e]; exact (h.fl x hx).chg hc (h.ap x hx f hf e1)
  · obtain ⟨y0, hy0, rfl⟩ := List.mem_map.1 hy
    obtain ⟨z0, hz0, rfl⟩ := List.mem_map.1 hz
    rw [swp_nm hn, swp_nm hn] at hne
    have hlt : ∀ v ∈ D.fs, ∀ x ∈ v.bl, x < w.heap.size := fun v hv => (h.fl v hv).lt
    rcases key y0 hy0 with ⟨a1, a2⟩ | ⟨a1, a2⟩ <;> rcases key z0 hz0 with ⟨b1, b2⟩ | ⟨b1, b2⟩
    · exact absurd (by rw [a1, b1]) hne
    · rw [a2] at hx
      rw [b2]
      rcases hb x hx with e | e
      · exact h.ap f hf z0 hz0 (fun e => b1 e.symm) x e
      · exact fun hm => by have := hlt z0 hz0 x hm; omega
    · rw [a2] at hx
      rw [b2]
      intro hm
      rcases hb x hm with e | e
      · exact h.ap y0 hy0 f hf a1 x hx e
      · have := hlt y0 hy0 x hx; omega
    · rw [a2] at hx
      rw [b2]
      exact h.ap y0 hy0 z0 hz0 hne x hx
  · obtain ⟨y0, hy0, rfl⟩ := List.mem_map.1 hy
    rcases key y0 hy0 with ⟨_, a2⟩ | ⟨_, a2⟩
    · rw [a2] at hx
      rcases hb x hx with e | e
      · exact (h.hd f hf) x e
      · have m1 := x1.lt
        have m2 := y1.lt
        exact ⟨by show x ≠ D.d; omega, by show x ≠ D.mb; omega, by show x ≠ D.rb; omega⟩
    · rw [a2] at hx
      exact (h.hd y0 hy0) x hx
  · show ((D.fs.map (swp f f')).map Fq.nm).Nodup
    rw [List.map_map, show Fq.nm ∘ swp f f' = Fq.nm from funext (swp_nm hn)]
    exact h.un
theorem DOk.below {w w' : World} {D : Dq} (h : DOk w D) (hb : Below w.heap.size w w') : DOk w' D := by
  obtain ⟨X, x1, x2, x3, x4⟩ := h.mp
  obtain ⟨n, Y, y1, y2⟩ := h.rm
  exact ⟨h.cel.below hb, ⟨X, ownMap_keep x1 (hb.block _ x1.lt), x2, x3, x4⟩, ⟨n, Y, ownMap_keep y1 (hb.block _ y1.lt), y2⟩, fun f hf => (h.fl f hf).below hb, h.ap, h.hd, h.h3, h.un, h.k1, h.n64⟩
/-- All blocks of a disk. -/
def Dq.bl (D : Dq) : List Nat := D.d :: D.mb :: D.rb :: D.fs.flatMap Fq.bl
theorem wf_i64 (a : Int) (h0 : 0 ≤ a) (h1 : a ≤ 9223372036854775807) : (Lit.int .i64 a).wf = true := by
  have e1 : IntKind.i64.min = -9223372036854775808 := by decide
  have e2 : IntKind.i64.max = 9223372036854775807 := by decide
  simp only [Lit.wf, Bool.and_eq_true, decide_eq_true_eq]
  exact ⟨by rw [e1]; omega, by rw [e2]; exact h1⟩
theorem DOk.lookR {w u : World} {D : Dq} (h : DOk w D) (hu : u.heap[D.rb]? = w.heap[D.rb]?) : (Instr.lookup 40 (.map (some D.rb)) (.int .i64 ((D.k + 1 : Nat) : Int)) true).run Try.prog u = .ok (.tuple #[.agg ([] : List Value).toArray, .bool (D.rf (D.k + 1))]) u := by
  obtain ⟨n, Y, y1, y2⟩ := h.rm
  have hk := h.k1
  have hw : (Lit.int .i64 ((D.k + 1 : Nat) : Int)).wf = true := wf_i64 _ (by omega) (by omega)
  obtain ⟨v, ps, hr, hv⟩ := (ownMap_keep y1 hu).look_ok (Maps.int_keyed Try.underlying3) Try.underlying40 (z := .agg ([] : List Value).toArray) (by kernel_rfl) (zd := .nil) (zp := []) rfl (Maps.keyOf_int_mk Try.underlying3 hw)
  rw [hr, RU_inv hv, y2 (D.k + 1) (by omega)]
theorem Sync_f (D : Dq) (s : ByteArray) (hs : s.size ≤ maxLen) (w : World) (h : DOk w D) (hk : D.k + 1 < 4611686018427387904) : Calls Try.prog 21 #[PT D.d 0, .string s] w fun e w' =>
    if D.rf (D.k + 1) then e = .returned (.int .i64 13) ∧ DOk w' D.tick ∧ Chg D.bl w w' else match lk D.fs s with
    | none => e = .returned (.int .i64 6) ∧ DOk w' D.tick ∧ Chg D.bl w w'
    | some f => e = .returned (.int .i64 0) ∧ ∃ s', DOk w' (D.tick.swap f (f.set s' f.ops.length 0)) ∧ Chg D.bl w w' ∧ ∀ x ∈ (f.set s' f.ops.length 0).bl, x ∈ f.bl ∨ w.heap.size ≤ x := by
  have hlt : D.mb < w.heap.size := by obtain ⟨X, h1, _⟩ := h.mp; exact h1.lt
  have hlr : D.rb < w.heap.size := by obtain ⟨n, Y, h1, _⟩ := h.rm; exact h1.lt
  have kr : ∀ u, Kp D.d w u → u.heap[D.rb]? = w.heap[D.rb]? := fun u hu => hu.block _ hlr h.h3.2.1.symm
  have km : ∀ u, Kp D.d w u → u.heap[D.mb]? = w.heap[D.mb]? := fun u hu => hu.block _ hlt h.h3.1.symm
  have kc : ∀ u, Kp D.d w u → Chg D.bl w u := fun u hu => (Kp.chg hu).mono (fun x hx => .inl (by rw [List.mem_singleton.1 hx]; exact List.mem_cons_self ..))
  cases hr : D.rf (D.k + 1) with
  | true =>
    refine (Sync_no D.d D.mb D.rb D.k h.k1 s w h.cel (fun u hu => by rw [h.lookR (kr u hu), hr])).mono fun e w' hh => ?_
    rw [if_pos rfl]
    exact ⟨hh.1, h.tick hk hh.2.2 hh.2.1, kc w' hh.2.2⟩
  | false =>
    cases hl : lk D.fs s with
    | none =>
      refine (Sync_miss D.d D.mb D.rb D.k h.k1 s w h.cel (fun u hu => by rw [h.lookR (kr u hu), hr]) (fun u hu => by rw [h.look s hs (km u hu), hl]; rfl)).mono fun e w' hh => ?_
      rw [if_neg (by decide)]
      exact ⟨hh.1, h.tick hk hh.2.2 hh.2.1, kc w' hh.2.2⟩
    | some f =>
      have hm := (lk_mem hl).1
      have hf := h.fl f hm
      obtain ⟨pu, cu, eu, _⟩ := own_slice hf.fi.und
      have hc := hf.cel
      rw [eu] at hc
      have hne : D.d ≠ f.g := fun e => ((h.hd f hm) f.g (List.mem_cons_self ..)).1 e.symm
      have hM : Mm w [(D.d, [Value.map (some D.mb), Value.map (some D.rb), Value.int .i64 ((D.k : Nat) : Int)]), (f.g, [f.s, Value.slice pu f.ops.length cu, Value.bool f.fr])] := hc.cons (h.cel.blk _ (List.mem_cons_self ..)).2 (h.cel.blk _ (List.mem_cons_self ..)).1 (fun p hp => by obtain rfl := List.mem_singleton.1 hp; exact hne.symm)
      refine (Sync_hit D.d D.mb D.rb D.k h.k1 f.g f.ops.length cu pu f.s f.fr s (fun u u' => ∃ s', DOk u' (D.tick.swap f (f.set s' f.ops.length 0)) ∧ Chg f.bl u u' ∧ ∀ x ∈ (f.set s' f.ops.length 0).bl, x ∈ f.bl ∨ u.heap.size ≤ x) w hM (fun u hu => by rw [h.lookR (kr u hu), hr]) (fun u hu => by rw [h.look s hs (km u hu), hl]; rfl) (fun u hu hm2 => ?_)).mono fun e w' hh => ?_
      · have ht := h.tick hk hu hm2
        refine (settle_f f f.ops.length 0 u (ht.fl f hm)).mono fun e u' hh => ?_
        obtain ⟨h1, s', h2, h3⟩ := hh
        obtain ⟨g1, g2, g3⟩ := (ht.fl f hm).settled h2 h3
        exact ⟨_, h1, s', ht.swap hm rfl rfl g1 g2 g3, g2, g3⟩
      · obtain ⟨h1, u1, u2, ⟨a1, a2⟩, ⟨s', a3, a4, a6⟩, a5⟩ := hh
        rw [if_neg (by decide)]
        exact ⟨h1, s', a3.below a5, ((kc u1 a1).trans a4 (fun x hx => .inl (by unfold Dq.bl; simp only [List.mem_cons, List.mem_flatMap]; exact .inr (.inr (.inr ⟨f, hm, hx⟩))))).below a5, fun x hx => (a6 x hx).imp_right (Nat.le_trans a1.size)⟩
end Wi
end Rg
end Go.Proofs.Ytidicdlfjdlpnaa
end
section
namespace Go.Proofs.Ytidicdlfjdlpnaa
open Go.RowKit
namespace Rg
namespace Wi
theorem call69 : ∀ args w, (callFunc 69 args).run Try.prog w = .ok (.enter 69 args) w := by intro args w; go_simp
set_option maxRecDepth 100000
set_option maxHeartbeats 2000000 in
set_option maxRecDepth 100000 in
theorem Cut_no (d : Nat) (s : ByteArray) (c : Int) (I0 I1 : World → Prop) (w : World) (h0 : I0 w) (s0z : ∀ u u', I0 u → Below u.heap.size u u' → I0 u') (s1z : ∀ u u', I1 u → Below u.heap.size u u' → I1 u') (hcdz : ∀ u, I0 u → Calls Try.prog 72 #[PT d 0, .string s] u fun e u' => e = .returned (.tuple #[.pointer none, .int .i64 13]) ∧ I1 u') :
    Calls Try.prog 20 #[PT d 0, .string s, .int .i64 c] w fun e w' => e = .returned (.int .i64 13) ∧ I1 w' := by
  have H0 : Hid (_ ∧ _) := ⟨Mm.nil w, h0⟩
  have s0 : Hid _ := s0z
  have s1 : Hid _ := s1z
  have hcd : Hid _ := hcdz
  clear h0 s0z s1z hcdz
  go_enter Try.func20, Try.ntmps20
  refine wp_seq ?_
  refine sq_startW (l := [0]) rfl (fun u0 hu0 => ?_)
  have H1 : Hid (Mm u0 [] ∧ I0 u0) := by rw [hu0]; exact H0
  clear hu0 H0
  refine rest_set (d := 6) (v := .int .i64 0) (w' := u0) rfl rfl rfl (rfl) ?_
  simp only [Act.put, sa, sz, ss]
  refine rest_nil (then_normal (wp_seq ?_))
  refine sq_start (l := [0, 1, 2, 3, 4, 5, 6, 7]) rfl ?_
  refine rest_set (d := 10) (v := PT d 0) (w' := u0) rfl rfl rfl (rfl) ?_
  simp only [Act.put, sa, sz, ss]
  refine rest_set (d := 11) (v := .string s) (w' := u0) rfl rfl rfl (rfl) ?_
  simp only [Act.put, sa, sz, ss]
  refine rest_enter (d := 12) (R := fun vv w' => vv = .tuple #[.pointer none, .int .i64 13] ∧ I1 w') rfl rfl rfl (exec_call (args := #[PT d 0, .string s]) rfl call72 rfl (mpn rfl)) (Calls.mono (hcd.out u0 H1.out.2) (fun e w2 hh => ⟨_, hh.1, rfl, hh.2⟩)) ?_
  rintro _ w2 ⟨rfl, hI⟩
  have H2 : Hid (Mm w2 [] ∧ I1 w2) := ⟨Mm.nil _, hI⟩
  clear hI H1
  simp only [Act.put, sa, sz, ss]
  refine rest_set (d := 9) (v := .tuple #[.pointer none, .int .i64 13]) (w' := w2) rfl rfl rfl (rfl) ?_
  simp only [Act.put, sa, sz, ss]
  refine rest_set (d := 13) (v := .pointer none) (w' := w2) rfl rfl rfl (by go_simp) ?_
  simp only [Act.put, sa, sz, ss]
  refine rest_set (d := 14) (v := .int .i64 13) (w' := w2) rfl rfl rfl (by go_simp) ?_
  simp only [Act.put, sa, sz, ss]
  refine rest_set (d := 7) (v := .pointer none) (w' := w2) rfl rfl rfl (rfl) ?_
  simp only [Act.put, sa, sz, ss]
  refine rest_set (d := 8) (v := .int .i64 13) (w' := w2) rfl rfl rfl (rfl) ?_
  simp only [Act.put, sa, sz, ss]
  refine rest_nil (then_normal ?_)
  refine wp_seq (wp_seq ?_)
  refine sq_start (l := [0, 1]) rfl ?_
  refine rest_set (d := 15) (v := .int .i64 13) (w' := w2) rfl rfl rfl (rfl) ?_
  simp only [Act.put, sa, sz, ss]
  refine rest_set (d := 16) (v := .bool true) (w' := w2) rfl rfl rfl (by kernel_rfl) ?_
  simp only [Act.put, sa, sz, ss]
  refine rest_nil (then_normal ?_)
  refine wp_cond_true rfl (wp_seq ?_)
  refine sq_start (l := [0, 1]) rfl ?_
  refine rest_set (d := 17) (v := .int .i64 13) (w' := w2) rfl rfl rfl (rfl) ?_
  simp only [Act.put, sa, sz, ss]
  refine rest_set (d := 6) (v := .int .i64 13) (w' := w2) rfl rfl rfl (rfl) ?_
  simp only [Act.put, sa, sz, ss]
  refine rest_nil (then_normal (wp_ret ?_))
  repeat (first | refine then_ret ?_ | refine block_ret ?_)
  refine bodyPost_ret (v := .int .i64 13) (by simp [results, Try.results20, go_sem, *]) rfl ?_
  exact ⟨rfl, H2.out.2⟩
set_option maxHeartbeats 2000000 in
set_option maxRecDepth 100000 in
theorem Cut_miss (d : Nat) (s : ByteArray) (c : Int) (I0 I1 : World → Prop) (w : World) (h0 : I0 w) (s0z : ∀ u u', I0 u → Below u.heap.size u u' → I0 u') (s1z : ∀ u u', I1 u → Below u.heap.size u u' → I1 u') (hcdz : ∀ u, I0 u → Calls Try.prog 72 #[PT d 0, .string s] u fun e u' => e = .returned (.tuple #[.pointer none, .int .i64 6]) ∧ I1 u') :
    Calls Try.prog 20 #[PT d 0, .string s, .int .i64 c] w fun e w' => e = .returned (.int .i64 6) ∧ I1 w' := by
  have H0 : Hid (_ ∧ _) := ⟨Mm.nil w, h0⟩
  have s0 : Hid _ := s0z
  have s1 : Hid _ := s1z
  have hcd : Hid _ := hcdz
  clear h0 s0z s1z hcdz
  go_enter Try.func20, Try.ntmps20
  refine wp_seq ?_
  refine sq_startW (l := [0]) rfl (fun u0 hu0 => ?_)
  have H1 : Hid (Mm u0 [] ∧ I0 u0) := by rw [hu0]; exact H0
  clear hu0 H0
  refine rest_set (d := 6) (v := .int .i64 0) (w' := u0) rfl rfl rfl (rfl) ?_
  simp only [Act.put, sa, sz, ss]
  refine rest_nil (then_normal (wp_seq ?_))
  refine sq_start (l := [0, 1, 2, 3, 4, 5, 6, 7]) rfl ?_
  refine rest_set (d := 10) (v := PT d 0) (w' := u0) rfl rfl rfl (rfl) ?_
  simp only [Act.put, sa, sz, ss]
  refine rest_set (d := 11) (v := .string s) (w' := u0) rfl rfl rfl (rfl) ?_
  simp only [Act.put, sa, sz, ss]
  refine rest_enter (d := 12) (R := fun vv w' => vv = .tuple #[.pointer none, .int .i64 6] ∧ I1 w') rfl rfl rfl (exec_call (args := #[PT d 0, .string s]) rfl call72 rfl (mpn rfl)) (Calls.mono (hcd.out u0 H1.out.2) (fun e w2 hh => ⟨_, hh.1, rfl, hh.2⟩)) ?_
  rintro _ w2 ⟨rfl, hI⟩
  have H2 : Hid (Mm w2 [] ∧ I1 w2) := ⟨Mm.nil _, hI⟩
  clear hI H1
  simp only [Act.put, sa, sz, ss]
  refine rest_set (d := 9) (v := .tuple #[.pointer none, .int .i64 6]) (w' := w2) rfl rfl rfl (rfl) ?_
  simp only [Act.put, sa, sz, ss]
  refine rest_set (d := 13) (v := .pointer none) (w' := w2) rfl rfl rfl (by go_simp) ?_
  simp only [Act.put, sa, sz, ss]
  refine rest_set (d := 14) (v := .int .i64 6) (w' := w2) rfl rfl rfl (by go_simp) ?_
  simp only [Act.put, sa, sz, ss]
  refine rest_set (d := 7) (v := .pointer none) (w' := w2) rfl rfl rfl (rfl) ?_
  simp only [Act.put, sa, sz, ss]
  refine rest_set (d := 8) (v := .int .i64 6) (w' := w2) rfl rfl rfl (rfl) ?_
  simp only [Act.put, sa, sz, ss]
  refine rest_nil (then_normal ?_)
  refine wp_seq (wp_seq ?_)
  refine sq_start (l := [0, 1]) rfl ?_
  refine rest_set (d := 15) (v := .int .i64 6) (w' := w2) rfl rfl rfl (rfl) ?_
  simp only [Act.put, sa, sz, ss]
  refine rest_set (d := 16) (v := .bool true) (w' := w2) rfl rfl rfl (by kernel_rfl) ?_
  simp only [Act.put, sa, sz, ss]
  refine rest_nil (then_normal ?_)
  refine wp_cond_true rfl (wp_seq ?_)
  refine sq_start (l := [0, 1]) rfl ?_
  refine rest_set (d := 17) (v := .int .i64 6) (w' := w2) rfl rfl rfl (rfl) ?_
  simp only [Act.put, sa, sz, ss]
  refine rest_set (d := 6) (v := .int .i64 6) (w' := w2) rfl rfl rfl (rfl) ?_
  simp only [Act.put, sa, sz, ss]
  refine rest_nil (then_normal (wp_ret ?_))
  repeat (first | refine then_ret ?_ | refine block_ret ?_)
  refine bodyPost_ret (v := .int .i64 6) (by simp [results, Try.results20, go_sem, *]) rfl ?_
  exact ⟨rfl, H2.out.2⟩
set_option maxHeartbeats 2000000 in
set_option maxRecDepth 100000 in
theorem Cut_low (d g : Nat) (s : ByteArray) (c : Int) (hc : c < 0) (I0 I1 : World → Prop) (w : World) (h0 : I0 w) (s0z : ∀ u u', I0 u → Below u.heap.size u u' → I0 u') (s1z : ∀ u u', I1 u → Below u.heap.size u u' → I1 u') (hcdz : ∀ u, I0 u → Calls Try.prog 72 #[PT d 0, .string s] u fun e u' => e = .returned (.tuple #[PT g 0, .int .i64 0]) ∧ I1 u') :
    Calls Try.prog 20 #[PT d 0, .string s, .int .i64 c] w fun e w' => e = .returned (.int .i64 2) ∧ I1 w' := by
  have H0 : Hid (_ ∧ _) := ⟨Mm.nil w, h0⟩
  have s0 : Hid _ := s0z
  have s1 : Hid _ := s1z
  have hcd : Hid _ := hcdz
  clear h0 s0z s1z hcdz
  go_enter Try.func20, Try.ntmps20
  refine wp_seq ?_
  refine sq_startW (l := [0]) rfl (fun u0 hu0 => ?_)
  have H1 : Hid (Mm u0 [] ∧ I0 u0) := by rw [hu0]; exact H0
  clear hu0 H0
  refine rest_set (d := 6) (v := .int .i64 0) (w' := u0) rfl rfl rfl (rfl) ?_
  simp only [Act.put, sa, sz, ss]
  refine rest_nil (then_normal (wp_seq ?_))
  refine sq_start (l := [0, 1, 2, 3, 4, 5, 6, 7]) rfl ?_
  refine rest_set (d := 10) (v := PT d 0) (w' := u0) rfl rfl rfl (rfl) ?_
  simp only [Act.put, sa, sz, ss]
  refine rest_set (d := 11) (v := .string s) (w' := u0) rfl rfl rfl (rfl) ?_
  simp only [Act.put, sa, sz, ss]
  refine rest_enter (d := 12) (R := fun vv w' => vv = .tuple #[PT g 0, .int .i64 0] ∧ I1 w') rfl rfl rfl (exec_call (args := #[PT d 0, .string s]) rfl call72 rfl (mpn rfl)) (Calls.mono (hcd.out u0 H1.out.2) (fun e w2 hh => ⟨_, hh.1, rfl, hh.2⟩)) ?_
  rintro _ w2 ⟨rfl, hI⟩
  have H2 : Hid (Mm w2 [] ∧ I1 w2) := ⟨Mm.nil _, hI⟩
  clear hI H1
  simp only [Act.put, sa, sz, ss]
  refine rest_set (d := 9) (v := .tuple #[PT g 0, .int .i64 0]) (w' := w2) rfl rfl rfl (rfl) ?_
  simp only [Act.put, sa, sz, ss]
  refine rest_set (d := 13) (v := PT g 0) (w' := w2) rfl rfl rfl (by go_simp) ?_
  simp only [Act.put, sa, sz, ss]
  refine rest_set (d := 14) (v := .int .i64 0) (w' := w2) rfl rfl rfl (by go_simp) ?_
  simp only [Act.put, sa, sz, ss]
  refine rest_set (d := 7) (v := PT g 0) (w' := w2) rfl rfl rfl (rfl) ?_
  simp only [Act.put, sa, sz, ss]
  refine rest_set (d := 8) (v := .int .i64 0) (w' := w2) rfl rfl rfl (rfl) ?_
  simp only [Act.put, sa, sz, ss]
  refine rest_nil (then_normal ?_)
  refine wp_seq (wp_seq ?_)
  refine sq_start (l := [0, 1]) rfl ?_
  refine rest_set (d := 15) (v := .int .i64 0) (w' := w2) rfl rfl rfl (rfl) ?_
  simp only [Act.put, sa, sz, ss]
  refine rest_set (d := 16) (v := .bool false) (w' := w2) rfl rfl rfl (by kernel_rfl) ?_
  simp only [Act.put, sa, sz, ss]
  refine rest_nil (then_normal ?_)
  refine wp_cond_false rfl (wp_skip ?_)
  refine then_normal (wp_seq (wp_seq ?_))
  refine sq_start (l := [0, 1, 2, 3, 4, 5, 6, 7]) rfl ?_
  refine rest_set (d := 18) (v := .int .i64 c) (w' := w2) rfl rfl rfl (rfl) ?_
  simp only [Act.put, sa, sz, ss]
  refine rest_set (d := 19) (v := .bool true) (w' := w2) rfl rfl rfl (by go_simp <;> omega) ?_
  simp only [Act.put, sa, sz, ss]
  refine rest_set (d := 20) (v := .bool true) (w' := w2) rfl rfl rfl (rfl) ?_
  simp only [Act.put, sa, sz, ss]
  refine rest_gone1 (d := 21) rfl rfl rfl ?_
  simp only [Act.put, sa, sz, ss]
  refine rest_gone1 (d := 22) rfl rfl rfl ?_
  simp only [Act.put, sa, sz, ss]
  refine rest_gone1 (d := 23) rfl rfl rfl ?_
  simp only [Act.put, sa, sz, ss]
  refine rest_gone1 (d := 24) rfl rfl rfl ?_
  simp only [Act.put, sa, sz, ss]
  refine rest_set (d := 25) (v := .bool true) (w' := w2) rfl rfl rfl (by go_simp) ?_
  simp only [Act.put, sa, sz, ss]
  refine rest_nil (then_normal ?_)
  refine wp_cond_true rfl (wp_seq ?_)
  refine sq_start (l := [0]) rfl ?_
  refine rest_set (d := 6) (v := .int .i64 2) (w' := w2) rfl rfl rfl (rfl) ?_
  simp only [Act.put, sa, sz, ss]
  refine rest_nil (then_normal (wp_ret ?_))
  repeat (first | refine then_ret ?_ | refine block_ret ?_)
  refine bodyPost_ret (v := .int .i64 2) (by simp [results, Try.results20, go_sem, *]) rfl ?_
  exact ⟨rfl, H2.out.2⟩
set_option maxHeartbeats 2000000 in
set_option maxRecDepth 100000 in
theorem Cut_high (d g N : Nat) (s : ByteArray) (c : Nat) (hc : N < c) (I0 I1 : World → Prop) (w : World) (h0 : I0 w) (s0z : ∀ u u', I0 u → Below u.heap.size u u' → I0 u') (s1z : ∀ u u', I1 u → Below u.heap.size u u' → I1 u') (hcdz : ∀ u, I0 u → Calls Try.prog 72 #[PT d 0, .string s] u fun e u' => e = .returned (.tuple #[PT g 0, .int .i64 0]) ∧ I1 u') (hszz : ∀ u, I1 u → Calls Try.prog 68 #[PT g 0] u fun e u' => e = .returned (.int .i64 ((N : Nat) : Int)) ∧ Below u.heap.size u u') :
    Calls Try.prog 20 #[PT d 0, .string s, .int .i64 ((c : Nat) : Int)] w fun e w' => e = .returned (.int .i64 2) ∧ I1 w' := by
  have H0 : Hid (_ ∧ _) := ⟨Mm.nil w, h0⟩
  have s0 : Hid _ := s0z
  have s1 : Hid _ := s1z
  have hcd : Hid _ := hcdz
  have hsz : Hid _ := hszz
  clear h0 s0z s1z hcdz hszz
  go_enter Try.func20, Try.ntmps20
  refine wp_seq ?_
  refine sq_startW (l := [0]) rfl (fun u0 hu0 => ?_)
  have H1 : Hid (Mm u0 [] ∧ I0 u0) := by rw [hu0]; exact H0
  clear hu0 H0
  refine rest_set (d := 6) (v := .int .i64 0) (w' := u0) rfl rfl rfl (rfl) ?_
  simp only [Act.put, sa, sz, ss]
  refine rest_nil (then_normal (wp_seq ?_))
  refine sq_start (l := [0, 1, 2, 3, 4, 5, 6, 7]) rfl ?_
  refine rest_set (d := 10) (v := PT d 0) (w' := u0) rfl rfl rfl (rfl) ?_
  simp only [Act.put, sa, sz, ss]
  refine rest_set (d := 11) (v := .string s) (w' := u0) rfl rfl rfl (rfl) ?_
  simp only [Act.put, sa, sz, ss]
  refine rest_enter (d := 12) (R := fun vv w' => vv = .tuple #[PT g 0, .int .i64 0] ∧ I1 w') rfl rfl rfl (exec_call (args := #[PT d 0, .string s]) rfl call72 rfl (mpn rfl)) (Calls.mono (hcd.out u0 H1.out.2) (fun e w2 hh => ⟨_, hh.1, rfl, hh.2⟩)) ?_
  rintro _ w2 ⟨rfl, hI⟩
  have H2 : Hid (Mm w2 [] ∧ I1 w2) := ⟨Mm.nil _, hI⟩
  clear hI H1
  simp only [Act.put, sa, sz, ss]
  refine rest_set (d := 9) (v := .tuple #[PT g 0, .int .i64 0]) (w' := w2) rfl rfl rfl (rfl) ?_
  simp only [Act.put, sa, sz, ss]
  refine rest_set (d := 13) (v := PT g 0) (w' := w2) rfl rfl rfl (by go_simp) ?_
  simp only [Act.put, sa, sz, ss]
  refine rest_set (d := 14) (v := .int .i64 0) (w' := w2) rfl rfl rfl (by go_simp) ?_
  simp only [Act.put, sa, sz, ss]
  refine rest_set (d := 7) (v := PT g 0) (w' := w2) rfl rfl rfl (rfl) ?_
  simp only [Act.put, sa, sz, ss]
  refine rest_set (d := 8) (v := .int .i64 0) (w' := w2) rfl rfl rfl (rfl) ?_
  simp only [Act.put, sa, sz, ss]
  refine rest_nil (then_normal ?_)
  refine wp_seq (wp_seq ?_)
  refine sq_start (l := [0, 1]) rfl ?_
  refine rest_set (d := 15) (v := .int .i64 0) (w' := w2) rfl rfl rfl (rfl) ?_
  simp only [Act.put, sa, sz, ss]
  refine rest_set (d := 16) (v := .bool false) (w' := w2) rfl rfl rfl (by kernel_rfl) ?_
  simp only [Act.put, sa, sz, ss]
  refine rest_nil (then_normal ?_)
  refine wp_cond_false rfl (wp_skip ?_)
  refine then_normal (wp_seq (wp_seq ?_))
  refine sq_start (l := [0, 1, 2, 3, 4, 5, 6, 7]) rfl ?_
  refine rest_set (d := 18) (v := .int .i64 ((c : Nat) : Int)) (w' := w2) rfl rfl rfl (rfl) ?_
  simp only [Act.put, sa, sz, ss]
  refine rest_set (d := 19) (v := .bool false) (w' := w2) rfl rfl rfl (by go_simp <;> omega) ?_
  simp only [Act.put, sa, sz, ss]
  refine rest_set (d := 20) (v := .bool false) (w' := w2) rfl rfl rfl (rfl) ?_
  simp only [Act.put, sa, sz, ss]
  refine rest_set (d := 21) (v := .int .i64 ((c : Nat) : Int)) (w' := w2) rfl rfl rfl (rfl) ?_
  simp only [Act.put, sa, sz, ss]
  refine rest_set (d := 22) (v := PT g 0) (w' := w2) rfl rfl rfl (rfl) ?_
  simp only [Act.put, sa, sz, ss]
  refine rest_enter (d := 23) (R := fun vv w' => vv = .int .i64 ((N : Nat) : Int) ∧ Below w2.heap.size w2 w') rfl rfl rfl (exec_call (args := #[PT g 0]) rfl call68 rfl (mpn rfl)) (Calls.mono (hsz.out w2 H2.out.2) (fun e w2 hh => ⟨_, hh.1, rfl, hh.2⟩)) ?_
  rintro _ w3 ⟨rfl, hb⟩
  have H3 : Hid (Mm w3 [] ∧ I1 w3) := ⟨H2.out.1.below hb, s1.out _ _ H2.out.2 (hb)⟩
  clear hb
  clear H2
  simp only [Act.put, sa, sz, ss]
  refine rest_set (d := 24) (v := .bool true) (w' := w3) rfl rfl rfl (by go_simp <;> omega) ?_
  simp only [Act.put, sa, sz, ss]
  refine rest_set (d := 25) (v := .bool true) (w' := w3) rfl rfl rfl (by go_simp) ?_
  simp only [Act.put, sa, sz, ss]
  refine rest_nil (then_normal ?_)
  refine wp_cond_true rfl (wp_seq ?_)
  refine sq_start (l := [0]) rfl ?_
  refine rest_set (d := 6) (v := .int .i64 2) (w' := w3) rfl rfl rfl (rfl) ?_
  simp only [Act.put, sa, sz, ss]
  refine rest_nil (then_normal (wp_ret ?_))
  repeat (first | refine then_ret ?_ | refine block_ret ?_)
  refine bodyPost_ret (v := .int .i64 2) (by simp [results, Try.results20, go_sem, *]) rfl ?_
  exact ⟨rfl, H3.out.2⟩
set_option maxHeartbeats 2000000 in
set_option maxRecDepth 100000 in
theorem Cut_ok (d g N : Nat) (s : ByteArray) (c : Nat) (hc : c ≤ N) (I0 I1 I2 : World → Prop) (w : World) (h0 : I0 w) (s0z : ∀ u u', I0 u → Below u.heap.size u u' → I0 u') (s1z : ∀ u u', I1 u → Below u.heap.size u u' → I1 u') (s2z : ∀ u u', I2 u → Below u.heap.size u u' → I2 u') (hcdz : ∀ u, I0 u → Calls Try.prog 72 #[PT d 0, .string s] u fun e u' => e = .returned (.tuple #[PT g 0, .int .i64 0]) ∧ I1 u') (hszz : ∀ u, I1 u → Calls Try.prog 68 #[PT g 0] u fun e u' => e = .returned (.int .i64 ((N : Nat) : Int)) ∧ Below u.heap.size u u') (hbgz : ∀ u, I1 u → Calls Try.prog 69 #[PT g 0, .agg ([.int .i64 ((c : Nat) : Int), .slice none 0 0] : List Value).toArray] u fun e u' => e = .returned (.tuple #[]) ∧ I2 u') :
    Calls Try.prog 20 #[PT d 0, .string s, .int .i64 ((c : Nat) : Int)] w fun e w' => e = .returned (.int .i64 0) ∧ I2 w' := by
  have H0 : Hid (_ ∧ _) := ⟨Mm.nil w, h0⟩
  have s0 : Hid _ := s0z
  have s1 : Hid _ := s1z
  have s2 : Hid _ := s2z
  have hcd : Hid _ := hcdz
  have hsz : Hid _ := hszz
  have hbg : Hid _ := hbgz
  clear h0 s0z s1z s2z hcdz hszz hbgz
  go_enter Try.func20, Try.ntmps20
  refine wp_seq ?_
  refine sq_startW (l := [0]) rfl (fun u0 hu0 => ?_)
  have H1 : Hid (Mm u0 [] ∧ I0 u0) := by rw [hu0]; exact H0
  clear hu0 H0
  refine rest_set (d := 6) (v := .int .i64 0) (w' := u0) rfl rfl rfl (rfl) ?_
  simp only [Act.put, sa, sz, ss]
  refine rest_nil (then_normal (wp_seq ?_))
  refine sq_start (l := [0, 1, 2, 3, 4, 5, 6, 7]) rfl ?_
  refine rest_set (d := 10) (v := PT d 0) (w' := u0) rfl rfl rfl (rfl) ?_
  simp only [Act.put, sa, sz, ss]
  refine rest_set (d := 11) (v := .string s) (w' := u0) rfl rfl rfl (rfl) ?_
  simp only [Act.put, sa, sz, ss]
  refine rest_enter (d := 12) (R := fun vv w' => vv = .tuple #[PT g 0, .int .i64 0] ∧ I1 w') rfl rfl rfl (exec_call (args := #[PT d 0, .string s]) rfl call72 rfl (mpn rfl)) (Calls.mono (hcd.out u0 H1.out.2) (fun e w2 hh => ⟨_, hh.1, rfl, hh.2⟩)) ?_
  rintro _ w2 ⟨rfl, hI⟩
  have H2 : Hid (Mm w2 [] ∧ I1 w2) := ⟨Mm.nil _, hI⟩
  clear hI H1
  simp only [Act.put, sa, sz, ss]
  refine rest_set (d := 9) (v := .tuple #[PT g 0, .int .i64 0]) (w' := w2) rfl rfl rfl (rfl) ?_
  simp only [Act.put, sa, sz, ss]
  refine rest_set (d := 13) (v := PT g 0) (w' := w2) rfl rfl rfl (by go_simp) ?_
  simp only [Act.put, sa, sz, ss]
  refine rest_set (d := 14) (v := .int .i64 0) (w' := w2) rfl rfl rfl (by go_simp) ?_
  simp only [Act.put, sa, sz, ss]
  refine rest_set (d := 7) (v := PT g 0) (w' := w2) rfl rfl rfl (rfl) ?_
  simp only [Act.put, sa, sz, ss]
  refine rest_set (d := 8) (v := .int .i64 0) (w' := w2) rfl rfl rfl (rfl) ?_
  simp only [Act.put, sa, sz, ss]
  refine rest_nil (then_normal ?_)
  refine wp_seq (wp_seq ?_)
  refine sq_start (l := [0, 1]) rfl ?_
  refine rest_set (d := 15) (v := .int .i64 0) (w' := w2) rfl rfl rfl (rfl) ?_
  simp only [Act.put, sa, sz, ss]
  refine rest_set (d := 16) (v := .bool false) (w' := w2) rfl rfl rfl (by kernel_rfl) ?_
  simp only [Act.put, sa, sz, ss]
  refine rest_nil (then_normal ?_)
  refine wp_cond_false rfl (wp_skip ?_)
  refine then_normal (wp_seq (wp_seq ?_))
  refine sq_start (l := [0, 1, 2, 3, 4, 5, 6, 7]) rfl ?_
  refine rest_set (d := 18) (v := .int .i64 ((c : Nat) : Int)) (w' := w2) rfl rfl rfl (rfl) ?_
  simp only [Act.put, sa, sz, ss]
  refine rest_set (d := 19) (v := .bool false) (w' := w2) rfl rfl rfl (by go_simp <;> omega) ?_
  simp only [Act.put, sa, sz, ss]
  refine rest_set (d := 20) (v := .bool false) (w' := w2) rfl rfl rfl (rfl) ?_
  simp only [Act.put, sa, sz, ss]
  refine rest_set (d := 21) (v := .int .i64 ((c : Nat) : Int)) (w' := w2) rfl rfl rfl (rfl) ?_
  simp only [Act.put, sa, sz, ss]
  refine rest_set (d := 22) (v := PT g 0) (w' := w2) rfl rfl rfl (rfl) ?_
  simp only [Act.put, sa, sz, ss]
  refine rest_enter (d := 23) (R := fun vv w' => vv = .int .i64 ((N : Nat) : Int) ∧ Below w2.heap.size w2 w') rfl rfl rfl (exec_call (args := #[PT g 0]) rfl call68 rfl (mpn rfl)) (Calls.mono (hsz.out w2 H2.out.2) (fun e w2 hh => ⟨_, hh.1, rfl, hh.2⟩)) ?_
  rintro _ w3 ⟨rfl, hb⟩
  have H3 : Hid (Mm w3 [] ∧ I1 w3) := ⟨H2.out.1.below hb, s1.out _ _ H2.out.2 (hb)⟩
  clear hb
  clear H2
  simp only [Act.put, sa, sz, ss]
  refine rest_set (d := 24) (v := .bool false) (w' := w3) rfl rfl rfl (by go_simp <;> omega) ?_
  simp only [Act.put, sa, sz, ss]
  refine rest_set (d := 25) (v := .bool false) (w' := w3) rfl rfl rfl (by go_simp) ?_
  simp only [Act.put, sa, sz, ss]
  refine rest_nil (then_normal ?_)
  refine wp_cond_false rfl (wp_skip ?_)
  refine then_normal (wp_seq ?_)
  refine sq_start (l := [0, 1, 2, 3]) rfl ?_
  refine rest_set (d := 26) (v := PT g 0) (w' := w3) rfl rfl rfl (rfl) ?_
  simp only [Act.put, sa, sz, ss]
  refine rest_set (d := 27) (v := .int .i64 ((c : Nat) : Int)) (w' := w3) rfl rfl rfl (rfl) ?_
  simp only [Act.put, sa, sz, ss]
  refine rest_set (d := 28) (v := .agg ([Value.int .i64 ((c : Nat) : Int), Value.slice none 0 0]).toArray) (w' := w3) rfl rfl rfl (by kernel_rfl) ?_
  simp only [Act.put, sa, sz, ss]
  refine rest_enter (d := 29) (R := fun vv w' => vv = .tuple #[] ∧ I2 w') rfl rfl rfl (exec_call (args := #[PT g 0, .agg ([Value.int .i64 ((c : Nat) : Int), Value.slice none 0 0]).toArray]) rfl call69 rfl (mpn rfl)) (Calls.mono (hbg.out w3 H3.out.2) (fun e w2 hh => ⟨_, hh.1, rfl, hh.2⟩)) ?_
  rintro _ w4 ⟨rfl, hI⟩
  have H4 : Hid (Mm w4 [] ∧ I2 w4) := ⟨Mm.nil _, hI⟩
  clear hI H3
  simp only [Act.put, sa, sz, ss]
  refine rest_nil (then_normal (wp_seq ?_))
  refine sq_start (l := [0]) rfl ?_
  refine rest_set (d := 6) (v := .int .i64 0) (w' := w4) rfl rfl rfl (rfl) ?_
  simp only [Act.put, sa, sz, ss]
  refine rest_nil (then_normal (wp_ret ?_))
  repeat (first | refine then_ret ?_ | refine block_ret ?_)
  refine bodyPost_ret (v := .int .i64 0) (by simp [results, Try.results20, go_sem, *]) rfl ?_
  exact ⟨rfl, H4.out.2⟩
end Wi
end Rg
end Go.Proofs.Ytidicdlfjdlpnaa
end
