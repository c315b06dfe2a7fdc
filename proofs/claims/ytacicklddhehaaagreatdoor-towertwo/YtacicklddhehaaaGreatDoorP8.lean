/- Texts of the proof, joined. -/
import Derived.Test.YtacicklddhehaaaGreatDoorP7
set_option maxRecDepth 100000
section
namespace Go.Proofs.YtacicklddhehaaaGreatDoor
open Go.RowKit
theorem Row.six {w : World} {g : Nat} {f : Nat → Int} (h : Row w g 6 f) (v : Nat) : Row ((((((w.setCell ⟨g, 0, none⟩ (.int .u64 (wd v 0))).setCell ⟨g, 1, none⟩ (.int .u64 (wd v 1))).setCell ⟨g, 2, none⟩ (.int .u64 (wd v 2))).setCell ⟨g, 3, none⟩ (.int .u64 (wd v 3))).setCell ⟨g, 4, none⟩ (.int .u64 (wd v 4))).setCell ⟨g, 5, none⟩ (.int .u64 (wd v 5))) g 6 (wd v) := by
 refine ((((((h.set (k := 0) (wd v 0)).set (k := 1) (wd v 1)).set (k := 2) (wd v 2)).set (k := 3) (wd v 3)).set (k := 4) (wd v 4)).set (k := 5) (wd v 5)).congr (fun j hj => ?_)
 match j, hj with
 | 0, _ => rfl
 | 1, _ => rfl
 | 2, _ => rfl
 | 3, _ => rfl
 | 4, _ => rfl
 | 5, _ => rfl
theorem Row.past6v {w : World} {g g' n : Nat} {f : Nat → Int} (h : Row w g n f) (v : Nat) (hg : g' ≠ g) : Row ((((((w.setCell ⟨g', 0, none⟩ (.int .u64 (wd v 0))).setCell ⟨g', 1, none⟩ (.int .u64 (wd v 1))).setCell ⟨g', 2, none⟩ (.int .u64 (wd v 2))).setCell ⟨g', 3, none⟩ (.int .u64 (wd v 3))).setCell ⟨g', 4, none⟩ (.int .u64 (wd v 4))).setCell ⟨g', 5, none⟩ (.int .u64 (wd v 5))) g n f :=
 (((((h.set_other _ hg).set_other _ hg).set_other _ hg).set_other _ hg).set_other _ hg).set_other _ hg
/-- The memory of the document's Divide: a, b, two results, q, r. -/
structure DS (w wr : World) (a b q r : Nat) : Prop where
 sz : w.heap.size + 1 + 1 + 1 + 1 + 1 < wr.heap.size
 ra : Row wr w.heap.size 6 (wd a)
 rb : Row wr (w.heap.size + 1) 6 (wd b)
 z2 : Row wr (w.heap.size + 1 + 1) 6 (fun _ => 0)
 z3 : Row wr (w.heap.size + 1 + 1 + 1) 6 (fun _ => 0)
 rq : Row wr (w.heap.size + 1 + 1 + 1 + 1) 6 (wd q)
 rr : Row wr (w.heap.size + 1 + 1 + 1 + 1 + 1) 6 (wd r)
 bl : Below w.heap.size w wr
theorem DS.below {w wr w1 : World} {a b q r : Nat} (h : DS w wr a b q r) (hb : Below wr.heap.size wr w1) : DS w w1 a b q r :=
 have s := h.sz
 ⟨Nat.lt_of_lt_of_le h.sz hb.size, Row.below hb h.ra (by omega), Row.below hb h.rb (by omega), Row.below hb h.z2 (by omega), Row.below hb h.z3 (by omega), Row.below hb h.rq (by omega), Row.below hb h.rr (by omega), h.bl.trans (hb.mono h.bl.size)⟩
theorem DS.drew {w wr : World} {a b q r : Nat} (h : DS w wr a b q r) : DS w wr.drew a b q r := ⟨h.sz, h.ra.drew, h.rb.drew, h.z2.drew, h.z3.drew, h.rq.drew, h.rr.drew, h.bl.drew⟩
theorem DS.rws {w wr : World} {a b q r : Nat} (h : DS w wr a b q r) : Rws wr [(w.heap.size + 1 + 1 + 1 + 1 + 1, r), (w.heap.size, a)] := by
 intro g v hm
 have s := h.sz
 simp only [List.mem_cons, Prod.mk.injEq, List.not_mem_nil, or_false] at hm
 rcases hm with ⟨rfl, rfl⟩ | ⟨rfl, rfl⟩
 ·exact ⟨s, h.rr⟩
 ·exact ⟨by omega, h.ra⟩
theorem DS.six {w wr : World} {a b q r : Nat} (h : DS w wr a b q r) (v : Nat) : DS w ((((((wr.setCell ⟨(w.heap.size + 1 + 1 + 1 + 1 + 1), 0, none⟩ (.int .u64 (wd v 0))).setCell ⟨(w.heap.size + 1 + 1 + 1 + 1 + 1), 1, none⟩ (.int .u64 (wd v 1))).setCell ⟨(w.heap.size + 1 + 1 + 1 + 1 + 1), 2, none⟩ (.int .u64 (wd v 2))).setCell ⟨(w.heap.size + 1 + 1 + 1 + 1 + 1), 3, none⟩ (.int .u64 (wd v 3))).setCell ⟨(w.heap.size + 1 + 1 + 1 + 1 + 1), 4, none⟩ (.int .u64 (wd v 4))).setCell ⟨(w.heap.size + 1 + 1 + 1 + 1 + 1), 5, none⟩ (.int .u64 (wd v 5))) a b q v :=
 ⟨by simpa using h.sz, h.ra.past6v v (by omega), h.rb.past6v v (by omega), h.z2.past6v v (by omega), h.z3.past6v v (by omega), h.rq.past6v v (by omega), h.rr.six v, below6 h.bl (by omega) _ _ _ _ _ _⟩
theorem DS.low {w wr : World} {a b q r : Nat} (h : DS w wr a b q r) {x : Int} {v : Nat} (hv : ∀ j, upd (wd r) 0 x j = wd v j) : DS w (wr.setCell ⟨w.heap.size + 1 + 1 + 1 + 1 + 1, 0, none⟩ (.int .u64 x)) a b q v :=
 ⟨by simpa using h.sz, h.ra.set_other _ (by simp <;> omega), h.rb.set_other _ (by simp <;> omega), h.z2.set_other _ (by simp <;> omega), h.z3.set_other _ (by simp <;> omega), h.rq.set_other _ (by simp <;> omega), (h.rr.set _).congr (fun j _ => hv j), h.bl.setCell (by simp <;> omega) _⟩
theorem DS.bit {w wr : World} {a b q r : Nat} (h : DS w wr a b q r) {x : Int} {k v : Nat} (hv : ∀ j, upd (wd q) k x j = wd v j) : DS w (wr.setCell ⟨w.heap.size + 1 + 1 + 1 + 1, k, none⟩ (.int .u64 x)) a b v r :=
 ⟨by simpa using h.sz, h.ra.set_other _ (by simp <;> omega), h.rb.set_other _ (by simp <;> omega), h.z2.set_other _ (by simp <;> omega), h.z3.set_other _ (by simp <;> omega), (h.rq.set _).congr (fun j _ => hv j), h.rr.set_other _ (by simp <;> omega), h.bl.setCell (by simp <;> omega) _⟩
set_option maxHeartbeats 4000000 in
theorem divide_ref_some (a b : Nat) (ha : a < big) (hb : b < big) (hb0 : b ≠ 0) (w : World) :
  Calls Tryz.prog 62 #[N a, N b] w (Rt w (.tuple #[N (a / b), N (a % b), .int .i64 0])) := by
 have he := fun w => run_eqZ b hb w
 rw [decide_eq_false hb0] at he
 have CB : Hid _ := fun (i : Nat) (hi : i < 384) w => bit_ref_in a i hi w
 have HA : Hid (a < 2 ^ 384) := by
  obtain ⟨n, hn, e⟩ := big_pow
  show a < 2 ^ 384
  rw [e, show 64 * n = 384 by omega] at ha
  exact ha
 have HB : Hid (b < big ∧ 0 < b) := ⟨hb, by omega⟩
 clear ha hb hb0
 go_enter Tryz.func62, Tryz.ntmps62
 go_wp2
 clear he
 go_loopw [9] (fun i wr => ∃ k : Nat, k ≤ 384 ∧ i = .int .i64 ((k : Int) - 1) ∧ DS w wr a b (dvq a b k) (dvr a b k)) (fun i _ => (RowKit.intOf i + 1).toNat)
 case atStart =>
  obtain ⟨e1, e2⟩ := dv_start a b 384 HA.out
  refine ⟨384, by omega, rfl, ?_⟩
  rw [e1, e2]
  refine ⟨by simp, ?_, ?_, ?_, ?_, ?_, ?_, ?_⟩
  ·exact ((((((Row.new w _ 24 rfl (six_lt rfl)).alloc (by simp) _).alloc (by first | (simp; done) | (simp; omega)) _).alloc (by first | (simp; done) | (simp; omega)) _).alloc (by first | (simp; done) | (simp; omega)) _).alloc (by first | (simp; done) | (simp; omega)) _)
  ·exact (((((Row.new _ _ 24 (by simp) (six_lt rfl)).alloc (by simp) _).alloc (by first | (simp; done) | (simp; omega)) _).alloc (by first | (simp; done) | (simp; omega)) _).alloc (by first | (simp; done) | (simp; omega)) _)
  ·exact ((((Row.new _ _ 24 (by simp) (six_lt (f := fun _ => 0) rfl)).alloc (by simp) _).alloc (by first | (simp; done) | (simp; omega)) _).alloc (by first | (simp; done) | (simp; omega)) _)
  ·exact (((Row.new _ _ 24 (by simp) (six_lt (f := fun _ => 0) rfl)).alloc (by simp) _).alloc (by first | (simp; done) | (simp; omega)) _)
  ·exact (((Row.new _ _ 24 (by simp) (six_lt (f := fun _ => 0) rfl)).congr (fun j _ => (wd_zero j).symm)).alloc (by simp) _)
  ·exact (Row.new _ _ 24 (by simp) (six_lt (f := fun _ => 0) rfl)).congr (fun j _ => (wd_zero j).symm)
  ·exact ((((((Below.refl _ _).alloc (Nat.le_refl _) _).alloc (by simp) _).alloc (by first | (simp; done) | (simp; omega)) _).alloc (by first | (simp; done) | (simp; omega)) _).alloc (by first | (simp; done) | (simp; omega)) _).alloc (by first | (simp; done) | (simp; omega)) _
 case round =>
  obtain ⟨k, hk, rfl, hD⟩ := hrel
  by_cases h0 : 1 ≤ k
  ·obtain ⟨i, rfl⟩ : ∃ i, k = i + 1 := ⟨k - 1, by omega⟩
   rw [show (((i + 1 : Nat) : Int) - 1) = (i : Int) by omega]
   have st := dv_step a b i HB.out.2
   have hor := dvq_or a b i
   have hrb := dvr_lt a b (i + 1) HB.out.2
   have cb := fun w => CB.out i (by omega) w
   have hev : ∃ e : Nat, e < 2 ∧ bitv a i = (e : Int) ∧ a / 2 ^ i % 2 = e := ⟨a / 2 ^ i % 2, Nat.mod_lt _ (by decide), rfl, rfl⟩
   obtain ⟨e, he2, heb, hea⟩ := hev
   rw [hea] at st
   rw [heb] at cb
   have CBi : Hid _ := cb
   have ec : IntKind.u64.wrap (e : Int) = (e : Int) := by rw [IntKind.wrap_u64]; omega
   generalize dvq a b (i + 1) = q at hD st hor
   generalize dvr a b (i + 1) = r at hD st hrb
   have hrg : r < big := Nat.lt_trans hrb HB.out.1
   have ca := fun w => add_ref r r hrg hrg w
   have ht := top_one r hrg
   have hlb := fun j => low_bit r e he2 j
   obtain ⟨H, hH⟩ : ∃ H : Nat, big = 2 * H := by
    obtain ⟨n, hn, eb⟩ := big_pow
    exact ⟨2 ^ (64 * n - 1), by rw [eb, show 64 * n = 64 * n - 1 + 1 by omega, Nat.pow_succ, Nat.mul_comm]; rfl⟩
   have hbb := HB.out.1
   generalize hRR : (r + r) % big = R at ca hlb
   have CA : Hid _ := ca
   have HST : Hid (_ ∧ _ ∧ _) := ⟨st, hor, hrb⟩
   have HE : Hid (e < 2 ∧ i < 384) := ⟨he2, by omega⟩
   obtain ⟨a0, a1, a2, a3, a4, a5⟩ := hD.rr.reads
   have HD0 : Hid _ := hD
   have HLB : Hid _ := hlb
   clear cb heb hea st hor hD CB HA h0 hlb ca
   by_cases c : big ≤ 2 * r
   ·rw [decide_eq_true c] at ht
    have hR : R = 2 * r - big := by rw [← hRR, ← Nat.two_mul, Nat.mod_eq_sub_mod c, Nat.mod_eq_of_lt (by omega)]
    have hbt : b ≤ 2 * r + e := by omega
    obtain ⟨hN1, hN2⟩ : dvr a b i = 2 * r + e - b ∧ dvq a b i = 2 ^ i ||| q := by
     rcases HST.out.1 with ⟨_, s2, s3⟩ | ⟨s1, _, _⟩
     ·exact ⟨s2, by rw [s3, HST.out.2.1]⟩
     ·omega
    have cs := fun w => sub_ref (R + e) b (by omega) HB.out.1 w
    rw [show (R + e + big - b) % big = 2 * r + e - b by rw [Nat.mod_eq_of_lt (by omega)]; omega] at cs
    generalize 2 * r + e - b = rn at cs hN1
    have CS : Hid _ := cs
    have HN : Hid (_ ∧ _) := ⟨hN2, hN1⟩
    clear cs hN1 hN2 hR hbt hRR c hrb hrg hH hbb he2
    go_wp2_with fail
    refine (CA.out _).mono ?_
    rintro e1 w1 ⟨rfl, hb1⟩
    have hD1 := HD0.out.below hb1
    clear HD0 hb1 ht a0 a1 a2 a3 a4 a5
    obtain ⟨a0, a1, a2, a3, a4, a5⟩ := hD1.rr.reads
    obtain ⟨f0, f1, f2, f3, f4, f5⟩ := hD1.rr.writes
    have HD1 : Hid _ := hD1
    clear hD1
    go_wp2_with fail
    have hD2 := HD1.out.six R
    clear HD1 a0 a1 a2 a3 a4 a5 f0 f1 f2 f3 f4 f5
    generalize ((((((w1.setCell ⟨w.heap.size + 1 + 1 + 1 + 1 + 1, 0, none⟩ (.int .u64 (wd R 0))).setCell ⟨w.heap.size + 1 + 1 + 1 + 1 + 1, 1, none⟩ (.int .u64 (wd R 1))).setCell ⟨w.heap.size + 1 + 1 + 1 + 1 + 1, 2, none⟩ (.int .u64 (wd R 2))).setCell ⟨w.heap.size + 1 + 1 + 1 + 1 + 1, 3, none⟩ (.int .u64 (wd R 3))).setCell ⟨w.heap.size + 1 + 1 + 1 + 1 + 1, 4, none⟩ (.int .u64 (wd R 4))).setCell ⟨w.heap.size + 1 + 1 + 1 + 1 + 1, 5, none⟩ (.int .u64 (wd R 5))) = w2 at hD2 ⊢
    have HR2 : Hid _ := hD2.rws
    have HD2 : Hid _ := hD2
    clear hD2
    refine region_last (p := 8) (by kernel_rfl) [.q (.pointer (some ⟨w.heap.size + 1 + 1 + 1 + 1 + 1, 0, none⟩)), .q (.int .u64 (wd R 0)), .q (N a), .q (.int .i64 i), .call (.int .i64 (e : Int)), .q (.int .u64 (e : Int)), .q (.int .u64 (bits .or .u64 (wd R 0) (e : Int))), .q (.pointer (some ⟨w.heap.size + 1 + 1 + 1 + 1 + 1, 0, none⟩)), .gone] (fun w' => Rws w' [(w.heap.size + 1 + 1 + 1 + 1 + 1, R), (w.heap.size, a)]) ?F1 _ (fun J => ?hF) (by kernel_rfl) ?hL ?hS rfl rfl rfl rfl (by kernel_rfl) ?ho ?hl
    case hF =>
     simp only [yB, Kind.val, Act.put, List.setIfInBounds_toArray, List.set_cons_zero, List.set_cons_succ]
     exact rfl
    case hL => exact trivial
    case hS => exact fun w' hb => Rws.below HR2.out hb
    case ho =>
     refine yD.cons ?_ ?_
     ·(refine fun J => ⟨rfl, fun w' h => ?_⟩; clear h; go_simp)
     refine yD.cons ?_ ?_
     ·(refine fun J => ⟨rfl, fun w' h => ?_⟩; obtain ⟨h0, c0, c1, c2, c3, c4, c5⟩ := Rws.at h (g := (w.heap.size + 1 + 1 + 1 + 1 + 1)) (v := R) (by simp); clear h; go_simp)
     refine yD.cons ?_ ?_
     ·exact fun J => ⟨rfl, fun w' h => exec_load6 h (by simp) rfl rfl⟩
     refine yD.cons ?_ ?_
     ·exact fun J => ⟨rfl, fun w' _ => rfl⟩
     refine yD.cons ?_ ?_
     ·exact fun J => ⟨rfl, fun w' h => ⟨86, #[N a, .int .i64 i], exec_call rfl call86 rfl (by simp only [List.map_toArray, List.map_cons, List.map_nil]; rfl), CBi.out w'⟩⟩
     refine yD.cons ?_ ?_
     ·(refine fun J => ⟨rfl, fun w' h => ?_⟩; clear h; go_simp)
     refine yD.cons ?_ ?_
     ·(refine fun J => ⟨rfl, fun w' h => ?_⟩; clear h; go_simp)
     refine yD.cons ?_ ?_
     ·(refine fun J => ⟨rfl, fun w' h => ?_⟩; clear h; go_simp)
     exact trivial
    case hl =>
     intro J w3 l hM hl K hK
     have hD3 := HD2.out.below hM.below
     have b0 := (hD3.rr 0 (by omega)).1
     have f0 := (hD3.rr 0 (by omega)).2
     have HD3 : Hid _ := hD3
     clear hD3 hM hl l HD2 HR2
     rw [if_pos (by rfl)]
     go_simp
     refine hK.out _ _ ?_
     clear hK b0 f0
     have hD4 := HD3.out.low HLB.out
     clear HD3
     generalize w3.setCell ⟨w.heap.size + 1 + 1 + 1 + 1 + 1, 0, none⟩ (.int .u64 (bits .or .u64 (wd R 0) (e : Int))) = w4 at hD4 ⊢
     clear J
     obtain ⟨a0, a1, a2, a3, a4, a5⟩ := hD4.rr.reads
     obtain ⟨b0, b1, b2, b3, b4, b5⟩ := hD4.rb.reads
     have HD4 : Hid _ := hD4
     clear hD4
     go_wp2_with fail
     refine (CS.out _).mono ?_
     rintro e3 w5 ⟨rfl, hb5⟩
     have hD5 := HD4.out.below hb5
     clear HD4 hb5 a0 a1 a2 a3 a4 a5 b0 b1 b2 b3 b4 b5
     obtain ⟨a0, a1, a2, a3, a4, a5⟩ := hD5.rr.reads
     obtain ⟨f0, f1, f2, f3, f4, f5⟩ := hD5.rr.writes
     have HD5 : Hid _ := hD5
     clear hD5
     go_wp2_with fail
     have hD6 := HD5.out.six rn
     clear HD5 a0 a1 a2 a3 a4 a5 f0 f1 f2 f3 f4 f5
     generalize ((((((w5.setCell ⟨w.heap.size + 1 + 1 + 1 + 1 + 1, 0, none⟩ (.int .u64 (wd rn 0))).setCell ⟨w.heap.size + 1 + 1 + 1 + 1 + 1, 1, none⟩ (.int .u64 (wd rn 1))).setCell ⟨w.heap.size + 1 + 1 + 1 + 1 + 1, 2, none⟩ (.int .u64 (wd rn 2))).setCell ⟨w.heap.size + 1 + 1 + 1 + 1 + 1, 3, none⟩ (.int .u64 (wd rn 3))).setCell ⟨w.heap.size + 1 + 1 + 1 + 1 + 1, 4, none⟩ (.int .u64 (wd rn 4))).setCell ⟨w.heap.size + 1 + 1 + 1 + 1 + 1, 5, none⟩ (.int .u64 (wd rn 5))) = w6 at hD6 ⊢
     obtain ⟨q1, q2⟩ := hD6.rq (i / 64) (by have := HE.out.2; omega)
     have HD6 : Hid _ := hD6
     clear hD6
     have hi := HE.out.2
     go_region
     go_wp2
     go_roundw
     case rel =>
      refine ⟨i, by omega, by go_num, ?_⟩
      rw [HN.out.1, HN.out.2]
      exact (HD6.out.bit (fun j => set_or q i j)).drew
     case measure => simp [RowKit.intOf] <;> omega
   ·rw [decide_eq_false c] at ht
    by_cases hbt : b ≤ 2 * r + e
    ·have hR : R = 2 * r := by rw [← hRR, ← Nat.two_mul, Nat.mod_eq_of_lt (by omega)]
     obtain ⟨hN1, hN2⟩ : dvr a b i = 2 * r + e - b ∧ dvq a b i = 2 ^ i ||| q := by
      rcases HST.out.1 with ⟨_, s2, s3⟩ | ⟨s1, _, _⟩
      ·exact ⟨s2, by rw [s3, HST.out.2.1]⟩
      ·omega
     have cs := fun w => sub_ref (R + e) b (by omega) HB.out.1 w
     rw [show (R + e + big - b) % big = 2 * r + e - b by rw [Nat.mod_eq_sub_mod (by omega), Nat.mod_eq_of_lt (by omega)]; omega] at cs
     generalize 2 * r + e - b = rn at cs hN1
     have cc := fun w => compare_ref (R + e) b (by omega) HB.out.1 w
     have hcv : decide ((0 : Int) ≤ cmpv (R + e) b) = true := decide_eq_true (by unfold cmpv; split; omega; rw [if_neg (by omega)]; omega)
     generalize cmpv (R + e) b = cv at cc hcv
     have CS : Hid _ := cs
     have CC : Hid _ := cc
     have HN : Hid (_ ∧ _) := ⟨hN2, hN1⟩
     clear cs cc hN1 hN2 hR hbt hRR c hrb hrg hH hbb he2
     go_wp2_with fail
     refine (CA.out _).mono ?_
     rintro e1 w1 ⟨rfl, hb1⟩
     have hD1 := HD0.out.below hb1
     clear HD0 hb1 ht a0 a1 a2 a3 a4 a5
     obtain ⟨a0, a1, a2, a3, a4, a5⟩ := hD1.rr.reads
     obtain ⟨f0, f1, f2, f3, f4, f5⟩ := hD1.rr.writes
     have HD1 : Hid _ := hD1
     clear hD1
     go_wp2_with fail
     have hD2 := HD1.out.six R
     clear HD1 a0 a1 a2 a3 a4 a5 f0 f1 f2 f3 f4 f5
     generalize ((((((w1.setCell ⟨w.heap.size + 1 + 1 + 1 + 1 + 1, 0, none⟩ (.int .u64 (wd R 0))).setCell ⟨w.heap.size + 1 + 1 + 1 + 1 + 1, 1, none⟩ (.int .u64 (wd R 1))).setCell ⟨w.heap.size + 1 + 1 + 1 + 1 + 1, 2, none⟩ (.int .u64 (wd R 2))).setCell ⟨w.heap.size + 1 + 1 + 1 + 1 + 1, 3, none⟩ (.int .u64 (wd R 3))).setCell ⟨w.heap.size + 1 + 1 + 1 + 1 + 1, 4, none⟩ (.int .u64 (wd R 4))).setCell ⟨w.heap.size + 1 + 1 + 1 + 1 + 1, 5, none⟩ (.int .u64 (wd R 5))) = w2 at hD2 ⊢
     have HR2 : Hid _ := hD2.rws
     have HD2 : Hid _ := hD2
     clear hD2
     refine region_last (p := 8) (by kernel_rfl) [.q (.pointer (some ⟨w.heap.size + 1 + 1 + 1 + 1 + 1, 0, none⟩)), .q (.int .u64 (wd R 0)), .q (N a), .q (.int .i64 i), .call (.int .i64 (e : Int)), .q (.int .u64 (e : Int)), .q (.int .u64 (bits .or .u64 (wd R 0) (e : Int))), .q (.pointer (some ⟨w.heap.size + 1 + 1 + 1 + 1 + 1, 0, none⟩)), .gone] (fun w' => Rws w' [(w.heap.size + 1 + 1 + 1 + 1 + 1, R), (w.heap.size, a)]) ?F2 _ (fun J => ?hF) (by kernel_rfl) ?hL ?hS rfl rfl rfl rfl (by kernel_rfl) ?ho ?hl
     case hF =>
      simp only [yB, Kind.val, Act.put, List.setIfInBounds_toArray, List.set_cons_zero, List.set_cons_succ]
      exact rfl
     case hL => exact trivial
     case hS => exact fun w' hb => Rws.below HR2.out hb
     case ho =>
      refine yD.cons ?_ ?_
      ·(refine fun J => ⟨rfl, fun w' h => ?_⟩; clear h; go_simp)
      refine yD.cons ?_ ?_
      ·(refine fun J => ⟨rfl, fun w' h => ?_⟩; obtain ⟨h0, c0, c1, c2, c3, c4, c5⟩ := Rws.at h (g := (w.heap.size + 1 + 1 + 1 + 1 + 1)) (v := R) (by simp); clear h; go_simp)
      refine yD.cons ?_ ?_
      ·exact fun J => ⟨rfl, fun w' h => exec_load6 h (by simp) rfl rfl⟩
      refine yD.cons ?_ ?_
      ·exact fun J => ⟨rfl, fun w' _ => rfl⟩
      refine yD.cons ?_ ?_
      ·exact fun J => ⟨rfl, fun w' h => ⟨86, #[N a, .int .i64 i], exec_call rfl call86 rfl (by simp only [List.map_toArray, List.map_cons, List.map_nil]; rfl), CBi.out w'⟩⟩
      refine yD.cons ?_ ?_
      ·(refine fun J => ⟨rfl, fun w' h => ?_⟩; clear h; go_simp)
      refine yD.cons ?_ ?_
      ·(refine fun J => ⟨rfl, fun w' h => ?_⟩; clear h; go_simp)
      refine yD.cons ?_ ?_
      ·(refine fun J => ⟨rfl, fun w' h => ?_⟩; clear h; go_simp)
      exact trivial
     case hl =>
      intro J w3 l hM hl K hK
      have hD3 := HD2.out.below hM.below
      have b0 := (hD3.rr 0 (by omega)).1
      have f0 := (hD3.rr 0 (by omega)).2
      have HD3 : Hid _ := hD3
      clear hD3 hM hl l HD2 HR2
      rw [if_pos (by rfl)]
      go_simp
      refine hK.out _ _ ?_
      clear hK b0 f0
      have hD4 := HD3.out.low HLB.out
      clear HD3
      generalize w3.setCell ⟨w.heap.size + 1 + 1 + 1 + 1 + 1, 0, none⟩ (.int .u64 (bits .or .u64 (wd R 0) (e : Int))) = w4 at hD4 ⊢
      clear J
      obtain ⟨a0, a1, a2, a3, a4, a5⟩ := hD4.rr.reads
      obtain ⟨b0, b1, b2, b3, b4, b5⟩ := hD4.rb.reads
      have HD4 : Hid _ := hD4
      clear hD4
      go_wp2_with fail
      refine (CC.out _).mono ?_
      rintro e4 w4' ⟨rfl, hb4⟩
      have hD4' := HD4.out.below hb4
      clear HD4 hb4 a0 a1 a2 a3 a4 a5 b0 b1 b2 b3 b4 b5
      obtain ⟨a0, a1, a2, a3, a4, a5⟩ := hD4'.rr.reads
      obtain ⟨b0, b1, b2, b3, b4, b5⟩ := hD4'.rb.reads
      have HD4 : Hid _ := hD4'
      clear hD4'
      go_wp2_with fail
      refine (CS.out _).mono ?_
      rintro e3 w5 ⟨rfl, hb5⟩
      have hD5 := HD4.out.below hb5
      clear HD4 hb5 a0 a1 a2 a3 a4 a5 b0 b1 b2 b3 b4 b5
      obtain ⟨a0, a1, a2, a3, a4, a5⟩ := hD5.rr.reads
      obtain ⟨f0, f1, f2, f3, f4, f5⟩ := hD5.rr.writes
      have HD5 : Hid _ := hD5
      clear hD5
      go_wp2_with fail
      have hD6 := HD5.out.six rn
      clear HD5 a0 a1 a2 a3 a4 a5 f0 f1 f2 f3 f4 f5
      generalize ((((((w5.setCell ⟨w.heap.size + 1 + 1 + 1 + 1 + 1, 0, none⟩ (.int .u64 (wd rn 0))).setCell ⟨w.heap.size + 1 + 1 + 1 + 1 + 1, 1, none⟩ (.int .u64 (wd rn 1))).setCell ⟨w.heap.size + 1 + 1 + 1 + 1 + 1, 2, none⟩ (.int .u64 (wd rn 2))).setCell ⟨w.heap.size + 1 + 1 + 1 + 1 + 1, 3, none⟩ (.int .u64 (wd rn 3))).setCell ⟨w.heap.size + 1 + 1 + 1 + 1 + 1, 4, none⟩ (.int .u64 (wd rn 4))).setCell ⟨w.heap.size + 1 + 1 + 1 + 1 + 1, 5, none⟩ (.int .u64 (wd rn 5))) = w6 at hD6 ⊢
      obtain ⟨q1, q2⟩ := hD6.rq (i / 64) (by have := HE.out.2; omega)
      have HD6 : Hid _ := hD6
      clear hD6
      have hi := HE.out.2
      go_region
      go_wp2
      go_roundw
      case rel =>
       refine ⟨i, by omega, by go_num, ?_⟩
       rw [HN.out.1, HN.out.2]
       exact (HD6.out.bit (fun j => set_or q i j)).drew
      case measure => simp [RowKit.intOf] <;> omega
    ·have hR : R = 2 * r := by rw [← hRR, ← Nat.two_mul, Nat.mod_eq_of_lt (by omega)]
     obtain ⟨hN1, hN2⟩ : dvr a b i = 2 * r + e ∧ dvq a b i = q := by
      rcases HST.out.1 with ⟨s1, _, _⟩ | ⟨_, s2, s3⟩
      ·omega
      ·exact ⟨s2, s3⟩
     rw [← hR] at hN1
     have cc := fun w => compare_ref (R + e) b (by omega) HB.out.1 w
     have hcv : decide ((0 : Int) ≤ cmpv (R + e) b) = false := decide_eq_false (by unfold cmpv; rw [if_neg (by omega), if_pos (by omega)]; omega)
     generalize cmpv (R + e) b = cv at cc hcv
     have CC : Hid _ := cc
     have HN : Hid (_ ∧ _) := ⟨hN2, hN1⟩
     clear cc hN1 hN2 hR hbt hRR c hrb hrg hH hbb he2
     go_wp2_with fail
     refine (CA.out _).mono ?_
     rintro e1 w1 ⟨rfl, hb1⟩
     have hD1 := HD0.out.below hb1
     clear HD0 hb1 ht a0 a1 a2 a3 a4 a5
     obtain ⟨a0, a1, a2, a3, a4, a5⟩ := hD1.rr.reads
     obtain ⟨f0, f1, f2, f3, f4, f5⟩ := hD1.rr.writes
     have HD1 : Hid _ := hD1
     clear hD1
     go_wp2_with fail
     have hD2 := HD1.out.six R
     clear HD1 a0 a1 a2 a3 a4 a5 f0 f1 f2 f3 f4 f5
     generalize ((((((w1.setCell ⟨w.heap.size + 1 + 1 + 1 + 1 + 1, 0, none⟩ (.int .u64 (wd R 0))).setCell ⟨w.heap.size + 1 + 1 + 1 + 1 + 1, 1, none⟩ (.int .u64 (wd R 1))).setCell ⟨w.heap.size + 1 + 1 + 1 + 1 + 1, 2, none⟩ (.int .u64 (wd R 2))).setCell ⟨w.heap.size + 1 + 1 + 1 + 1 + 1, 3, none⟩ (.int .u64 (wd R 3))).setCell ⟨w.heap.size + 1 + 1 + 1 + 1 + 1, 4, none⟩ (.int .u64 (wd R 4))).setCell ⟨w.heap.size + 1 + 1 + 1 + 1 + 1, 5, none⟩ (.int .u64 (wd R 5))) = w2 at hD2 ⊢
     have HR2 : Hid _ := hD2.rws
     have HD2 : Hid _ := hD2
     clear hD2
     refine region_last (p := 8) (by kernel_rfl) [.q (.pointer (some ⟨w.heap.size + 1 + 1 + 1 + 1 + 1, 0, none⟩)), .q (.int .u64 (wd R 0)), .q (N a), .q (.int .i64 i), .call (.int .i64 (e : Int)), .q (.int .u64 (e : Int)), .q (.int .u64 (bits .or .u64 (wd R 0) (e : Int))), .q (.pointer (some ⟨w.heap.size + 1 + 1 + 1 + 1 + 1, 0, none⟩)), .gone] (fun w' => Rws w' [(w.heap.size + 1 + 1 + 1 + 1 + 1, R), (w.heap.size, a)]) ?F3 _ (fun J => ?hF) (by kernel_rfl) ?hL ?hS rfl rfl rfl rfl (by kernel_rfl) ?ho ?hl
     case hF =>
      simp only [yB, Kind.val, Act.put, List.setIfInBounds_toArray, List.set_cons_zero, List.set_cons_succ]
      exact rfl
     case hL => exact trivial
     case hS => exact fun w' hb => Rws.below HR2.out hb
     case ho =>
      refine yD.cons ?_ ?_
      ·(refine fun J => ⟨rfl, fun w' h => ?_⟩; clear h; go_simp)
      refine yD.cons ?_ ?_
      ·(refine fun J => ⟨rfl, fun w' h => ?_⟩; obtain ⟨h0, c0, c1, c2, c3, c4, c5⟩ := Rws.at h (g := (w.heap.size + 1 + 1 + 1 + 1 + 1)) (v := R) (by simp); clear h; go_simp)
      refine yD.cons ?_ ?_
      ·exact fun J => ⟨rfl, fun w' h => exec_load6 h (by simp) rfl rfl⟩
      refine yD.cons ?_ ?_
      ·exact fun J => ⟨rfl, fun w' _ => rfl⟩
      refine yD.cons ?_ ?_
      ·exact fun J => ⟨rfl, fun w' h => ⟨86, #[N a, .int .i64 i], exec_call rfl call86 rfl (by simp only [List.map_toArray, List.map_cons, List.map_nil]; rfl), CBi.out w'⟩⟩
      refine yD.cons ?_ ?_
      ·(refine fun J => ⟨rfl, fun w' h => ?_⟩; clear h; go_simp)
      refine yD.cons ?_ ?_
      ·(refine fun J => ⟨rfl, fun w' h => ?_⟩; clear h; go_simp)
      refine yD.cons ?_ ?_
      ·(refine fun J => ⟨rfl, fun w' h => ?_⟩; clear h; go_simp)
      exact trivial
     case hl =>
      intro J w3 l hM hl K hK
      have hD3 := HD2.out.below hM.below
      have b0 := (hD3.rr 0 (by omega)).1
      have f0 := (hD3.rr 0 (by omega)).2
      have HD3 : Hid _ := hD3
      clear hD3 hM hl l HD2 HR2
      rw [if_pos (by rfl)]
      go_simp
      refine hK.out _ _ ?_
      clear hK b0 f0
      have hD4 := HD3.out.low HLB.out
      clear HD3
      generalize w3.setCell ⟨w.heap.size + 1 + 1 + 1 + 1 + 1, 0, none⟩ (.int .u64 (bits .or .u64 (wd R 0) (e : Int))) = w4 at hD4 ⊢
      clear J
      obtain ⟨a0, a1, a2, a3, a4, a5⟩ := hD4.rr.reads
      obtain ⟨b0, b1, b2, b3, b4, b5⟩ := hD4.rb.reads
      have HD4 : Hid _ := hD4
      clear hD4
      go_wp2_with fail
      refine (CC.out _).mono ?_
      rintro e4 w4' ⟨rfl, hb4⟩
      have hD4' := HD4.out.below hb4
      clear HD4 hb4 a0 a1 a2 a3 a4 a5 b0 b1 b2 b3 b4 b5
      have HD4 : Hid _ := hD4'
      clear hD4'
      have hi := HE.out.2
      go_wp2
      go_roundw
      case rel =>
       refine ⟨i, by omega, by go_num, ?_⟩
       rw [HN.out.1, HN.out.2]
       exact HD4.out
      case measure => simp [RowKit.intOf] <;> omega
  ·have hk0 : k = 0 := by omega
   subst hk0
   rw [show (((0 : Nat) : Int) - 1) = -1 from rfl]
   obtain ⟨e1, e2⟩ := dv_end a b
   rw [e1, e2] at hD
   obtain ⟨q0, q1, q2, q3, q4, q5⟩ := hD.rq.reads
   obtain ⟨r0, r1, r2, r3, r4, r5⟩ := hD.rr.reads
   obtain ⟨z0, z1, z2, z3, z4, z5⟩ := hD.z2.writes
   obtain ⟨y0, y1, y2, y3, y4, y5⟩ := hD.z2.reads
   obtain ⟨x0, x1, x2, x3, x4, x5⟩ := hD.z3.writes
   obtain ⟨v0, v1, v2, v3, v4, v5⟩ := hD.z3.reads
   have HW : Hid _ := hD.bl
   have HS : Hid _ := hD.sz
   clear hD e1 e2 hk h0 CB HA HB
   go_wp2
   go_region
   go_wp2
   refine bodyPost_ret (v := .tuple #[N (a / b), N (a % b), .int .i64 0]) ?_ rfl ⟨rfl, ?_⟩
   ·simp [results, Tryz.results62, go_sem, *]
   ·exact (below6 (below6 HW.out (by omega) _ _ _ _ _ _) (by omega) _ _ _ _ _ _).drew
end Go.Proofs.YtacicklddhehaaaGreatDoor
end
section
namespace Go.Proofs.YtacicklddhehaaaGreatDoor
open Go.RowKit
namespace Rg
set_option maxRecDepth 100000
theorem zZ {ρ : Operand → Value} {o : Oper} {x : Operand} {g off n : Nat} {t : TypeId} {cs ms : List Value} {w : World} {l : List (Nat × List Value)} (h : Mm w l) (q : Nat) (hk : l[q]? = some (g, cs)) (ho : o.op = .load t x) (hx : ρ x = PT g off) (ha : ∀ w, (isAgg t).run Tryz.prog w = .ok true w) (hs : ∀ w, (sizeOf t).run Tryz.prog w = .ok n w) (hc : (cs.drop off).take n = ms) (hl : ms.length = n) :
  (execOp ρ o).run Tryz.prog w = .ok (.value (.agg ms.toArray)) w := by
 have hm := List.mem_of_getElem? hk
 have hcell := run_loadCells_list (P := Tryz.prog) (w := w) ⟨g, off, none⟩ ms (fun j v hv => by
  have e : cs[off + j]? = some v := by
   rw [← List.getElem?_drop]
   rw [← hc, List.getElem?_take] at hv
   split at hv
   ·exact hv
   ·cases hv
  have e2 := h.cell hm e
  rw [show (⟨g, off, none⟩ : Addr).add j = ⟨g, off + j, none⟩ from by unfold Addr.add; split <;> simp_all]
  exact e2)
 rw [hl] at hcell
 have hf : (loadCellsFrom ⟨g, off, none⟩ 0 n #[]).run Tryz.prog w = .ok ms.toArray w := hcell
 clear hcell hc hk hm h
 simp only [execOp, ho, hx]
 go_simp
theorem ex_loadC {ρ : Operand → Value} {o : Oper} {x : Operand} {g off : Nat} {t : TypeId} {v : Value} {cs : List Value} {w : World} {l : List (Nat × List Value)} (h : Mm w l) (k : Nat) (hk : l[k]? = some (g, cs)) (ho : o.op = .load t x) (hx : ρ x = PT g off) (ha : ∀ w, (isAgg t).run Tryz.prog w = .ok false w) (hc : cs[off]? = some v) :
  (execOp ρ o).run Tryz.prog w = .ok (.value v) w := by
 have c0 := h.cell (List.mem_of_getElem? hk) hc
 clear h hk hc
 simp only [execOp, ho, hx]
 go_simp
theorem lC {ρ : Operand → Value} {o : Oper} {x : Operand} {g off : Nat} {t : TypeId} {v : Value} {cs : List Value} {w : World} {l : List (Nat × List Value)} (h : Mm w l) (k : Nat) (ha : ∀ w, (isAgg t).run Tryz.prog w = .ok false w) (hk : l[k]? = some (g, cs) := by exact rfl) (ho : o.op = .load t x := by exact rfl) (hx : ρ x = PT g off := by exact rfl) (hc : cs[off]? = some v := by exact rfl) : (execOp ρ o).run Tryz.prog w = .ok (.value v) w := ex_loadC h k hk ho hx ha hc
theorem lT {ρ : Operand → Value} {o : Oper} {x : Operand} {g off n : Nat} {t : TypeId} {cs ms : List Value} {w : World} {l : List (Nat × List Value)} (h : Mm w l) (q : Nat) (ha : ∀ w, (isAgg t).run Tryz.prog w = .ok true w) (hs : ∀ w, (sizeOf t).run Tryz.prog w = .ok n w) (hk : l[q]? = some (g, cs) := by exact rfl) (ho : o.op = .load t x := by exact rfl) (hx : ρ x = PT g off := by exact rfl) (hc : (cs.drop off).take n = ms := by exact rfl) (hl : ms.length = n := by exact rfl) : (execOp ρ o).run Tryz.prog w = .ok (.value (.agg ms.toArray)) w := zZ h q hk ho hx ha hs hc hl
theorem bC {ops : Array Oper} {L : List (Nat × List Value)} {F : (Nat → Nat) → Act} {o : Oper} {os : List Oper} {ks : List Kind} {x : Operand} {g off : Nat} {cs : List Value} {t : TypeId} {v : Value} (k : Nat) (ha : ∀ w, (isAgg t).run Tryz.prog w = .ok false w) (hs : yD Tryz.prog ops (fun w' => Mm w' L) F os ks) (hw : ∀ J, Region.wanted o (yielded ops (F J).tmps) = true := by exact fun _ => rfl) (hk : L[k]? = some (g, cs) := by exact rfl) (ho : o.op = .load t x := by exact rfl) (hx : ∀ J, (F J).eval x = PT g off := by exact fun _ => rfl) (hc : cs[off]? = some v := by exact rfl) : yD Tryz.prog ops (fun w' => Mm w' L) F (o :: os) (.q v :: ks) := ⟨fun J => ⟨hw J, fun _ h => ex_loadC h k hk ho (hx J) ha hc⟩, hs⟩
theorem bT {ops : Array Oper} {L : List (Nat × List Value)} {F : (Nat → Nat) → Act} {o : Oper} {os : List Oper} {ks : List Kind} {x : Operand} {g off : Nat} {cs : List Value} {n : Nat} {t : TypeId} {ms : List Value} (k : Nat) (ha : ∀ w, (isAgg t).run Tryz.prog w = .ok true w) (hz : ∀ w, (sizeOf t).run Tryz.prog w = .ok n w) (hs : yD Tryz.prog ops (fun w' => Mm w' L) F os ks) (hw : ∀ J, Region.wanted o (yielded ops (F J).tmps) = true := by exact fun _ => rfl) (hk : L[k]? = some (g, cs) := by exact rfl) (ho : o.op = .load t x := by exact rfl) (hx : ∀ J, (F J).eval x = PT g off := by exact fun _ => rfl) (hc : (cs.drop off).take n = ms := by exact rfl) (hl : ms.length = n := by exact rfl) : yD Tryz.prog ops (fun w' => Mm w' L) F (o :: os) (.q (.agg ms.toArray) :: ks) := ⟨fun J => ⟨hw J, fun _ h => zZ h k hk ho (hx J) ha hz hc hl⟩, hs⟩
theorem ex_boxT {ρ : Operand → Value} {o : Oper} {x : Operand} {t : TypeId} {cs : List Value} {w : World} (ho : o.op = .box t x) (hx : ρ x = .agg cs.toArray) :
  (execOp ρ o).run Tryz.prog w = .ok (.value (.pointer (some ⟨w.heap.size, 0, none⟩))) (w.alloc (.cells cs.toArray t)) := by
 simp only [execOp, ho, hx]
 go_simp
theorem ex_storeT {ρ : Operand → Value} {o : Oper} {x y : Operand} {g off : Nat} {t : TypeId} {cs vs : List Value} {w : World} {l : List (Nat × List Value)} (h : Mm w l) (q : Nat) (hk : l[q]? = some (g, cs)) (ho : o.op = .store t x y) (hx : ρ x = PT g off) (hy : ρ y = .agg vs.toArray) (hs : ∀ w, (sizeOf t).run Tryz.prog w = .ok vs.length w) (h1 : vs.all Value.oneCell' = true) (hb : off + vs.length ≤ cs.length) :
  (execOp ρ o).run Tryz.prog w = .ok .skip (w.setCells g off vs) := by
 have hm := List.mem_of_getElem? hk
 have hq : ∀ j, j < vs.length → ∃ u, cs[off + j]? = some u := fun j hj => ⟨_, List.getElem?_eq_getElem (by omega)⟩
 have hst := run_storeCells_cells (P := Tryz.prog) g off vs 0 w (fun j hj => by
  obtain ⟨u, hu⟩ := hq j hj
  rw [show off + 0 + j = off + j by omega, h.cell hm hu]; rfl) (fun j hj => by
  obtain ⟨u, hu⟩ := hq j hj
  rw [show off + 0 + j = off + j by omega]; exact h.free hm hu) (List.all_eq_true.1 h1)
 clear h hm hq hb hk
 simp only [execOp, ho, hx, hy]
 go_simp
theorem var_T {g n : Nat} {t : TypeId} {cs : List Value} {w : World} {l : List (Nat × List Value)} (h : Mm w l) (q : Nat) (hk : l[q]? = some (g, cs)) (ha : ∀ w, (isAgg t).run Tryz.prog w = .ok true w) (hs : ∀ w, (sizeOf t).run Tryz.prog w = .ok n w) (hn : cs.length = n) : (loadVar t ⟨g, 0, none⟩).run Tryz.prog w = .ok (.agg cs.toArray) w := by
 have hm := List.mem_of_getElem? hk
 have hcell := run_loadCells_list (P := Tryz.prog) (w := w) ⟨g, 0, none⟩ cs (fun j v hv => by
  have e2 := h.cell hm hv
  rw [show (⟨g, 0, none⟩ : Addr).add j = ⟨g, j, none⟩ from by unfold Addr.add; split <;> simp_all]
  exact e2)
 rw [hn] at hcell
 have hf : (loadCellsFrom ⟨g, 0, none⟩ 0 n #[]).run Tryz.prog w = .ok cs.toArray w := hcell
 clear hcell h hk hm
 simp only [loadVar]
 go_simp
theorem cel0 : cel [0] = [.int .u64 0, .int .u64 0, .int .u64 0, .int .u64 0, .int .u64 0, .int .u64 0] := cel_zero 1
theorem ex_made36 {ρ : Operand → Value} {o : Oper} {w : World} (ho : o.op = .alloc 36) :
  (execOp ρ o).run Tryz.prog w = .ok (.value (.pointer (some ⟨w.heap.size, 0, none⟩))) (w.alloc (.cells (cel [0] ++ ([Value.int .u64 0] ++ cel [0])).toArray 36)) := by
 rw [cel0]
 simp only [execOp, ho]
 go_simp
theorem ex_build36 {ρ : Operand → Value} {o : Oper} {x0 x1 x2 : Operand} {a c : Nat} {l : Int} {w : World} (ho : o.op = .build 36 #[(0, x0), (1, x1), (2, x2)]) (h0 : ρ x0 = N a) (h1 : ρ x1 = .int .u64 l) (h2 : ρ x2 = N c) :
  (execOp ρ o).run Tryz.prog w = .ok (.value (.agg (cel [a] ++ ([Value.int .u64 l] ++ cel [c])).toArray)) w := by
 simp only [execOp, ho, List.map_toArray, List.map_cons, List.map_nil, h0, h1, h2]
 kernel_rfl
/-- What 2^768 leaves by p. -/
def sqP : Nat := 2708263910654730174793787626328176511836455197166317677006154293982164122222515399004018013397331347120527951271750
theorem sqP_0 : wd sqP 0 = 17644856173732828998 := by decide +kernel
theorem sqP_1 : wd sqP 1 = 754043588434789617 := by decide +kernel
theorem sqP_2 : wd sqP 2 = 10224657059481499349 := by decide +kernel
theorem sqP_3 : wd sqP 3 = 7488229067341005760 := by decide +kernel
theorem sqP_4 : wd sqP 4 = 11130996698012816685 := by decide +kernel
theorem sqP_5 : wd sqP 5 = 1267921511277847466 := by decide +kernel
theorem exd_build_pB {ρ : Operand → Value} {o : Oper} {w : World} (ho : o.op = .build 24 #[(0, .const (.int .u64 13402431016077863595)), (1, .const (.int .u64 2210141511517208575)), (2, .const (.int .u64 7435674573564081700)), (3, .const (.int .u64 7239337960414712511)), (4, .const (.int .u64 5412103778470702295)), (5, .const (.int .u64 1873798617647539866))]) (h0 : ρ (.const (.int .u64 13402431016077863595)) = .int .u64 13402431016077863595) (h1 : ρ (.const (.int .u64 2210141511517208575)) = .int .u64 2210141511517208575) (h2 : ρ (.const (.int .u64 7435674573564081700)) = .int .u64 7435674573564081700) (h3 : ρ (.const (.int .u64 7239337960414712511)) = .int .u64 7239337960414712511) (h4 : ρ (.const (.int .u64 5412103778470702295)) = .int .u64 5412103778470702295) (h5 : ρ (.const (.int .u64 1873798617647539866)) = .int .u64 1873798617647539866) : (execOp ρ o).run Tryz.prog w = .ok (.value (N pB)) w := by
 have e : N pB = .agg #[.int .u64 13402431016077863595, .int .u64 2210141511517208575, .int .u64 7435674573564081700, .int .u64 7239337960414712511, .int .u64 5412103778470702295, .int .u64 1873798617647539866] := by simp only [N, pB_0, pB_1, pB_2, pB_3, pB_4, pB_5]
 rw [e]
 clear e
 simp only [execOp, ho]
 go_simp
theorem dBase (w : World) :
  Calls Tryz.prog 38 #[] w (Rt w (N pB)) := by
 have H0 : Hid (_ ∧ _) := ⟨Mm.nil w, Below.refl w.heap.size w⟩
 go_enter Tryz.func38, Tryz.ntmps38
 refine wp_seq ?_
 refine zD 1 [.made zero6 24] (sB H0) ?ho1 ?he1
 case ho1 => exact am (zF rfl) trivial
 intro J w1 l hM hl
 have H1 : Hid (Mm w1 [(J 0, zero6)] ∧ _) := wB H0 hM hl [0]
 have o1_0 := vB H0 hM hl 0
 clear hM hl l
 generalize J 0 = J1_0 at H1 o1_0 ⊢
 clear J
 refine rN (wp_seq ?_)
 refine zC 1 [.q (N pB)] H1 ?ho2 ?he2
 case ho2 => exact ak (fun J => ⟨rfl, fun w' _ => exd_build_pB rfl rfl rfl rfl rfl rfl rfl ⟩) trivial
 intro _ w2 H2
 clear H1
 refine zG (l := [1]) rfl ?_
 refine sG rfl (fun h => zM h 0 rfl rfl rfl rfl (Nat.le_of_ble_eq_true rfl)) 0 [(_, zB pB)] H2 o1_0 fun w3 H3 => ?_
 clear H2
 refine zE (zA (wp_ret ?_))
 repeat (first | refine zK ?_ | refine zI ?_)
 have c0 := H3.out.1.get 0 rfl 0 rfl
 have c1 := H3.out.1.get 0 rfl 1 rfl
 have c2 := H3.out.1.get 0 rfl 2 rfl
 have c3 := H3.out.1.get 0 rfl 3 rfl
 have c4 := H3.out.1.get 0 rfl 4 rfl
 have c5 := H3.out.1.get 0 rfl 5 rfl
 refine bodyPost_ret (v := N pB) (by simp [results, Tryz.results38, go_sem, *]) rfl ?_
 exact ⟨rfl, H3.out.2⟩
theorem exd_build_sqP {ρ : Operand → Value} {o : Oper} {w : World} (ho : o.op = .build 24 #[(0, .const (.int .u64 17644856173732828998)), (1, .const (.int .u64 754043588434789617)), (2, .const (.int .u64 10224657059481499349)), (3, .const (.int .u64 7488229067341005760)), (4, .const (.int .u64 11130996698012816685)), (5, .const (.int .u64 1267921511277847466))]) (h0 : ρ (.const (.int .u64 17644856173732828998)) = .int .u64 17644856173732828998) (h1 : ρ (.const (.int .u64 754043588434789617)) = .int .u64 754043588434789617) (h2 : ρ (.const (.int .u64 10224657059481499349)) = .int .u64 10224657059481499349) (h3 : ρ (.const (.int .u64 7488229067341005760)) = .int .u64 7488229067341005760) (h4 : ρ (.const (.int .u64 11130996698012816685)) = .int .u64 11130996698012816685) (h5 : ρ (.const (.int .u64 1267921511277847466)) = .int .u64 1267921511277847466) : (execOp ρ o).run Tryz.prog w = .ok (.value (N sqP)) w := by
 have e : N sqP = .agg #[.int .u64 17644856173732828998, .int .u64 754043588434789617, .int .u64 10224657059481499349, .int .u64 7488229067341005760, .int .u64 11130996698012816685, .int .u64 1267921511277847466] := by simp only [N, sqP_0, sqP_1, sqP_2, sqP_3, sqP_4, sqP_5]
 rw [e]
 clear e
 simp only [execOp, ho]
 go_simp
theorem dP (w : World) :
  Calls Tryz.prog 19 #[] w (Rt w (.agg (cel [pB] ++ ([Value.int .u64 9940570264628428797] ++ cel [sqP])).toArray)) := by
 have H0 : Hid (_ ∧ _) := ⟨Mm.nil w, Below.refl w.heap.size w⟩
 go_enter Tryz.func19, Tryz.ntmps19
 refine wp_seq ?_
 refine zD 1 [.made (cel [0] ++ ([Value.int .u64 0] ++ cel [0])) 36] (sB H0) ?ho1 ?he1
 case ho1 => exact am (ex_made36 rfl) trivial
 intro J w1 l hM hl
 have H1 : Hid (Mm w1 [(J 0, cel [0] ++ ([Value.int .u64 0] ++ cel [0]))] ∧ _) := wB H0 hM hl [0]
 have o1_0 := vB H0 hM hl 0
 clear hM hl l
 generalize J 0 = J1_0 at H1 o1_0 ⊢
 clear J
 refine rN (wp_seq ?_)
 refine zC 3 [.call (N pB), .q (N sqP), .q (.agg (cel [pB] ++ ([Value.int .u64 9940570264628428797] ++ cel [sqP])).toArray)] H1 ?ho2 ?he2
 case ho2 => exact ac (fun w' h => eC call38 (dBase w')) (ak (fun J => ⟨rfl, fun w' _ => exd_build_sqP rfl rfl rfl rfl rfl rfl rfl ⟩) (ak (fun J => ⟨rfl, fun w' _ => ex_build36 rfl rfl rfl rfl⟩) trivial))
 intro _ w2 H2
 clear H1
 refine zG (l := [3]) rfl ?_
 refine sG rfl (fun h => ex_storeT (vs := cel [pB] ++ ([Value.int .u64 9940570264628428797] ++ cel [sqP])) h 0 rfl rfl rfl rfl As36 rfl (Nat.le_of_ble_eq_true rfl)) 0 [(_, cel [pB] ++ ([Value.int .u64 9940570264628428797] ++ cel [sqP]))] H2 o1_0 fun w3 H3 => ?_
 clear H2
 refine zE (zA (wp_ret ?_))
 repeat (first | refine zK ?_ | refine zI ?_)
 have hf0 := var_T H3.out.1 0 rfl Ai36 As36 rfl
 refine bodyPost_ret (v := .agg (cel [pB] ++ ([Value.int .u64 9940570264628428797] ++ cel [sqP])).toArray) (by simp [results, Tryz.results19, asAddr, hf0]) rfl ?_
 exact ⟨rfl, H3.out.2⟩
theorem w6N (v : Nat) : Value.agg (Fs.ints .u64 (Fs.wdv v) 6).toArray = N v := by
 have e : ∀ i, ((Fs.wdv v i : Nat) : Int) = wd v i := fun i => by unfold Fs.wdv wd; rw [Nat.pow_mul]
 unfold N
 rw [← e 0, ← e 1, ← e 2, ← e 3, ← e 4, ← e 5]
 rfl
theorem fPN : Value.agg (Fs.ints .u64 Fs.fstP 13).toArray = .agg (cel [pB] ++ ([Value.int .u64 9940570264628428797] ++ cel [sqP])).toArray := by
 have e1 : cel [pB] = [.int .u64 (wd pB 0), .int .u64 (wd pB 1), .int .u64 (wd pB 2), .int .u64 (wd pB 3), .int .u64 (wd pB 4), .int .u64 (wd pB 5)] := rfl
 have e2 : cel [sqP] = [.int .u64 (wd sqP 0), .int .u64 (wd sqP 1), .int .u64 (wd sqP 2), .int .u64 (wd sqP 3), .int .u64 (wd sqP 4), .int .u64 (wd sqP 5)] := rfl
 rw [e1, e2, pB_0, pB_1, pB_2, pB_3, pB_4, pB_5, sqP_0, sqP_1, sqP_2, sqP_3, sqP_4, sqP_5]
 show (_ : Value) = _
 kernel_rfl
theorem pw64 (n : Nat) : 18446744073709551616 ^ n = 2 ^ (64 * n) := by rw [Nat.pow_mul]
theorem big6 : 18446744073709551616 ^ 6 = big := (pw64 6).trans big_eq.symm
theorem modP_pB : Fs.modP = pB := rfl
theorem hcP (x : Nat) (hx : x < 18446744073709551616 ^ 6) : ∃ z : Int, (0 ≤ z ↔ Fs.modP ≤ x) ∧ ∀ w, Calls Tryz.prog 39 #[.agg (Fs.ints .u64 (Fs.wdv x) 6).toArray, .agg (Fs.ints .u64 (Fs.wdv Fs.modP) 6).toArray] w (Rt w (.int .i64 z)) := by
 rw [w6N, w6N, modP_pB]
 rw [big6] at hx
 refine ⟨cmpv x pB, ?_, fun w => compare_ref x pB hx pB_lt w⟩
 unfold cmpv
 by_cases h : x = pB
 ·rw [if_pos h]; omega
 ·rw [if_neg h]
  by_cases h2 : x < pB
  ·rw [if_pos h2]; omega
  ·rw [if_neg h2]; omega
theorem hsP (x : Nat) (hx : x < 18446744073709551616 ^ 6) : ∃ bb : Bool, ∀ w, Calls Tryz.prog 44 #[.agg (Fs.ints .u64 (Fs.wdv x) 6).toArray, .agg (Fs.ints .u64 (Fs.wdv Fs.modP) 6).toArray] w (Rt w (.tuple #[.agg (Fs.ints .u64 (Fs.wdv ((x + 18446744073709551616 ^ 6 - Fs.modP) % 18446744073709551616 ^ 6)) 6).toArray, .bool bb])) := by
 rw [w6N, w6N, w6N, modP_pB, big6]
 rw [big6] at hx
 exact ⟨_, fun w => sub_ref x pB hx pB_lt w⟩
theorem haP (x y : Nat) (hx : x < 18446744073709551616 ^ 6) (hy : y < 18446744073709551616 ^ 6) : ∃ cb : Bool, ∀ w, Calls Tryz.prog 43 #[.agg (Fs.ints .u64 (Fs.wdv x) 6).toArray, .agg (Fs.ints .u64 (Fs.wdv y) 6).toArray] w (Rt w (.tuple #[.agg (Fs.ints .u64 (Fs.wdv ((x + y) % 18446744073709551616 ^ 6)) 6).toArray, .bool cb])) := by
 rw [w6N, w6N, w6N, big6]
 rw [big6] at hx hy
 exact ⟨_, fun w => add_ref x y hx hy w⟩
theorem fMulP {x y : Nat} (hx : x < pB) (hy : y < pB) (w : World) : Calls Tryz.prog 29 #[.agg (cel [pB] ++ ([Value.int .u64 9940570264628428797] ++ cel [sqP])).toArray, N x, N y] w (Rt w (N (x * y % pB))) := by
 have h := Fs.fmul_num Fs.fa_P hcP hsP (x := x) (y := y) (by rw [big6]; exact Nat.lt_trans hx pB_lt) hy w
 rw [w6N, w6N, w6N, fPN, modP_pB] at h
 exact h
theorem fAddP {x y : Nat} (hx : x < pB) (hy : y < pB) (w : World) : Calls Tryz.prog 23 #[.agg (cel [pB] ++ ([Value.int .u64 9940570264628428797] ++ cel [sqP])).toArray, N x, N y] w (Rt w (N ((x + y) % pB))) := by
 have h := Fs.fadd_num Fs.fa_P hcP hsP haP (x := x) (y := y) hx hy w
 rw [w6N, w6N, w6N, fPN, modP_pB] at h
 exact h
/-! The same in whole numbers by p. -/
theorem fMulZ (x y : Int) (w : World) : Calls Tryz.prog 29 #[.agg (cel [pB] ++ ([Value.int .u64 9940570264628428797] ++ cel [sqP])).toArray, N (pz x), N (pz y)] w (Rt w (N (pz (x * y)))) := by
 have h := fMulP (pz_lt x) (pz_lt y) w
 have e : pz x * pz y % pB = pz (x * y) := by rw [← pz_nat, Int.natCast_mul, pz_mul]
 rw [e] at h
 exact h
theorem fAddZ (x y : Int) (w : World) : Calls Tryz.prog 23 #[.agg (cel [pB] ++ ([Value.int .u64 9940570264628428797] ++ cel [sqP])).toArray, N (pz x), N (pz y)] w (Rt w (N (pz (x + y)))) := by
 have h := fAddP (pz_lt x) (pz_lt y) w
 have e : (pz x + pz y) % pB = pz (x + y) := by rw [← pz_nat, Int.natCast_add, pz_add]
 rw [e] at h
 exact h
theorem fneg_0 {fn fs a : Nat} {fl : Int} (he : ∀ w, (Op.equalIn 10000 24 (N a) (N 0)).run Tryz.prog w = .ok true w) (w : World) :
  Calls Tryz.prog 25 #[.agg (cel [fn] ++ ([Value.int .u64 fl] ++ cel [fs])).toArray, N a] w (Rt w (N a)) := by
 have H0 : Hid (_ ∧ _) := ⟨Mm.nil w, Below.refl w.heap.size w⟩
 go_enter Tryz.func25, Tryz.ntmps25
 refine wp_seq ?_
 refine zD 3 [.made (cel [fn] ++ ([Value.int .u64 fl] ++ cel [fs])) 36, .made (zB a) 24, .made zero6 24] (sB H0) ?ho1 ?he1
 case ho1 => exact am (ex_boxT rfl rfl) (am (zU rfl rfl) (am (zF rfl) trivial))
 intro J w1 l hM hl
 have H1 : Hid (Mm w1 [(J 0, cel [fn] ++ ([Value.int .u64 fl] ++ cel [fs])), (J 1, zB a), (J 2, zero6)] ∧ _) := wB H0 hM hl [0, 1, 2]
 have o1_0 := vB H0 hM hl 0
 have o1_1 := vB H0 hM hl 1
 have o1_2 := vB H0 hM hl 2
 clear hM hl l
 generalize J 0 = J1_0 at H1 o1_0 ⊢
 generalize J 1 = J1_1 at H1 o1_1 ⊢
 generalize J 2 = J1_2 at H1 o1_2 ⊢
 clear J
 refine rN (wp_seq (wp_seq ?_))
 refine zC 3 [.q (N a), .q (N 0), .q (.bool true)] H1 ?ho2 ?he2
 case ho2 => exact bN 1 (ak (by refine fun J => ⟨rfl, fun w' h => ?_⟩; clear h; exact ex_zero6 rfl) (ak (fun J => ⟨rfl, fun w' _ => exec_eq6 he rfl rfl rfl⟩) trivial))
 intro _ w2 H2
 clear H1
 refine rN (wp_cond_true rfl (wp_seq ?_))
 refine zC 1 [.q (N a)] H2 ?ho3 ?he3
 case ho3 => exact bN 1 trivial
 intro _ w3 H3
 clear H2
 refine zG (l := [1]) rfl ?_
 refine sG rfl (fun h => zM h 2 rfl rfl rfl rfl (Nat.le_of_ble_eq_true rfl)) 2 [_, _, (_, zB a)] H3 o1_2 fun w4 H4 => ?_
 clear H3
 refine zE (zA (wp_ret ?_))
 repeat (first | refine zK ?_ | refine zI ?_)
 have c0 := H4.out.1.get 2 rfl 0 rfl
 have c1 := H4.out.1.get 2 rfl 1 rfl
 have c2 := H4.out.1.get 2 rfl 2 rfl
 have c3 := H4.out.1.get 2 rfl 3 rfl
 have c4 := H4.out.1.get 2 rfl 4 rfl
 have c5 := H4.out.1.get 2 rfl 5 rfl
 refine bodyPost_ret (v := N a) (by simp [results, Tryz.results25, go_sem, *]) rfl ?_
 exact ⟨rfl, H4.out.2⟩
theorem fneg_1 {fn fs a d : Nat} {fl : Int} {bb : Bool} (he : ∀ w, (Op.equalIn 10000 24 (N a) (N 0)).run Tryz.prog w = .ok false w) (hs : ∀ w, Calls Tryz.prog 44 #[N fn, N a] w (Rt w (.tuple #[N d, .bool bb]))) (w : World) :
  Calls Tryz.prog 25 #[.agg (cel [fn] ++ ([Value.int .u64 fl] ++ cel [fs])).toArray, N a] w (Rt w (N d)) := by
 have H0 : Hid (_ ∧ _) := ⟨Mm.nil w, Below.refl w.heap.size w⟩
 have HS : Hid _ := hs
 clear hs
 go_enter Tryz.func25, Tryz.ntmps25
 refine wp_seq ?_
 refine zD 3 [.made (cel [fn] ++ ([Value.int .u64 fl] ++ cel [fs])) 36, .made (zB a) 24, .made zero6 24] (sB H0) ?ho1 ?he1
 case ho1 => exact am (ex_boxT rfl rfl) (am (zU rfl rfl) (am (zF rfl) trivial))
 intro J w1 l hM hl
 have H1 : Hid (Mm w1 [(J 0, cel [fn] ++ ([Value.int .u64 fl] ++ cel [fs])), (J 1, zB a), (J 2, zero6)] ∧ _) := wB H0 hM hl [0, 1, 2]
 have o1_0 := vB H0 hM hl 0
 have o1_1 := vB H0 hM hl 1
 have o1_2 := vB H0 hM hl 2
 clear hM hl l
 generalize J 0 = J1_0 at H1 o1_0 ⊢
 generalize J 1 = J1_1 at H1 o1_1 ⊢
 generalize J 2 = J1_2 at H1 o1_2 ⊢
 clear J
 refine rN (wp_seq (wp_seq ?_))
 refine zC 3 [.q (N a), .q (N 0), .q (.bool false)] H1 ?ho2 ?he2
 case ho2 => exact bN 1 (ak (by refine fun J => ⟨rfl, fun w' h => ?_⟩; clear h; exact ex_zero6 rfl) (ak (fun J => ⟨rfl, fun w' _ => exec_eq6 he rfl rfl rfl⟩) trivial))
 intro _ w2 H2
 clear H1
 refine rN (wp_cond_false rfl ?_)
 refine wp_skip (zA (wp_seq ?_))
 refine zD 10 [.q (PT J1_0 0), .q (N fn), .q (N a), .call (.tuple #[N d, .bool bb]), .q (.tuple #[N d, .bool bb]), .q (N d), .q (.bool bb), .made zero6 24, .laid 7 zero6 (zB d), .q (.bool bb)] (sB H2) ?ho3 ?he3 (hL := ?hL3)
 case hL3 => exact ⟨⟨_, rfl⟩, trivial⟩
 case ho3 => exact ag (bN 0 (bN 1 (ac (fun w' h => eC call44 (HS.out w')) (ar (ag (ag (am (zF rfl) (ak (fun J => ⟨rfl, rfl, rfl, fun w' h => zJ h rfl rfl rfl⟩) (ar trivial)))))))))
 intro J w3 l hM hl
 have H3 : Hid (Mm w3 ([(J 7, zB d)] ++ _) ∧ _) := wB H2 hM hl [7]
 have o3_7 := vB H2 hM hl 7
 clear hM hl l H2
 generalize J 7 = J3_7 at H3 o3_7 ⊢
 clear J
 refine rN (wp_seq ?_)
 refine zC 1 [.q (N d)] H3 ?ho4 ?he4
 case ho4 => exact bN 0 trivial
 intro _ w4 H4
 clear H3
 refine zG (l := [1]) rfl ?_
 refine sG rfl (fun h => zM h 3 rfl rfl rfl rfl (Nat.le_of_ble_eq_true rfl)) 3 [_, _, _, (_, zB d)] H4 o1_2 fun w5 H5 => ?_
 clear H4
 refine zE (zA (wp_ret ?_))
 repeat (first | refine zK ?_ | refine zI ?_)
 have c0 := H5.out.1.get 3 rfl 0 rfl
 have c1 := H5.out.1.get 3 rfl 1 rfl
 have c2 := H5.out.1.get 3 rfl 2 rfl
 have c3 := H5.out.1.get 3 rfl 3 rfl
 have c4 := H5.out.1.get 3 rfl 4 rfl
 have c5 := H5.out.1.get 3 rfl 5 rfl
 refine bodyPost_ret (v := N d) (by simp [results, Tryz.results25, go_sem, *]) rfl ?_
 exact ⟨rfl, H5.out.2⟩
theorem fsub_w {fn fs a c n d : Nat} {fl : Int} (k1 : ∀ w, Calls Tryz.prog 25 #[.agg (cel [fn] ++ ([Value.int .u64 fl] ++ cel [fs])).toArray, N c] w (Rt w (N n))) (k2 : ∀ w, Calls Tryz.prog 23 #[.agg (cel [fn] ++ ([Value.int .u64 fl] ++ cel [fs])).toArray, N a, N n] w (Rt w (N d))) (w : World) :
  Calls Tryz.prog 28 #[.agg (cel [fn] ++ ([Value.int .u64 fl] ++ cel [fs])).toArray, N a, N c] w (Rt w (N d)) := by
 have H0 : Hid (_ ∧ _) := ⟨Mm.nil w, Below.refl w.heap.size w⟩
 have Ha : Hid _ := k1
 have Hb : Hid _ := k2
 clear k1 k2
 go_enter Tryz.func28, Tryz.ntmps28
 refine wp_seq ?_
 refine zD 4 [.made (cel [fn] ++ ([Value.int .u64 fl] ++ cel [fs])) 36, .made (zB a) 24, .made (zB c) 24, .made zero6 24] (sB H0) ?ho1 ?he1
 case ho1 => exact am (ex_boxT rfl rfl) (am (zU rfl rfl) (am (zU rfl rfl) (am (zF rfl) trivial)))
 intro J w1 l hM hl
 have H1 : Hid (Mm w1 [(J 0, cel [fn] ++ ([Value.int .u64 fl] ++ cel [fs])), (J 1, zB a), (J 2, zB c), (J 3, zero6)] ∧ _) := wB H0 hM hl [0, 1, 2, 3]
 have o1_0 := vB H0 hM hl 0
 have o1_1 := vB H0 hM hl 1
 have o1_2 := vB H0 hM hl 2
 have o1_3 := vB H0 hM hl 3
 clear hM hl l
 generalize J 0 = J1_0 at H1 o1_0 ⊢
 generalize J 1 = J1_1 at H1 o1_1 ⊢
 generalize J 2 = J1_2 at H1 o1_2 ⊢
 generalize J 3 = J1_3 at H1 o1_3 ⊢
 clear J
 refine rN (wp_seq ?_)
 refine zS 6 [.q (.agg (cel [fn] ++ ([Value.int .u64 fl] ++ cel [fs])).toArray), .q (N a), .q (.agg (cel [fn] ++ ([Value.int .u64 fl] ++ cel [fs])).toArray), .q (N c), .call (N n), .call (N d)] H1 ?ho2 ?he2
 case ho2 => exact bT 0 Ai36 As36 (bN 1 (bT 0 Ai36 As36 (bN 2 (ac (fun w' h => eC call25 (Ha.out w')) (ac (fun w' h => eC call23 (Hb.out w')) trivial)))))
 intro _ w2 H2
 clear H1
 refine zG (l := [6]) rfl ?_
 refine sG rfl (fun h => zM h 3 rfl rfl rfl rfl (Nat.le_of_ble_eq_true rfl)) 3 [_, _, _, (_, zB d)] H2 o1_3 fun w3 H3 => ?_
 clear H2
 refine zE (zA (wp_ret ?_))
 repeat (first | refine zK ?_ | refine zI ?_)
 have c0 := H3.out.1.get 3 rfl 0 rfl
 have c1 := H3.out.1.get 3 rfl 1 rfl
 have c2 := H3.out.1.get 3 rfl 2 rfl
 have c3 := H3.out.1.get 3 rfl 3 rfl
 have c4 := H3.out.1.get 3 rfl 4 rfl
 have c5 := H3.out.1.get 3 rfl 5 rfl
 refine bodyPost_ret (v := N d) (by simp [results, Tryz.results28, go_sem, *]) rfl ?_
 exact ⟨rfl, H3.out.2⟩
theorem fof_lt {fn fs a : Nat} {fl : Int} (hc : ∀ w, Calls Tryz.prog 39 #[N a, N fn] w (Rt w (.int .i64 (-1)))) (w : World) :
  Calls Tryz.prog 20 #[.agg (cel [fn] ++ ([Value.int .u64 fl] ++ cel [fs])).toArray, N a] w (Rt w (N a)) := by
 have H0 : Hid (_ ∧ _) := ⟨Mm.nil w, Below.refl w.heap.size w⟩
 have HC : Hid _ := hc
 clear hc
 go_enter Tryz.func20, Tryz.ntmps20
 refine wp_seq ?_
 refine zD 3 [.made (cel [fn] ++ ([Value.int .u64 fl] ++ cel [fs])) 36, .made (zB a) 24, .made zero6 24] (sB H0) ?ho1 ?he1
 case ho1 => exact am (ex_boxT rfl rfl) (am (zU rfl rfl) (am (zF rfl) trivial))
 intro J w1 l hM hl
 have H1 : Hid (Mm w1 [(J 0, cel [fn] ++ ([Value.int .u64 fl] ++ cel [fs])), (J 1, zB a), (J 2, zero6)] ∧ _) := wB H0 hM hl [0, 1, 2]
 have o1_0 := vB H0 hM hl 0
 have o1_1 := vB H0 hM hl 1
 have o1_2 := vB H0 hM hl 2
 clear hM hl l
 generalize J 0 = J1_0 at H1 o1_0 ⊢
 generalize J 1 = J1_1 at H1 o1_1 ⊢
 generalize J 2 = J1_2 at H1 o1_2 ⊢
 clear J
 refine rN (wp_seq (wp_seq ?_))
 refine zC 5 [.q (N a), .q (PT J1_0 0), .q (N fn), .call (.int .i64 (-1)), .q (.bool true)] H1 ?ho2 ?he2
 case ho2 => exact bN 1 (ag (bN 0 (ac (fun w' h => eC call39 (HC.out w')) (ag trivial))))
 intro _ w2 H2
 clear H1
 refine rN (wp_cond_true rfl (wp_seq ?_))
 refine zC 1 [.q (N a)] H2 ?ho3 ?he3
 case ho3 => exact bN 1 trivial
 intro _ w3 H3
 clear H2
 refine zG (l := [1]) rfl ?_
 refine sG rfl (fun h => zM h 2 rfl rfl rfl rfl (Nat.le_of_ble_eq_true rfl)) 2 [_, _, (_, zB a)] H3 o1_2 fun w4 H4 => ?_
 clear H3
 refine zE (zA (wp_ret ?_))
 repeat (first | refine zK ?_ | refine zI ?_)
 have c0 := H4.out.1.get 2 rfl 0 rfl
 have c1 := H4.out.1.get 2 rfl 1 rfl
 have c2 := H4.out.1.get 2 rfl 2 rfl
 have c3 := H4.out.1.get 2 rfl 3 rfl
 have c4 := H4.out.1.get 2 rfl 4 rfl
 have c5 := H4.out.1.get 2 rfl 5 rfl
 refine bodyPost_ret (v := N a) (by simp [results, Tryz.results20, go_sem, *]) rfl ?_
 exact ⟨rfl, H4.out.2⟩
theorem fof_ge {fn fs a d : Nat} {fl z : Int} (hz : 0 ≤ z) (hc : ∀ w, Calls Tryz.prog 39 #[N a, N fn] w (Rt w (.int .i64 z))) (hr : ∀ w, Calls Tryz.prog 40 #[N fn, N a] w (Rt w (N d))) (w : World) :
  Calls Tryz.prog 20 #[.agg (cel [fn] ++ ([Value.int .u64 fl] ++ cel [fs])).toArray, N a] w (Rt w (N d)) := by
 have H0 : Hid (_ ∧ _) := ⟨Mm.nil w, Below.refl w.heap.size w⟩
 have HC : Hid _ := hc
 have HR : Hid _ := hr
 clear hc hr
 go_enter Tryz.func20, Tryz.ntmps20
 refine wp_seq ?_
 refine zD 3 [.made (cel [fn] ++ ([Value.int .u64 fl] ++ cel [fs])) 36, .made (zB a) 24, .made zero6 24] (sB H0) ?ho1 ?he1
 case ho1 => exact am (ex_boxT rfl rfl) (am (zU rfl rfl) (am (zF rfl) trivial))
 intro J w1 l hM hl
 have H1 : Hid (Mm w1 [(J 0, cel [fn] ++ ([Value.int .u64 fl] ++ cel [fs])), (J 1, zB a), (J 2, zero6)] ∧ _) := wB H0 hM hl [0, 1, 2]
 have o1_0 := vB H0 hM hl 0
 have o1_1 := vB H0 hM hl 1
 have o1_2 := vB H0 hM hl 2
 clear hM hl l
 generalize J 0 = J1_0 at H1 o1_0 ⊢
 generalize J 1 = J1_1 at H1 o1_1 ⊢
 generalize J 2 = J1_2 at H1 o1_2 ⊢
 clear J
 refine rN (wp_seq (wp_seq ?_))
 refine zC 5 [.q (N a), .q (PT J1_0 0), .q (N fn), .call (.int .i64 z), .q (.bool false)] H1 ?ho2 ?he2
 case ho2 => exact bN 1 (ag (bN 0 (ac (fun w' h => eC call39 (HC.out w')) (ag trivial))))
 intro _ w2 H2
 clear H1
 refine rN (wp_cond_false rfl ?_)
 refine wp_skip (zA (wp_seq ?_))
 refine zC 4 [.q (PT J1_0 0), .q (N fn), .q (N a), .call (N d)] H2 ?ho3 ?he3
 case ho3 => exact ag (bN 0 (bN 1 (ac (fun w' h => eC call40 (HR.out w')) trivial)))
 intro _ w3 H3
 clear H2
 refine zG (l := [4]) rfl ?_
 refine sG rfl (fun h => zM h 2 rfl rfl rfl rfl (Nat.le_of_ble_eq_true rfl)) 2 [_, _, (_, zB d)] H3 o1_2 fun w4 H4 => ?_
 clear H3
 refine zE (zA (wp_ret ?_))
 repeat (first | refine zK ?_ | refine zI ?_)
 have c0 := H4.out.1.get 2 rfl 0 rfl
 have c1 := H4.out.1.get 2 rfl 1 rfl
 have c2 := H4.out.1.get 2 rfl 2 rfl
 have c3 := H4.out.1.get 2 rfl 3 rfl
 have c4 := H4.out.1.get 2 rfl 4 rfl
 have c5 := H4.out.1.get 2 rfl 5 rfl
 refine bodyPost_ret (v := N d) (by simp [results, Tryz.results20, go_sem, *]) rfl ?_
 exact ⟨rfl, H4.out.2⟩
theorem dred {n a q d : Nat} {er : Int} (hd : ∀ w, Calls Tryz.prog 62 #[N a, N n] w (Rt w (.tuple #[N q, N d, .int .i64 er]))) (w : World) :
  Calls Tryz.prog 40 #[N n, N a] w (Rt w (N d)) := by
 have H0 : Hid (_ ∧ _) := ⟨Mm.nil w, Below.refl w.heap.size w⟩
 have HD : Hid _ := hd
 clear hd
 go_enter Tryz.func40, Tryz.ntmps40
 refine wp_seq ?_
 refine zD 3 [.made (zB n) 24, .made (zB a) 24, .made zero6 24] (sB H0) ?ho1 ?he1
 case ho1 => exact am (zU rfl rfl) (am (zU rfl rfl) (am (zF rfl) trivial))
 intro J w1 l hM hl
 have H1 : Hid (Mm w1 [(J 0, zB n), (J 1, zB a), (J 2, zero6)] ∧ _) := wB H0 hM hl [0, 1, 2]
 have o1_0 := vB H0 hM hl 0
 have o1_1 := vB H0 hM hl 1
 have o1_2 := vB H0 hM hl 2
 clear hM hl l
 generalize J 0 = J1_0 at H1 o1_0 ⊢
 generalize J 1 = J1_1 at H1 o1_1 ⊢
 generalize J 2 = J1_2 at H1 o1_2 ⊢
 clear J
 refine rN (wp_seq ?_)
 refine zD 12 [.q (N a), .q (N n), .call (.tuple #[N q, N d, .int .i64 er]), .q (.tuple #[N q, N d, .int .i64 er]), .q (N q), .q (N d), .q (.int .i64 er), .made zero6 24, .made zero6 24, .laid 7 zero6 (zB q), .laid 8 zero6 (zB d), .q (.int .i64 er)] (sB H1) ?ho2 ?he2 (hL := ?hL2)
 case hL2 => exact ⟨⟨_, rfl⟩, ⟨_, rfl⟩, trivial⟩
 case ho2 => exact bN 1 (bN 0 (ac (fun w' h => eC call62 (HD.out w')) (ar (ag (ag (ag (am (zF rfl) (am (zF rfl) (ak (fun J => ⟨rfl, rfl, rfl, fun w' h => zJ h rfl rfl rfl⟩) (ak (fun J => ⟨rfl, rfl, rfl, fun w' h => zJ h rfl rfl rfl⟩) (ar trivial)))))))))))
 intro J w2 l hM hl
 have H2 : Hid (Mm w2 ([(J 7, zB q), (J 8, zB d)] ++ _) ∧ _) := wB H1 hM hl [7, 8]
 have o2_7 := vB H1 hM hl 7
 have o2_8 := vB H1 hM hl 8
 clear hM hl l H1
 generalize J 7 = J2_7 at H2 o2_7 ⊢
 generalize J 8 = J2_8 at H2 o2_8 ⊢
 clear J
 refine rN (wp_seq ?_)
 refine zC 1 [.q (N d)] H2 ?ho3 ?he3
 case ho3 => exact bN 1 trivial
 intro _ w3 H3
 clear H2
 refine zG (l := [1]) rfl ?_
 refine sG rfl (fun h => zM h 4 rfl rfl rfl rfl (Nat.le_of_ble_eq_true rfl)) 4 [_, _, _, _, (_, zB d)] H3 o1_2 fun w4 H4 => ?_
 clear H3
 refine zE (zA (wp_ret ?_))
 repeat (first | refine zK ?_ | refine zI ?_)
 have c0 := H4.out.1.get 4 rfl 0 rfl
 have c1 := H4.out.1.get 4 rfl 1 rfl
 have c2 := H4.out.1.get 4 rfl 2 rfl
 have c3 := H4.out.1.get 4 rfl 3 rfl
 have c4 := H4.out.1.get 4 rfl 4 rfl
 have c5 := H4.out.1.get 4 rfl 5 rfl
 refine bodyPost_ret (v := N d) (by simp [results, Tryz.results40, go_sem, *]) rfl ?_
 exact ⟨rfl, H4.out.2⟩
theorem fNegZ (x : Int) (w : World) : Calls Tryz.prog 25 #[.agg (cel [pB] ++ ([Value.int .u64 9940570264628428797] ++ cel [sqP])).toArray, N (pz x)] w (Rt w (N (pz (-x)))) := by
 have hb := Nat.lt_trans (pz_lt x) pB_lt
 have hlt := pz_lt x
 have e0 : pz (-x) = (pB - pz x) % pB := by
  have d := dv_pz x
  have dp : Dv (pB : Int) := Int.dvd_refl _
  rw [← pz_nat]
  exact pz_mod _ _ ((d.sub dp).of (by omega))
 by_cases h : pz x = 0
 ·have h1 := fneg_0 (fn := pB) (fs := sqP) (fl := 9940570264628428797) (a := pz x) (fun w => by rw [run_eqN _ 0 hb big_pos, decide_eq_true h]) w
  rw [e0, h, Nat.sub_zero, Nat.mod_self]
  rw [h] at h1
  exact h1
 ·have hs := fun w => sub_ref pB (pz x) pB_lt hb w
  rw [show pB + big - pz x = (pB - pz x) + big by omega, Nat.add_mod_right, Nat.mod_eq_of_lt (by have := pB_lt; omega : pB - pz x < big)] at hs
  rw [e0, Nat.mod_eq_of_lt (by omega)]
  exact fneg_1 (fl := 9940570264628428797) (fs := sqP) (fun w => by rw [run_eqN _ 0 hb big_pos, decide_eq_false h]) hs w
theorem fSubZ (x y : Int) (w : World) : Calls Tryz.prog 28 #[.agg (cel [pB] ++ ([Value.int .u64 9940570264628428797] ++ cel [sqP])).toArray, N (pz x), N (pz y)] w (Rt w (N (pz (x - y)))) := by
 have h := fsub_w (fun w => fNegZ y w) (fun w => fAddZ x (-y) w) w
 rw [← Int.sub_eq_add_neg] at h
 exact h
theorem fOfZ (a : Nat) (ha : a < big) (w : World) : Calls Tryz.prog 20 #[.agg (cel [pB] ++ ([Value.int .u64 9940570264628428797] ++ cel [sqP])).toArray, N a] w (Rt w (N (pz (a : Int)))) := by
 rw [pz_nat]
 by_cases h : a < pB
 ·rw [Nat.mod_eq_of_lt h]
  have e := fun w => compare_ref a pB ha pB_lt w
  rw [cmp_lt h] at e
  exact fof_lt e w
 ·have hd := fun w => divide_ref_some a pB ha pB_lt (Nat.ne_of_gt pB_ok.pos) w
  have hz : 0 ≤ cmpv a pB := by have := cmp_ge h; omega
  exact fof_ge hz (fun w => compare_ref a pB ha pB_lt w) (fun w => dred hd w) w
end Rg
end Go.Proofs.YtacicklddhehaaaGreatDoor
end
section
namespace Go.Proofs.YtacicklddhehaaaGreatDoor
open Go.RowKit
namespace Rg
set_option maxRecDepth 100000
set_option maxHeartbeats 1000000 in
theorem dOf2 (a c : Nat) (ha : a < big) (hc : c < big) (w : World) :
  Calls Tryz.prog 4 #[V [a, c]] w (Rt w (V [pz (a : Int), pz (c : Int)])) := by
 have H0 : Hid (_ ∧ _) := ⟨Mm.nil w, Below.refl w.heap.size w⟩
 go_enter Tryz.func4, Tryz.ntmps4
 refine wp_seq ?_
 refine zD 2 [.made (cel [a, c]) 26, .made (cel [0, 0]) 26] (sB H0) ?ho1 ?he1
 case ho1 => exact am (zV rfl rfl) (am (zO rfl) trivial)
 intro J w1 l hM hl
 have H1 : Hid (Mm w1 [(J 0, cel [a, c]), (J 1, cel [0, 0])] ∧ _) := wB H0 hM hl [0, 1]
 have o1_0 := vB H0 hM hl 0
 have o1_1 := vB H0 hM hl 1
 clear hM hl l
 generalize J 0 = J1_0 at H1 o1_0 ⊢
 generalize J 1 = J1_1 at H1 o1_1 ⊢
 clear J
 refine rN (wp_seq ?_)
 refine zD 3 [.call (.agg (cel [pB] ++ ([Value.int .u64 9940570264628428797] ++ cel [sqP])).toArray), .made (cel [0] ++ ([Value.int .u64 0] ++ cel [0])) 36, .laid 1 (cel [0] ++ ([Value.int .u64 0] ++ cel [0])) (cel [pB] ++ ([Value.int .u64 9940570264628428797] ++ cel [sqP]))] (sB H1) ?ho2 ?he2 (hL := ?hL2)
 case hL2 => exact ⟨⟨_, rfl⟩, trivial⟩
 case ho2 => exact ac (fun w' h => eC call19 (dP w')) (am (ex_made36 rfl) (ak (fun J => ⟨rfl, rfl, rfl, fun w' h => ex_laidT h rfl rfl As36 rfl rfl rfl⟩) trivial))
 intro J w2 l hM hl
 have H2 : Hid (Mm w2 ([(J 1, cel [pB] ++ ([Value.int .u64 9940570264628428797] ++ cel [sqP]))] ++ _) ∧ _) := wB H1 hM hl [1]
 have o2_1 := vB H1 hM hl 1
 clear hM hl l H1
 generalize J 1 = J2_1 at H2 o2_1 ⊢
 clear J
 refine rN (wp_seq ?_)
 refine zS 9 [.q (.agg (cel [pB] ++ ([Value.int .u64 9940570264628428797] ++ cel [sqP])).toArray), .q (PT J1_0 0), .q (N a), .call (N (pz (a : Int))), .q (.agg (cel [pB] ++ ([Value.int .u64 9940570264628428797] ++ cel [sqP])).toArray), .q (PT J1_0 6), .q (N c), .call (N (pz (c : Int))), .q (V [pz (a : Int), pz (c : Int)])] H2 ?ho3 ?he3
 case ho3 => exact bT 0 Ai36 As36 (ag (aq (fun w' h => zH (i := 0) h 1 rfl rfl rfl rfl) (ac (fun w' h => eC call20 (fOfZ a ha w')) (bT 0 Ai36 As36 (ag (aq (fun w' h => zH (i := 1) h 1 rfl rfl rfl rfl) (ac (fun w' h => eC call20 (fOfZ c hc w')) (ak (fun J => ⟨rfl, fun w' _ => yC rfl rfl rfl⟩) trivial))))))))
 intro _ w3 H3
 clear H2
 refine zG (l := [9]) rfl ?_
 refine sF 2 [pz (a : Int), pz (c : Int)] [_, _, _] H3 o1_1 As26 fun w4 H4 => ?_
 clear H3
 refine zE (zA (wp_ret ?_))
 repeat (first | refine zK ?_ | refine zI ?_)
 have hf0 := cel_var (k := 2) H4.out.1 2 rfl Ai26 As26 rfl
 refine bodyPost_ret (v := V [pz (a : Int), pz (c : Int)]) (by simp [results, Tryz.results4, asAddr, hf0]) rfl ?_
 exact ⟨rfl, H4.out.2⟩
set_option maxHeartbeats 1000000 in
theorem dAdd2 (x y u v : Int) (w : World) :
  Calls Tryz.prog 6 #[V [pz x, pz y], V [pz u, pz v]] w (Rt w (V [pz (x + u), pz (y + v)])) := by
 have H0 : Hid (_ ∧ _) := ⟨Mm.nil w, Below.refl w.heap.size w⟩
 go_enter Tryz.func6, Tryz.ntmps6
 refine wp_seq ?_
 refine zD 3 [.made (cel [pz x, pz y]) 26, .made (cel [pz u, pz v]) 26, .made (cel [0, 0]) 26] (sB H0) ?ho1 ?he1
 case ho1 => exact am (zV rfl rfl) (am (zV rfl rfl) (am (zO rfl) trivial))
 intro J w1 l hM hl
 have H1 : Hid (Mm w1 [(J 0, cel [pz x, pz y]), (J 1, cel [pz u, pz v]), (J 2, cel [0, 0])] ∧ _) := wB H0 hM hl [0, 1, 2]
 have o1_0 := vB H0 hM hl 0
 have o1_1 := vB H0 hM hl 1
 have o1_2 := vB H0 hM hl 2
 clear hM hl l
 generalize J 0 = J1_0 at H1 o1_0 ⊢
 generalize J 1 = J1_1 at H1 o1_1 ⊢
 generalize J 2 = J1_2 at H1 o1_2 ⊢
 clear J
 refine rN (wp_seq ?_)
 refine zD 3 [.call (.agg (cel [pB] ++ ([Value.int .u64 9940570264628428797] ++ cel [sqP])).toArray), .made (cel [0] ++ ([Value.int .u64 0] ++ cel [0])) 36, .laid 1 (cel [0] ++ ([Value.int .u64 0] ++ cel [0])) (cel [pB] ++ ([Value.int .u64 9940570264628428797] ++ cel [sqP]))] (sB H1) ?ho2 ?he2 (hL := ?hL2)
 case hL2 => exact ⟨⟨_, rfl⟩, trivial⟩
 case ho2 => exact ac (fun w' h => eC call19 (dP w')) (am (ex_made36 rfl) (ak (fun J => ⟨rfl, rfl, rfl, fun w' h => ex_laidT h rfl rfl As36 rfl rfl rfl⟩) trivial))
 intro J w2 l hM hl
 have H2 : Hid (Mm w2 ([(J 1, cel [pB] ++ ([Value.int .u64 9940570264628428797] ++ cel [sqP]))] ++ _) ∧ _) := wB H1 hM hl [1]
 have o2_1 := vB H1 hM hl 1
 clear hM hl l H1
 generalize J 1 = J2_1 at H2 o2_1 ⊢
 clear J
 refine rN (wp_seq ?_)
 refine zS 13 [.q (.agg (cel [pB] ++ ([Value.int .u64 9940570264628428797] ++ cel [sqP])).toArray), .q (PT J1_0 0), .q (N (pz x)), .q (PT J1_1 0), .q (N (pz u)), .call (N (pz (x + u))), .q (.agg (cel [pB] ++ ([Value.int .u64 9940570264628428797] ++ cel [sqP])).toArray), .q (PT J1_0 6), .q (N (pz y)), .q (PT J1_1 6), .q (N (pz v)), .call (N (pz (y + v))), .q (V [pz (x + u), pz (y + v)])] H2 ?ho3 ?he3
 case ho3 => exact bT 0 Ai36 As36 (ag (aq (fun w' h => zH (i := 0) h 1 rfl rfl rfl rfl) (ag (aq (fun w' h => zH (i := 0) h 2 rfl rfl rfl rfl) (ac (fun w' h => eC call23 (fAddZ x u w')) (bT 0 Ai36 As36 (ag (aq (fun w' h => zH (i := 1) h 1 rfl rfl rfl rfl) (ag (aq (fun w' h => zH (i := 1) h 2 rfl rfl rfl rfl) (ac (fun w' h => eC call23 (fAddZ y v w')) (ak (fun J => ⟨rfl, fun w' _ => yC rfl rfl rfl⟩) trivial))))))))))))
 intro _ w3 H3
 clear H2
 refine zG (l := [13]) rfl ?_
 refine sF 3 [pz (x + u), pz (y + v)] [_, _, _, _] H3 o1_2 As26 fun w4 H4 => ?_
 clear H3
 refine zE (zA (wp_ret ?_))
 repeat (first | refine zK ?_ | refine zI ?_)
 have hf0 := cel_var (k := 2) H4.out.1 3 rfl Ai26 As26 rfl
 refine bodyPost_ret (v := V [pz (x + u), pz (y + v)]) (by simp [results, Tryz.results6, asAddr, hf0]) rfl ?_
 exact ⟨rfl, H4.out.2⟩
set_option maxHeartbeats 1000000 in
theorem dNeg2 (x y : Int) (w : World) :
  Calls Tryz.prog 10 #[V [pz x, pz y]] w (Rt w (V [pz (-x), pz (-y)])) := by
 have H0 : Hid (_ ∧ _) := ⟨Mm.nil w, Below.refl w.heap.size w⟩
 go_enter Tryz.func10, Tryz.ntmps10
 refine wp_seq ?_
 refine zD 2 [.made (cel [pz x, pz y]) 26, .made (cel [0, 0]) 26] (sB H0) ?ho1 ?he1
 case ho1 => exact am (zV rfl rfl) (am (zO rfl) trivial)
 intro J w1 l hM hl
 have H1 : Hid (Mm w1 [(J 0, cel [pz x, pz y]), (J 1, cel [0, 0])] ∧ _) := wB H0 hM hl [0, 1]
 have o1_0 := vB H0 hM hl 0
 have o1_1 := vB H0 hM hl 1
 clear hM hl l
 generalize J 0 = J1_0 at H1 o1_0 ⊢
 generalize J 1 = J1_1 at H1 o1_1 ⊢
 clear J
 refine rN (wp_seq ?_)
 refine zD 3 [.call (.agg (cel [pB] ++ ([Value.int .u64 9940570264628428797] ++ cel [sqP])).toArray), .made (cel [0] ++ ([Value.int .u64 0] ++ cel [0])) 36, .laid 1 (cel [0] ++ ([Value.int .u64 0] ++ cel [0])) (cel [pB] ++ ([Value.int .u64 9940570264628428797] ++ cel [sqP]))] (sB H1) ?ho2 ?he2 (hL := ?hL2)
 case hL2 => exact ⟨⟨_, rfl⟩, trivial⟩
 case ho2 => exact ac (fun w' h => eC call19 (dP w')) (am (ex_made36 rfl) (ak (fun J => ⟨rfl, rfl, rfl, fun w' h => ex_laidT h rfl rfl As36 rfl rfl rfl⟩) trivial))
 intro J w2 l hM hl
 have H2 : Hid (Mm w2 ([(J 1, cel [pB] ++ ([Value.int .u64 9940570264628428797] ++ cel [sqP]))] ++ _) ∧ _) := wB H1 hM hl [1]
 have o2_1 := vB H1 hM hl 1
 clear hM hl l H1
 generalize J 1 = J2_1 at H2 o2_1 ⊢
 clear J
 refine rN (wp_seq ?_)
 refine zS 9 [.q (.agg (cel [pB] ++ ([Value.int .u64 9940570264628428797] ++ cel [sqP])).toArray), .q (PT J1_0 0), .q (N (pz x)), .call (N (pz (-x))), .q (.agg (cel [pB] ++ ([Value.int .u64 9940570264628428797] ++ cel [sqP])).toArray), .q (PT J1_0 6), .q (N (pz y)), .call (N (pz (-y))), .q (V [pz (-x), pz (-y)])] H2 ?ho3 ?he3
 case ho3 => exact bT 0 Ai36 As36 (ag (aq (fun w' h => zH (i := 0) h 1 rfl rfl rfl rfl) (ac (fun w' h => eC call25 (fNegZ x w')) (bT 0 Ai36 As36 (ag (aq (fun w' h => zH (i := 1) h 1 rfl rfl rfl rfl) (ac (fun w' h => eC call25 (fNegZ y w')) (ak (fun J => ⟨rfl, fun w' _ => yC rfl rfl rfl⟩) trivial))))))))
 intro _ w3 H3
 clear H2
 refine zG (l := [9]) rfl ?_
 refine sF 2 [pz (-x), pz (-y)] [_, _, _] H3 o1_1 As26 fun w4 H4 => ?_
 clear H3
 refine zE (zA (wp_ret ?_))
 repeat (first | refine zK ?_ | refine zI ?_)
 have hf0 := cel_var (k := 2) H4.out.1 2 rfl Ai26 As26 rfl
 refine bodyPost_ret (v := V [pz (-x), pz (-y)]) (by simp [results, Tryz.results10, asAddr, hf0]) rfl ?_
 exact ⟨rfl, H4.out.2⟩
set_option maxHeartbeats 1000000 in
theorem dSub2 (x y u v : Int) (w : World) :
  Calls Tryz.prog 8 #[V [pz x, pz y], V [pz u, pz v]] w (Rt w (V [pz (x + (-u)), pz (y + (-v))])) := by
 have H0 : Hid (_ ∧ _) := ⟨Mm.nil w, Below.refl w.heap.size w⟩
 go_enter Tryz.func8, Tryz.ntmps8
 refine wp_seq ?_
 refine zD 3 [.made (cel [pz x, pz y]) 26, .made (cel [pz u, pz v]) 26, .made (cel [0, 0]) 26] (sB H0) ?ho1 ?he1
 case ho1 => exact am (zV rfl rfl) (am (zV rfl rfl) (am (zO rfl) trivial))
 intro J w1 l hM hl
 have H1 : Hid (Mm w1 [(J 0, cel [pz x, pz y]), (J 1, cel [pz u, pz v]), (J 2, cel [0, 0])] ∧ _) := wB H0 hM hl [0, 1, 2]
 have o1_0 := vB H0 hM hl 0
 have o1_1 := vB H0 hM hl 1
 have o1_2 := vB H0 hM hl 2
 clear hM hl l
 generalize J 0 = J1_0 at H1 o1_0 ⊢
 generalize J 1 = J1_1 at H1 o1_1 ⊢
 generalize J 2 = J1_2 at H1 o1_2 ⊢
 clear J
 refine rN (wp_seq ?_)
 refine zS 4 [.q (V [pz x, pz y]), .q (V [pz u, pz v]), .call (V [pz (-u), pz (-v)]), .call (V [pz (x + (-u)), pz (y + (-v))])] H1 ?ho2 ?he2
 case ho2 => exact bA 0 2 0 Ai26 As26 (bA 0 2 1 Ai26 As26 (ac (fun w' h => eC call10 (dNeg2 u v w')) (ac (fun w' h => eC call6 (dAdd2 x y (-u) (-v) w')) trivial)))
 intro _ w2 H2
 clear H1
 refine zG (l := [4]) rfl ?_
 refine sF 2 [pz (x + (-u)), pz (y + (-v))] [_, _, _] H2 o1_2 As26 fun w3 H3 => ?_
 clear H2
 refine zE (zA (wp_ret ?_))
 repeat (first | refine zK ?_ | refine zI ?_)
 have hf0 := cel_var (k := 2) H3.out.1 2 rfl Ai26 As26 rfl
 refine bodyPost_ret (v := V [pz (x + (-u)), pz (y + (-v))]) (by simp [results, Tryz.results8, asAddr, hf0]) rfl ?_
 exact ⟨rfl, H3.out.2⟩
set_option maxHeartbeats 1000000 in
theorem dConj2 (x y : Int) (w : World) :
  Calls Tryz.prog 14 #[V [pz x, pz y]] w (Rt w (V [pz x, pz (-y)])) := by
 have H0 : Hid (_ ∧ _) := ⟨Mm.nil w, Below.refl w.heap.size w⟩
 go_enter Tryz.func14, Tryz.ntmps14
 refine wp_seq ?_
 refine zD 2 [.made (cel [pz x, pz y]) 26, .made (cel [0, 0]) 26] (sB H0) ?ho1 ?he1
 case ho1 => exact am (zV rfl rfl) (am (zO rfl) trivial)
 intro J w1 l hM hl
 have H1 : Hid (Mm w1 [(J 0, cel [pz x, pz y]), (J 1, cel [0, 0])] ∧ _) := wB H0 hM hl [0, 1]
 have o1_0 := vB H0 hM hl 0
 have o1_1 := vB H0 hM hl 1
 clear hM hl l
 generalize J 0 = J1_0 at H1 o1_0 ⊢
 generalize J 1 = J1_1 at H1 o1_1 ⊢
 clear J
 refine rN (wp_seq ?_)
 refine zS 7 [.q (PT J1_0 0), .q (N (pz x)), .call (.agg (cel [pB] ++ ([Value.int .u64 9940570264628428797] ++ cel [sqP])).toArray), .q (PT J1_0 6), .q (N (pz y)), .call (N (pz (-y))), .q (V [pz x, pz (-y)])] H1 ?ho2 ?he2
 case ho2 => exact ag (aq (fun w' h => zH (i := 0) h 0 rfl rfl rfl rfl) (ac (fun w' h => eC call19 (dP w')) (ag (aq (fun w' h => zH (i := 1) h 0 rfl rfl rfl rfl) (ac (fun w' h => eC call25 (fNegZ y w')) (ak (fun J => ⟨rfl, fun w' _ => yC rfl rfl rfl⟩) trivial))))))
 intro _ w2 H2
 clear H1
 refine zG (l := [7]) rfl ?_
 refine sF 1 [pz x, pz (-y)] [_, _] H2 o1_1 As26 fun w3 H3 => ?_
 clear H2
 refine zE (zA (wp_ret ?_))
 repeat (first | refine zK ?_ | refine zI ?_)
 have hf0 := cel_var (k := 2) H3.out.1 1 rfl Ai26 As26 rfl
 refine bodyPost_ret (v := V [pz x, pz (-y)]) (by simp [results, Tryz.results14, asAddr, hf0]) rfl ?_
 exact ⟨rfl, H3.out.2⟩
set_option maxHeartbeats 1000000 in
theorem dMul2 (x y u v : Int) (w : World) :
  Calls Tryz.prog 12 #[V [pz x, pz y], V [pz u, pz v]] w (Rt w (V [pz ((x * u) - (y * v)), pz ((x * v) + (y * u))])) := by
 have H0 : Hid (_ ∧ _) := ⟨Mm.nil w, Below.refl w.heap.size w⟩
 go_enter Tryz.func12, Tryz.ntmps12
 refine wp_seq ?_
 refine zD 3 [.made (cel [pz x, pz y]) 26, .made (cel [pz u, pz v]) 26, .made (cel [0, 0]) 26] (sB H0) ?ho1 ?he1
 case ho1 => exact am (zV rfl rfl) (am (zV rfl rfl) (am (zO rfl) trivial))
 intro J w1 l hM hl
 have H1 : Hid (Mm w1 [(J 0, cel [pz x, pz y]), (J 1, cel [pz u, pz v]), (J 2, cel [0, 0])] ∧ _) := wB H0 hM hl [0, 1, 2]
 have o1_0 := vB H0 hM hl 0
 have o1_1 := vB H0 hM hl 1
 have o1_2 := vB H0 hM hl 2
 clear hM hl l
 generalize J 0 = J1_0 at H1 o1_0 ⊢
 generalize J 1 = J1_1 at H1 o1_1 ⊢
 generalize J 2 = J1_2 at H1 o1_2 ⊢
 clear J
 refine rN (wp_seq ?_)
 refine zD 3 [.call (.agg (cel [pB] ++ ([Value.int .u64 9940570264628428797] ++ cel [sqP])).toArray), .made (cel [0] ++ ([Value.int .u64 0] ++ cel [0])) 36, .laid 1 (cel [0] ++ ([Value.int .u64 0] ++ cel [0])) (cel [pB] ++ ([Value.int .u64 9940570264628428797] ++ cel [sqP]))] (sB H1) ?ho2 ?he2 (hL := ?hL2)
 case hL2 => exact ⟨⟨_, rfl⟩, trivial⟩
 case ho2 => exact ac (fun w' h => eC call19 (dP w')) (am (ex_made36 rfl) (ak (fun J => ⟨rfl, rfl, rfl, fun w' h => ex_laidT h rfl rfl As36 rfl rfl rfl⟩) trivial))
 intro J w2 l hM hl
 have H2 : Hid (Mm w2 ([(J 1, cel [pB] ++ ([Value.int .u64 9940570264628428797] ++ cel [sqP]))] ++ _) ∧ _) := wB H1 hM hl [1]
 have o2_1 := vB H1 hM hl 1
 clear hM hl l H1
 generalize J 1 = J2_1 at H2 o2_1 ⊢
 clear J
 refine rN (wp_seq ?_)
 refine zQ 16 [.q (.agg (cel [pB] ++ ([Value.int .u64 9940570264628428797] ++ cel [sqP])).toArray), .q (.agg (cel [pB] ++ ([Value.int .u64 9940570264628428797] ++ cel [sqP])).toArray), .q (PT J1_0 0), .q (N (pz x)), .q (PT J1_1 0), .q (N (pz u)), .call (N (pz (x * u))), .q (.agg (cel [pB] ++ ([Value.int .u64 9940570264628428797] ++ cel [sqP])).toArray), .q (PT J1_0 6), .q (N (pz y)), .q (PT J1_1 6), .q (N (pz v)), .call (N (pz (y * v))), .call (N (pz ((x * u) - (y * v)))), .made zero6 24, .laid 14 zero6 (zB (pz ((x * u) - (y * v))))] (sB H2) ?ho3 ?he3 (hL := ?hL3)
 case hL3 => exact ⟨⟨_, rfl⟩, trivial⟩
 case ho3 => exact bT 0 Ai36 As36 (bT 0 Ai36 As36 (ag (aq (fun w' h => zH (i := 0) h 1 rfl rfl rfl rfl) (ag (aq (fun w' h => zH (i := 0) h 2 rfl rfl rfl rfl) (ac (fun w' h => eC call29 (fMulZ x u w')) (bT 0 Ai36 As36 (ag (aq (fun w' h => zH (i := 1) h 1 rfl rfl rfl rfl) (ag (aq (fun w' h => zH (i := 1) h 2 rfl rfl rfl rfl) (ac (fun w' h => eC call29 (fMulZ y v w')) (ac (fun w' h => eC call28 (fSubZ (x * u) (y * v) w')) (am (zF rfl) (ak (fun J => ⟨rfl, rfl, rfl, fun w' h => zJ h rfl rfl rfl⟩) trivial)))))))))))))))
 intro J w3 l hM hl
 have H3 : Hid (Mm w3 ([(J 14, zB (pz ((x * u) - (y * v))))] ++ _) ∧ _) := wB H2 hM hl [14]
 have o3_14 := vB H2 hM hl 14
 clear hM hl l H2
 generalize J 14 = J3_14 at H3 o3_14 ⊢
 clear J
 refine rN (wp_seq ?_)
 refine zS 16 [.q (N (pz ((x * u) - (y * v)))), .q (.agg (cel [pB] ++ ([Value.int .u64 9940570264628428797] ++ cel [sqP])).toArray), .q (.agg (cel [pB] ++ ([Value.int .u64 9940570264628428797] ++ cel [sqP])).toArray), .q (PT J1_0 0), .q (N (pz x)), .q (PT J1_1 6), .q (N (pz v)), .call (N (pz (x * v))), .q (.agg (cel [pB] ++ ([Value.int .u64 9940570264628428797] ++ cel [sqP])).toArray), .q (PT J1_0 6), .q (N (pz y)), .q (PT J1_1 0), .q (N (pz u)), .call (N (pz (y * u))), .call (N (pz ((x * v) + (y * u)))), .q (V [pz ((x * u) - (y * v)), pz ((x * v) + (y * u))])] H3 ?ho4 ?he4
 case ho4 => exact bN 0 (bT 1 Ai36 As36 (bT 1 Ai36 As36 (ag (aq (fun w' h => zH (i := 0) h 2 rfl rfl rfl rfl) (ag (aq (fun w' h => zH (i := 1) h 3 rfl rfl rfl rfl) (ac (fun w' h => eC call29 (fMulZ x v w')) (bT 1 Ai36 As36 (ag (aq (fun w' h => zH (i := 1) h 2 rfl rfl rfl rfl) (ag (aq (fun w' h => zH (i := 0) h 3 rfl rfl rfl rfl) (ac (fun w' h => eC call29 (fMulZ y u w')) (ac (fun w' h => eC call23 (fAddZ (x * v) (y * u) w')) (ak (fun J => ⟨rfl, fun w' _ => yC rfl rfl rfl⟩) trivial)))))))))))))))
 intro _ w4 H4
 clear H3
 refine zG (l := [16]) rfl ?_
 refine sF 4 [pz ((x * u) - (y * v)), pz ((x * v) + (y * u))] [_, _, _, _, _] H4 o1_2 As26 fun w5 H5 => ?_
 clear H4
 refine zE (zA (wp_ret ?_))
 repeat (first | refine zK ?_ | refine zI ?_)
 have hf0 := cel_var (k := 2) H5.out.1 4 rfl Ai26 As26 rfl
 refine bodyPost_ret (v := V [pz ((x * u) - (y * v)), pz ((x * v) + (y * u))]) (by simp [results, Tryz.results12, asAddr, hf0]) rfl ?_
 exact ⟨rfl, H5.out.2⟩
set_option maxHeartbeats 1000000 in
theorem dInv2 (x y i : Int) (hI : ∀ w, Calls Tryz.prog 37 #[.agg (cel [pB] ++ ([Value.int .u64 9940570264628428797] ++ cel [sqP])).toArray, N (pz (x * x + y * y))] w (Rt w (N (pz i)))) (w : World) :
  Calls Tryz.prog 18 #[V [pz x, pz y]] w (Rt w (V [pz (x * i), pz (-(y * i))])) := by
 have H0 : Hid (_ ∧ _) := ⟨Mm.nil w, Below.refl w.heap.size w⟩
 have HI : Hid _ := hI
 clear hI
 go_enter Tryz.func18, Tryz.ntmps18
 refine wp_seq ?_
 refine zD 2 [.made (cel [pz x, pz y]) 26, .made (cel [0, 0]) 26] (sB H0) ?ho1 ?he1
 case ho1 => exact am (zV rfl rfl) (am (zO rfl) trivial)
 intro J w1 l hM hl
 have H1 : Hid (Mm w1 [(J 0, cel [pz x, pz y]), (J 1, cel [0, 0])] ∧ _) := wB H0 hM hl [0, 1]
 have o1_0 := vB H0 hM hl 0
 have o1_1 := vB H0 hM hl 1
 clear hM hl l
 generalize J 0 = J1_0 at H1 o1_0 ⊢
 generalize J 1 = J1_1 at H1 o1_1 ⊢
 clear J
 refine rN (wp_seq ?_)
 refine zD 3 [.call (.agg (cel [pB] ++ ([Value.int .u64 9940570264628428797] ++ cel [sqP])).toArray), .made (cel [0] ++ ([Value.int .u64 0] ++ cel [0])) 36, .laid 1 (cel [0] ++ ([Value.int .u64 0] ++ cel [0])) (cel [pB] ++ ([Value.int .u64 9940570264628428797] ++ cel [sqP]))] (sB H1) ?ho2 ?he2 (hL := ?hL2)
 case hL2 => exact ⟨⟨_, rfl⟩, trivial⟩
 case ho2 => exact ac (fun w' h => eC call19 (dP w')) (am (ex_made36 rfl) (ak (fun J => ⟨rfl, rfl, rfl, fun w' h => ex_laidT h rfl rfl As36 rfl rfl rfl⟩) trivial))
 intro J w2 l hM hl
 have H2 : Hid (Mm w2 ([(J 1, cel [pB] ++ ([Value.int .u64 9940570264628428797] ++ cel [sqP]))] ++ _) ∧ _) := wB H1 hM hl [1]
 have o2_1 := vB H1 hM hl 1
 clear hM hl l H1
 generalize J 1 = J2_1 at H2 o2_1 ⊢
 clear J
 refine rN (wp_seq ?_)
 refine zQ 18 [.q (.agg (cel [pB] ++ ([Value.int .u64 9940570264628428797] ++ cel [sqP])).toArray), .q (.agg (cel [pB] ++ ([Value.int .u64 9940570264628428797] ++ cel [sqP])).toArray), .q (.agg (cel [pB] ++ ([Value.int .u64 9940570264628428797] ++ cel [sqP])).toArray), .q (PT J1_0 0), .q (N (pz x)), .q (PT J1_0 0), .q (N (pz x)), .call (N (pz (x * x))), .q (.agg (cel [pB] ++ ([Value.int .u64 9940570264628428797] ++ cel [sqP])).toArray), .q (PT J1_0 6), .q (N (pz y)), .q (PT J1_0 6), .q (N (pz y)), .call (N (pz (y * y))), .call (N (pz ((x * x) + (y * y)))), .call (N (pz i)), .made zero6 24, .laid 16 zero6 (zB (pz i))] (sB H2) ?ho3 ?he3 (hL := ?hL3)
 case hL3 => exact ⟨⟨_, rfl⟩, trivial⟩
 case ho3 => exact bT 0 Ai36 As36 (bT 0 Ai36 As36 (bT 0 Ai36 As36 (ag (aq (fun w' h => zH (i := 0) h 1 rfl rfl rfl rfl) (ag (aq (fun w' h => zH (i := 0) h 1 rfl rfl rfl rfl) (ac (fun w' h => eC call29 (fMulZ x x w')) (bT 0 Ai36 As36 (ag (aq (fun w' h => zH (i := 1) h 1 rfl rfl rfl rfl) (ag (aq (fun w' h => zH (i := 1) h 1 rfl rfl rfl rfl) (ac (fun w' h => eC call29 (fMulZ y y w')) (ac (fun w' h => eC call23 (fAddZ (x * x) (y * y) w')) (ac (fun w' h => eC call37 (HI.out w')) (am (zF rfl) (ak (fun J => ⟨rfl, rfl, rfl, fun w' h => zJ h rfl rfl rfl⟩) trivial)))))))))))))))))
 intro J w3 l hM hl
 have H3 : Hid (Mm w3 ([(J 16, zB (pz i))] ++ _) ∧ _) := wB H2 hM hl [16]
 have o3_16 := vB H2 hM hl 16
 clear hM hl l H2
 generalize J 16 = J3_16 at H3 o3_16 ⊢
 clear J
 refine rN (wp_seq ?_)
 refine zS 13 [.q (.agg (cel [pB] ++ ([Value.int .u64 9940570264628428797] ++ cel [sqP])).toArray), .q (PT J1_0 0), .q (N (pz x)), .q (N (pz i)), .call (N (pz (x * i))), .q (.agg (cel [pB] ++ ([Value.int .u64 9940570264628428797] ++ cel [sqP])).toArray), .q (.agg (cel [pB] ++ ([Value.int .u64 9940570264628428797] ++ cel [sqP])).toArray), .q (PT J1_0 6), .q (N (pz y)), .q (N (pz i)), .call (N (pz (y * i))), .call (N (pz (-(y * i)))), .q (V [pz (x * i), pz (-(y * i))])] H3 ?ho4 ?he4
 case ho4 => exact bT 1 Ai36 As36 (ag (aq (fun w' h => zH (i := 0) h 2 rfl rfl rfl rfl) (bN 0 (ac (fun w' h => eC call29 (fMulZ x i w')) (bT 1 Ai36 As36 (bT 1 Ai36 As36 (ag (aq (fun w' h => zH (i := 1) h 2 rfl rfl rfl rfl) (bN 0 (ac (fun w' h => eC call29 (fMulZ y i w')) (ac (fun w' h => eC call25 (fNegZ (y * i) w')) (ak (fun J => ⟨rfl, fun w' _ => yC rfl rfl rfl⟩) trivial))))))))))))
 intro _ w4 H4
 clear H3
 refine zG (l := [13]) rfl ?_
 refine sF 3 [pz (x * i), pz (-(y * i))] [_, _, _, _] H4 o1_1 As26 fun w5 H5 => ?_
 clear H4
 refine zE (zA (wp_ret ?_))
 repeat (first | refine zK ?_ | refine zI ?_)
 have hf0 := cel_var (k := 2) H5.out.1 3 rfl Ai26 As26 rfl
 refine bodyPost_ret (v := V [pz (x * i), pz (-(y * i))]) (by simp [results, Tryz.results18, asAddr, hf0]) rfl ?_
 exact ⟨rfl, H5.out.2⟩
end Rg
end Go.Proofs.YtacicklddhehaaaGreatDoor
end
section
namespace Go.Proofs.YtacicklddhehaaaGreatDoor
open Go.RowKit
namespace Rg
set_option maxRecDepth 100000
theorem N_small {m : Nat} (h : m < 18446744073709551616) : N m = .agg #[.int .u64 (m : Int), .int .u64 0, .int .u64 0, .int .u64 0, .int .u64 0, .int .u64 0] := by
 unfold N
 rw [wd_small0 m h, wd_small m 0 h, wd_small m 1 h, wd_small m 2 h, wd_small m 3 h, wd_small m 4 h]
section
variable {ρ : Operand → Value} {o : Oper} {x y : Operand} {w : World}
theorem ex_bld1 {v m : Nat} (hm : m < 18446744073709551616) (hv : v = m) (ho : o.op = .build 24 #[(0, x)]) (hx : ρ x = .int .u64 (m : Int)) : (execOp ρ o).run Tryz.prog w = .ok (.value (N v)) w := by
 rw [hv, N_small hm]
 simp only [execOp, ho, List.map_toArray, List.map_cons, List.map_nil, hx]
 kernel_rfl
theorem ex_eq31 {m : Nat} {t : Bool} (h : decide (m = 1) = t) (ho : o.op = .binOp .eql 3 x y 3) (hx : ρ x = .int .i64 ((m : Nat) : Int)) (hy : ρ y = .int .i64 1) : (execOp ρ o).run Tryz.prog w = .ok (.value (.bool t)) w := by
 rw [← h]
 simp only [execOp, ho, hx, hy]
 clear ho hx hy h
 go_simp
 by_cases h : m = 1
 ·subst h; rfl
 ·rw [decide_eq_false h]
  simp
  omega
end
set_option maxHeartbeats 2000000 in
theorem fpow_gen {fn fs n a ex L : Nat} {fl : Int} (P bt : Nat → Nat) (hn : 0 < n) (ha : a < n) (hL : L ≤ 384) (hP0 : P L = 1) (hlt' : ∀ k, P k < n)
  (h1 : ∀ j, bt j = 1 → P (j + 1) * P (j + 1) % n * a % n = P j) (h0 : ∀ j, ¬ bt j = 1 → P (j + 1) * P (j + 1) % n = P j)
  (hM : ∀ x y, x < n → y < n → ∀ w, Calls Tryz.prog 29 #[.agg (cel [fn] ++ ([Value.int .u64 fl] ++ cel [fs])).toArray, N x, N y] w (Rt w (N (x * y % n))))
  (hL0 : ∀ w, Calls Tryz.prog 85 #[N ex] w (Rt w (.int .i64 ((L : Nat) : Int)))) (hB0 : ∀ j, j < L → ∀ w, Calls Tryz.prog 86 #[N ex, .int .i64 ((j : Nat) : Int)] w (Rt w (.int .i64 ((bt j : Nat) : Int)))) (w : World) :
  Calls Tryz.prog 60 #[.agg (cel [fn] ++ ([Value.int .u64 fl] ++ cel [fs])).toArray, N a, N ex] w (Rt w (N (P 0))) := by
 have H0 : Hid (_ ∧ _) := ⟨Mm.nil w, Below.refl w.heap.size w⟩
 have HM : Hid _ := hM
 have HL : Hid _ := hL0
 have HB : Hid _ := hB0
 clear hM hL0 hB0
 go_enter Tryz.func60, Tryz.ntmps60
 refine wp_seq ?_
 refine zD 4 [.made (cel [fn] ++ ([Value.int .u64 fl] ++ cel [fs])) 36, .made (zB a) 24, .made (zB ex) 24, .made zero6 24] (sB H0) ?ho1 ?he1
 case ho1 => exact am (ex_boxT rfl rfl) (am (zU rfl rfl) (am (zU rfl rfl) (am (zF rfl) trivial)))
 intro J w1 l hM hl
 have H1 : Hid (Mm w1 [(J 0, cel [fn] ++ ([Value.int .u64 fl] ++ cel [fs])), (J 1, zB a), (J 2, zB ex), (J 3, zero6)] ∧ _) := wB H0 hM hl [0, 1, 2, 3]
 have o1_0 := vB H0 hM hl 0
 have o1_1 := vB H0 hM hl 1
 have o1_2 := vB H0 hM hl 2
 have o1_3 := vB H0 hM hl 3
 clear hM hl l
 generalize J 0 = J1_0 at H1 o1_0 ⊢
 generalize J 1 = J1_1 at H1 o1_1 ⊢
 generalize J 2 = J1_2 at H1 o1_2 ⊢
 generalize J 3 = J1_3 at H1 o1_3 ⊢
 clear J
 refine rN (wp_seq ?_)
 refine zD 3 [.q (N (P L)), .made zero6 24, .laid 1 zero6 (zB (P L))] (sB H1) ?ho2 ?he2 (hL := ?hL2)
 case hL2 => exact ⟨⟨_, rfl⟩, trivial⟩
 case ho2 => exact ak (fun J => ⟨rfl, fun w' _ => ex_bld1 (m := 1) (by decide) hP0 rfl rfl⟩) (am (zF rfl) (ak (fun J => ⟨rfl, rfl, rfl, fun w' h => zJ h rfl rfl rfl⟩) trivial))
 intro J w2 l hM hl
 have H2 : Hid (Mm w2 ([(J 1, zB (P L))] ++ _) ∧ _) := wB H1 hM hl [1]
 have o2_1 := vB H1 hM hl 1
 clear hM hl l H1
 generalize J 1 = J2_1 at H2 o2_1 ⊢
 clear J
 refine rN (wp_seq (wp_seq ?_))
 refine zC 4 [.q (N ex), .call (.int .i64 ((L : Nat) : Int)), .q (.int .i64 (((L : Nat) : Int) - 1)), .q (.int .i64 (((L : Nat) : Int) - 1))] H2 ?ho3 ?he3
 case ho3 => exact bN 3 (ac (fun w' h => eC call85 (HL.out w')) (ak (by refine fun J => ⟨rfl, fun w' h => ?_⟩; clear h; go_simp; rw [IntKind.wrap_i64]; omega) (ar trivial)))
 intro _ w3 H3
 clear H2
 refine rN (wp_block ?_)
 refine loop_ghost (α := Nat) (fun k a' w' => ∃ s0 : Nat → Value, a' = ⟨#[.agg (cel [fn] ++ ([Value.int .u64 fl] ++ cel [fs])).toArray, N a, N ex, PT J1_0 0, PT J1_1 0, PT J1_2 0, PT J1_3 0, PT J2_1 0, .int .i64 (((k : Nat) : Int) - 1), N (P L), N ex, .int .i64 ((L : Nat) : Int), .int .i64 (((L : Nat) : Int) - 1), s0 13, s0 14, s0 15, s0 16, s0 17, s0 18, s0 19, s0 20, s0 21, s0 22, s0 23, s0 24, s0 25, s0 26, s0 27, s0 28, undef], []⟩ ∧ (Mm w' [(J2_1, zB (P k)), (J1_0, cel [fn] ++ ([Value.int .u64 fl] ++ cel [fs])), (J1_1, zB a), (J1_2, zB ex), (J1_3, zero6)] ∧ Below w.heap.size w w') ∧ k ≤ L) (fun k => k) L ?st0 ?rd0
 case st0 => exact ⟨(yA [ud, ud, ud, ud, ud, ud, ud, ud, ud, ud, ud, ud, ud, ud, ud, ud, ud, ud, ud, ud, ud, ud, ud, ud, ud, ud, ud, ud, ud]), rfl, ⟨H3.out.1, H3.out.2⟩, Nat.le_refl _⟩
 intro k a' w4 hI
 obtain ⟨s0, rfl, hMB, hk0⟩ := hI
 have H4 : Hid (_ ∧ _) := hMB
 clear hMB H3
 by_cases hlt : 0 < k
 ·have hrd : True := trivial
  clear hrd
  obtain ⟨j, rfl⟩ : ∃ j, k = j + 1 := ⟨k - 1, by omega⟩
  rw [show (((j + 1 : Nat) : Int) - 1) = ((j : Nat) : Int) by omega]
  by_cases hb : bt j = 1
  ·have hrd : True := trivial
   clear hrd
   refine wp_seq (wp_seq ?_)
   refine zC 2 [.q (.int .i64 ((j : Nat) : Int)), .q (.bool true)] H4 ?ho4 ?he4
   case ho4 => exact ar (ag trivial)
   intro _ w5 H5
   clear H4
   refine rN (wp_cond_true rfl ?_)
   refine wp_skip (zA ?_)
   refine wp_seq (wp_block (wp_seq ?_))
   refine zC 4 [.q (.agg (cel [fn] ++ ([Value.int .u64 fl] ++ cel [fs])).toArray), .q (N (P (j + 1))), .q (N (P (j + 1))), .call (N ((P (j + 1)) * (P (j + 1)) % n))] H5 ?ho5 ?he5
   case ho5 => exact bT 1 Ai36 As36 (bN 0 (bN 0 (ac (fun w' h => eC call29 (HM.out (P (j + 1)) (P (j + 1)) (hlt' _) (hlt' _) w')) trivial)))
   intro _ w6 H6
   clear H5
   refine zG (l := [4]) rfl ?_
   refine sG rfl (fun h => zM h 0 rfl rfl rfl rfl (Nat.le_of_ble_eq_true rfl)) 0 [(_, zB ((P (j + 1)) * (P (j + 1)) % n)), _, _, _, _] H6 o2_1 fun w7 H7 => ?_
   clear H6
   refine zE (zA (wp_seq ?_))
   refine zC 4 [.q (N ex), .q (.int .i64 ((j : Nat) : Int)), .call (.int .i64 ((bt j : Nat) : Int)), .q (.bool true)] H7 ?ho6 ?he6
   case ho6 => exact bN 3 (ar (ac (fun w' h => eC call86 (HB.out j (by omega) w')) (ak (fun J => ⟨rfl, fun w' _ => ex_eq31 (decide_eq_true hb) rfl rfl rfl⟩) trivial)))
   intro _ w8 H8
   clear H7
   refine rN (wp_cond_true rfl ?_)
   refine zC 4 [.q (.agg (cel [fn] ++ ([Value.int .u64 fl] ++ cel [fs])).toArray), .q (N ((P (j + 1)) * (P (j + 1)) % n)), .q (N a), .call (N (((P (j + 1)) * (P (j + 1)) % n) * a % n))] H8 ?ho7 ?he7
   case ho7 => exact bT 1 Ai36 As36 (bN 0 (bN 2 (ac (fun w' h => eC call29 (HM.out ((P (j + 1)) * (P (j + 1)) % n) a (Nat.mod_lt _ hn) ha w')) trivial)))
   intro _ w9 H9
   clear H8
   refine zG (l := [4]) rfl ?_
   refine sG rfl (fun h => zM h 0 rfl rfl rfl rfl (Nat.le_of_ble_eq_true rfl)) 0 [(_, zB (((P (j + 1)) * (P (j + 1)) % n) * a % n)), _, _, _, _] H9 o2_1 fun w10 H10 => ?_
   clear H9
   refine zE (zT (zA ?_))
   refine zC 2 [.q (.int .i64 ((j : Nat) : Int)), .q (.int .i64 (((j : Nat) : Int) - 1))] H10 ?ho8 ?he8
   case ho8 => exact ar (ak (by refine fun J => ⟨rfl, fun w' h => ?_⟩; clear h; go_simp; rw [IntKind.wrap_i64]; omega) trivial)
   intro _ w11 H11
   clear H10
   refine zG (l := [2]) rfl ?_
   refine zN (d := 8) rfl rfl rfl rfl ?_
   simp only [Act.put, sa, sz, ss]
   refine zE (zA ?_)
   exact ⟨j, ⟨(yA [ud, ud, ud, ud, ud, ud, ud, ud, ud, ud, ud, ud, ud, .int .i64 ((j : Nat) : Int), .bool true, .int .i64 ((j : Nat) : Int), .int .i64 (((j : Nat) : Int) - 1), .agg (cel [fn] ++ ([Value.int .u64 fl] ++ cel [fs])).toArray, N (P (j + 1)), N (P (j + 1)), N ((P (j + 1)) * (P (j + 1)) % n), N ex, .int .i64 ((j : Nat) : Int), .int .i64 ((bt j : Nat) : Int), .bool true, .agg (cel [fn] ++ ([Value.int .u64 fl] ++ cel [fs])).toArray, N ((P (j + 1)) * (P (j + 1)) % n), N a, N (((P (j + 1)) * (P (j + 1)) % n) * a % n)]), rfl, ⟨by rw [← h1 j hb]; exact H11.out.1, H11.out.2⟩, by omega⟩, by omega⟩
  ·have hrd : True := trivial
   clear hrd
   refine wp_seq (wp_seq ?_)
   refine zC 2 [.q (.int .i64 ((j : Nat) : Int)), .q (.bool true)] H4 ?ho9 ?he9
   case ho9 => exact ar (ag trivial)
   intro _ w12 H12
   clear H4
   refine rN (wp_cond_true rfl ?_)
   refine wp_skip (zA ?_)
   refine wp_seq (wp_block (wp_seq ?_))
   refine zC 4 [.q (.agg (cel [fn] ++ ([Value.int .u64 fl] ++ cel [fs])).toArray), .q (N (P (j + 1))), .q (N (P (j + 1))), .call (N ((P (j + 1)) * (P (j + 1)) % n))] H12 ?ho10 ?he10
   case ho10 => exact bT 1 Ai36 As36 (bN 0 (bN 0 (ac (fun w' h => eC call29 (HM.out (P (j + 1)) (P (j + 1)) (hlt' _) (hlt' _) w')) trivial)))
   intro _ w13 H13
   clear H12
   refine zG (l := [4]) rfl ?_
   refine sG rfl (fun h => zM h 0 rfl rfl rfl rfl (Nat.le_of_ble_eq_true rfl)) 0 [(_, zB ((P (j + 1)) * (P (j + 1)) % n)), _, _, _, _] H13 o2_1 fun w14 H14 => ?_
   clear H13
   refine zE (zA (wp_seq ?_))
   refine zC 4 [.q (N ex), .q (.int .i64 ((j : Nat) : Int)), .call (.int .i64 ((bt j : Nat) : Int)), .q (.bool false)] H14 ?ho11 ?he11
   case ho11 => exact bN 3 (ar (ac (fun w' h => eC call86 (HB.out j (by omega) w')) (ak (fun J => ⟨rfl, fun w' _ => ex_eq31 (decide_eq_false hb) rfl rfl rfl⟩) trivial)))
   intro _ w15 H15
   clear H14
   refine rN (wp_cond_false rfl ?_)
   refine wp_skip (zT (zA ?_))
   refine zC 2 [.q (.int .i64 ((j : Nat) : Int)), .q (.int .i64 (((j : Nat) : Int) - 1))] H15 ?ho12 ?he12
   case ho12 => exact ar (ak (by refine fun J => ⟨rfl, fun w' h => ?_⟩; clear h; go_simp; rw [IntKind.wrap_i64]; omega) trivial)
   intro _ w16 H16
   clear H15
   refine zG (l := [2]) rfl ?_
   refine zN (d := 8) rfl rfl rfl rfl ?_
   simp only [Act.put, sa, sz, ss]
   refine zE (zA ?_)
   exact ⟨j, ⟨(yA [ud, ud, ud, ud, ud, ud, ud, ud, ud, ud, ud, ud, ud, .int .i64 ((j : Nat) : Int), .bool true, .int .i64 ((j : Nat) : Int), .int .i64 (((j : Nat) : Int) - 1), .agg (cel [fn] ++ ([Value.int .u64 fl] ++ cel [fs])).toArray, N (P (j + 1)), N (P (j + 1)), N ((P (j + 1)) * (P (j + 1)) % n), N ex, .int .i64 ((j : Nat) : Int), .int .i64 ((bt j : Nat) : Int), .bool false, s0 25, s0 26, s0 27, s0 28]), rfl, ⟨by rw [← h0 j hb]; exact H16.out.1, H16.out.2⟩, by omega⟩, by omega⟩
 have hk : k = 0 := by omega
 subst hk
 refine wp_seq (wp_seq ?_)
 refine zC 2 [.q (.int .i64 (((0 : Nat) : Int) - 1)), .q (.bool false)] H4 ?ho13 ?he13
 case ho13 => exact ar (ag trivial)
 intro _ w17 H17
 clear H4
 refine rN (wp_cond_false rfl ?_)
 refine wp_exit ?_
 repeat refine then_exit ?_
 refine block_exit ?_
 refine zA (wp_seq ?_)
 refine zC 1 [.q (N (P 0))] H17 ?ho14 ?he14
 case ho14 => exact bN 0 trivial
 intro _ w18 H18
 clear H17
 refine zG (l := [1]) rfl ?_
 refine sG rfl (fun h => zM h 4 rfl rfl rfl rfl (Nat.le_of_ble_eq_true rfl)) 4 [_, _, _, _, (_, zB (P 0))] H18 o1_3 fun w19 H19 => ?_
 clear H18
 refine zE (zA (wp_ret ?_))
 repeat (first | refine zK ?_ | refine zI ?_)
 have c0 := H19.out.1.get 4 rfl 0 rfl
 have c1 := H19.out.1.get 4 rfl 1 rfl
 have c2 := H19.out.1.get 4 rfl 2 rfl
 have c3 := H19.out.1.get 4 rfl 3 rfl
 have c4 := H19.out.1.get 4 rfl 4 rfl
 have c5 := H19.out.1.get 4 rfl 5 rfl
 refine bodyPost_ret (v := N (P 0)) (by simp [results, Tryz.results60, go_sem, *]) rfl ?_
 exact ⟨rfl, H19.out.2⟩
set_option maxHeartbeats 1000000 in
theorem finv_gen {fn fs a ex res c2 : Nat} {fl : Int} {bb : Bool} (hc2 : c2 = 2) (hS0 : ∀ w, Calls Tryz.prog 44 #[N fn, N c2] w (Rt w (.tuple #[N ex, .bool bb]))) (hP : ∀ w, Calls Tryz.prog 60 #[.agg (cel [fn] ++ ([Value.int .u64 fl] ++ cel [fs])).toArray, N a, N ex] w (Rt w (N res))) (w : World) :
  Calls Tryz.prog 37 #[.agg (cel [fn] ++ ([Value.int .u64 fl] ++ cel [fs])).toArray, N a] w (Rt w (N res)) := by
 have H0 : Hid (_ ∧ _) := ⟨Mm.nil w, Below.refl w.heap.size w⟩
 have HS : Hid _ := hS0
 have HP : Hid _ := hP
 clear hS0 hP
 go_enter Tryz.func37, Tryz.ntmps37
 refine wp_seq ?_
 refine zD 3 [.made (cel [fn] ++ ([Value.int .u64 fl] ++ cel [fs])) 36, .made (zB a) 24, .made zero6 24] (sB H0) ?ho1 ?he1
 case ho1 => exact am (ex_boxT rfl rfl) (am (zU rfl rfl) (am (zF rfl) trivial))
 intro J w1 l hM hl
 have H1 : Hid (Mm w1 [(J 0, cel [fn] ++ ([Value.int .u64 fl] ++ cel [fs])), (J 1, zB a), (J 2, zero6)] ∧ _) := wB H0 hM hl [0, 1, 2]
 have o1_0 := vB H0 hM hl 0
 have o1_1 := vB H0 hM hl 1
 have o1_2 := vB H0 hM hl 2
 clear hM hl l
 generalize J 0 = J1_0 at H1 o1_0 ⊢
 generalize J 1 = J1_1 at H1 o1_1 ⊢
 generalize J 2 = J1_2 at H1 o1_2 ⊢
 clear J
 refine rN (wp_seq ?_)
 refine zD 10 [.q (PT J1_0 0), .q (N fn), .q (N c2), .call (.tuple #[N ex, .bool bb]), .q (.tuple #[N ex, .bool bb]), .q (N ex), .q (.bool bb), .made zero6 24, .laid 7 zero6 (zB ex), .q (.bool bb)] (sB H1) ?ho2 ?he2 (hL := ?hL2)
 case hL2 => exact ⟨⟨_, rfl⟩, trivial⟩
 case ho2 => exact ag (bN 0 (ak (fun J => ⟨rfl, fun w' _ => ex_bld1 (m := 2) (by decide) hc2 rfl rfl⟩) (ac (fun w' h => eC call44 (HS.out w')) (ar (ag (ag (am (zF rfl) (ak (fun J => ⟨rfl, rfl, rfl, fun w' h => zJ h rfl rfl rfl⟩) (ar trivial)))))))))
 intro J w2 l hM hl
 have H2 : Hid (Mm w2 ([(J 7, zB ex)] ++ _) ∧ _) := wB H1 hM hl [7]
 have o2_7 := vB H1 hM hl 7
 clear hM hl l H1
 generalize J 7 = J2_7 at H2 o2_7 ⊢
 clear J
 refine rN (wp_seq ?_)
 refine zC 4 [.q (.agg (cel [fn] ++ ([Value.int .u64 fl] ++ cel [fs])).toArray), .q (N a), .q (N ex), .call (N res)] H2 ?ho3 ?he3
 case ho3 => exact bT 1 Ai36 As36 (bN 2 (bN 0 (ac (fun w' h => eC call60 (HP.out w')) trivial)))
 intro _ w3 H3
 clear H2
 refine zG (l := [4]) rfl ?_
 refine sG rfl (fun h => zM h 3 rfl rfl rfl rfl (Nat.le_of_ble_eq_true rfl)) 3 [_, _, _, (_, zB res)] H3 o1_2 fun w4 H4 => ?_
 clear H3
 refine zE (zA (wp_ret ?_))
 repeat (first | refine zK ?_ | refine zI ?_)
 have c0 := H4.out.1.get 3 rfl 0 rfl
 have c1 := H4.out.1.get 3 rfl 1 rfl
 have c2 := H4.out.1.get 3 rfl 2 rfl
 have c3 := H4.out.1.get 3 rfl 3 rfl
 have c4 := H4.out.1.get 3 rfl 4 rfl
 have c5 := H4.out.1.get 3 rfl 5 rfl
 refine bodyPost_ret (v := N res) (by simp [results, Tryz.results37, go_sem, *]) rfl ?_
 exact ⟨rfl, H4.out.2⟩
set_option maxHeartbeats 1000000 in
theorem root1_true {a k1 ez e4 cz m : Nat} {bb : Bool} (hk1 : k1 = 1) (q1 : ∀ w, Calls Tryz.prog 43 #[N pB, N k1] w (Rt w (.tuple #[N ez, .bool bb]))) (q2 : ∀ w, Calls Tryz.prog 61 #[N ez, .int .i64 (-2)] w (Rt w (N e4))) (q3 : ∀ w, Calls Tryz.prog 60 #[.agg (cel [pB] ++ ([Value.int .u64 9940570264628428797] ++ cel [sqP])).toArray, N a, N e4] w (Rt w (N cz))) (q4 : ∀ w, Calls Tryz.prog 29 #[.agg (cel [pB] ++ ([Value.int .u64 9940570264628428797] ++ cel [sqP])).toArray, N cz, N cz] w (Rt w (N m))) (he : ∀ w, (Op.equalIn 10000 24 (N m) (N a)).run Tryz.prog w = .ok true w) (w : World) :
  Calls Tryz.prog 34 #[N a] w (Rt w (.tuple #[N cz, .bool true])) := by
 have H0 : Hid (_ ∧ _) := ⟨Mm.nil w, Below.refl w.heap.size w⟩
 have Q1 : Hid _ := q1
 have Q2 : Hid _ := q2
 have Q3 : Hid _ := q3
 have Q4 : Hid _ := q4
 clear q1 q2 q3 q4
 go_enter Tryz.func34, Tryz.ntmps34
 refine wp_seq ?_
 refine zD 3 [.made (zB a) 24, .made zero6 24, .q (.bool false)] (sB H0) ?ho1 ?he1
 case ho1 => exact am (zU rfl rfl) (am (zF rfl) (ar trivial))
 intro J w1 l hM hl
 have H1 : Hid (Mm w1 [(J 0, zB a), (J 1, zero6)] ∧ _) := wB H0 hM hl [0, 1]
 have o1_0 := vB H0 hM hl 0
 have o1_1 := vB H0 hM hl 1
 clear hM hl l
 generalize J 0 = J1_0 at H1 o1_0 ⊢
 generalize J 1 = J1_1 at H1 o1_1 ⊢
 clear J
 refine rN (wp_seq ?_)
 refine zD 3 [.call (.agg (cel [pB] ++ ([Value.int .u64 9940570264628428797] ++ cel [sqP])).toArray), .made (cel [0] ++ ([Value.int .u64 0] ++ cel [0])) 36, .laid 1 (cel [0] ++ ([Value.int .u64 0] ++ cel [0])) (cel [pB] ++ ([Value.int .u64 9940570264628428797] ++ cel [sqP]))] (sB H1) ?ho2 ?he2 (hL := ?hL2)
 case hL2 => exact ⟨⟨_, rfl⟩, trivial⟩
 case ho2 => exact ac (fun w' h => eC call19 (dP w')) (am (ex_made36 rfl) (ak (fun J => ⟨rfl, rfl, rfl, fun w' h => ex_laidT h rfl rfl As36 rfl rfl rfl⟩) trivial))
 intro J w2 l hM hl
 have H2 : Hid (Mm w2 ([(J 1, cel [pB] ++ ([Value.int .u64 9940570264628428797] ++ cel [sqP]))] ++ _) ∧ _) := wB H1 hM hl [1]
 have o2_1 := vB H1 hM hl 1
 clear hM hl l H1
 generalize J 1 = J2_1 at H2 o2_1 ⊢
 clear J
 refine rN (wp_seq ?_)
 refine zD 10 [.q (PT J2_1 0), .q (N pB), .q (N k1), .call (.tuple #[N ez, .bool bb]), .q (.tuple #[N ez, .bool bb]), .q (N ez), .q (.bool bb), .made zero6 24, .laid 7 zero6 (zB ez), .q (.bool bb)] (sB H2) ?ho3 ?he3 (hL := ?hL3)
 case hL3 => exact ⟨⟨_, rfl⟩, trivial⟩
 case ho3 => exact ag (bN 0 (ak (fun J => ⟨rfl, fun w' _ => ex_bld1 (m := 1) (by decide) hk1 rfl rfl⟩) (ac (fun w' h => eC call43 (Q1.out w')) (ar (ag (ag (am (zF rfl) (ak (fun J => ⟨rfl, rfl, rfl, fun w' h => zJ h rfl rfl rfl⟩) (ar trivial)))))))))
 intro J w3 l hM hl
 have H3 : Hid (Mm w3 ([(J 7, zB ez)] ++ _) ∧ _) := wB H2 hM hl [7]
 have o3_7 := vB H2 hM hl 7
 clear hM hl l H2
 generalize J 7 = J3_7 at H3 o3_7 ⊢
 clear J
 refine rN (wp_seq ?_)
 refine zQ 7 [.q (.agg (cel [pB] ++ ([Value.int .u64 9940570264628428797] ++ cel [sqP])).toArray), .q (N a), .q (N ez), .call (N e4), .call (N cz), .made zero6 24, .laid 5 zero6 (zB cz)] (sB H3) ?ho4 ?he4 (hL := ?hL4)
 case hL4 => exact ⟨⟨_, rfl⟩, trivial⟩
 case ho4 => exact bT 1 Ai36 As36 (bN 2 (bN 0 (ac (fun w' h => eC call61 (Q2.out w')) (ac (fun w' h => eC call60 (Q3.out w')) (am (zF rfl) (ak (fun J => ⟨rfl, rfl, rfl, fun w' h => zJ h rfl rfl rfl⟩) trivial))))))
 intro J w4 l hM hl
 have H4 : Hid (Mm w4 ([(J 5, zB cz)] ++ _) ∧ _) := wB H3 hM hl [5]
 have o4_5 := vB H3 hM hl 5
 clear hM hl l H3
 generalize J 5 = J4_5 at H4 o4_5 ⊢
 clear J
 refine rN (wp_seq ?_)
 refine walk_put2 (by kernel_rfl) 7 [5, 6] [.q (N cz), .q (.agg (cel [pB] ++ ([Value.int .u64 9940570264628428797] ++ cel [sqP])).toArray), .q (N cz), .q (N cz), .call (N m), .q (N a), .q (.bool true)] _ ?pre5 ?F5 _ ?hpre5 (fun J => ?hF5) (by kernel_rfl) rfl trivial (sB H4) ?ho5 ?hla5 ?he5
 case hpre5 => simp only [tk, tz]; rfl
 case hF5 => simp only [yB, Kind.val, Act.put, sa, sz, ss]; rfl
 case ho5 =>
  refine bN 0 ?_
  refine bT 2 Ai36 As36 ?_
  refine bN 0 ?_
  refine bN 0 ?_
  refine ak (fun J => ⟨rfl, fun w' h => eC call29 (Q4.out w')⟩) ?_
  refine bN 3 ?_
  refine ak (fun J => ⟨rfl, fun w' _ => exec_eq6 he rfl rfl rfl⟩) ?_
  exact trivial
 case hla5 => exact rfl
 intro J w5 l hM hl
 have H5 := keepB H4 hM.below
 clear hM hl l H4 J
 have H6 : Hid (Mm (w5.setCells J1_1 0 (zB cz)) [(J4_5, zB cz), (J3_7, zB ez), (J2_1, cel [pB] ++ ([Value.int .u64 9940570264628428797] ++ cel [sqP])), (J1_0, zB a), (J1_1, zB cz)] ∧ Below w.heap.size w (w5.setCells J1_1 0 (zB cz))) := ⟨H5.out.1.put 4 (off := 0) (vs := zB cz) rfl (Nat.le_of_ble_eq_true rfl), zP _ o1_1.out _ _ _ H5.out.2⟩
 refine ⟨_, zM H5.out.1 4 rfl rfl rfl rfl (Nat.le_of_ble_eq_true rfl), ⟨⟨_, _, rfl, rfl, rfl, zY H6.out.1 3 rfl rfl rfl rfl⟩, ⟨_, _, rfl, rfl, rfl, by first | rfl | go_simp⟩, trivial⟩, ?_⟩
 clear H5
 generalize hgw : World.setCells _ _ _ _ = w6 at H6 ⊢
 clear hgw
 refine zG (l := [8]) rfl ?_
 refine zN (d := 3) rfl rfl rfl rfl ?_
 simp only [Act.put, sa, sz, ss]
 refine zE (zA (wp_ret ?_))
 repeat (first | refine zK ?_ | refine zI ?_)
 have c0 := H6.out.1.get 4 rfl 0 rfl
 have c1 := H6.out.1.get 4 rfl 1 rfl
 have c2 := H6.out.1.get 4 rfl 2 rfl
 have c3 := H6.out.1.get 4 rfl 3 rfl
 have c4 := H6.out.1.get 4 rfl 4 rfl
 have c5 := H6.out.1.get 4 rfl 5 rfl
 refine bodyPost_ret (v := .tuple #[N cz, .bool true]) (by simp [results, Tryz.results34, go_sem, *]) rfl ?_
 exact ⟨rfl, H6.out.2⟩
set_option maxHeartbeats 1000000 in
theorem root1_false {a k1 ez e4 cz m : Nat} {bb : Bool} (hk1 : k1 = 1) (q1 : ∀ w, Calls Tryz.prog 43 #[N pB, N k1] w (Rt w (.tuple #[N ez, .bool bb]))) (q2 : ∀ w, Calls Tryz.prog 61 #[N ez, .int .i64 (-2)] w (Rt w (N e4))) (q3 : ∀ w, Calls Tryz.prog 60 #[.agg (cel [pB] ++ ([Value.int .u64 9940570264628428797] ++ cel [sqP])).toArray, N a, N e4] w (Rt w (N cz))) (q4 : ∀ w, Calls Tryz.prog 29 #[.agg (cel [pB] ++ ([Value.int .u64 9940570264628428797] ++ cel [sqP])).toArray, N cz, N cz] w (Rt w (N m))) (he : ∀ w, (Op.equalIn 10000 24 (N m) (N a)).run Tryz.prog w = .ok false w) (w : World) :
  Calls Tryz.prog 34 #[N a] w (Rt w (.tuple #[N cz, .bool false])) := by
 have H0 : Hid (_ ∧ _) := ⟨Mm.nil w, Below.refl w.heap.size w⟩
 have Q1 : Hid _ := q1
 have Q2 : Hid _ := q2
 have Q3 : Hid _ := q3
 have Q4 : Hid _ := q4
 clear q1 q2 q3 q4
 go_enter Tryz.func34, Tryz.ntmps34
 refine wp_seq ?_
 refine zD 3 [.made (zB a) 24, .made zero6 24, .q (.bool false)] (sB H0) ?ho1 ?he1
 case ho1 => exact am (zU rfl rfl) (am (zF rfl) (ar trivial))
 intro J w1 l hM hl
 have H1 : Hid (Mm w1 [(J 0, zB a), (J 1, zero6)] ∧ _) := wB H0 hM hl [0, 1]
 have o1_0 := vB H0 hM hl 0
 have o1_1 := vB H0 hM hl 1
 clear hM hl l
 generalize J 0 = J1_0 at H1 o1_0 ⊢
 generalize J 1 = J1_1 at H1 o1_1 ⊢
 clear J
 refine rN (wp_seq ?_)
 refine zD 3 [.call (.agg (cel [pB] ++ ([Value.int .u64 9940570264628428797] ++ cel [sqP])).toArray), .made (cel [0] ++ ([Value.int .u64 0] ++ cel [0])) 36, .laid 1 (cel [0] ++ ([Value.int .u64 0] ++ cel [0])) (cel [pB] ++ ([Value.int .u64 9940570264628428797] ++ cel [sqP]))] (sB H1) ?ho2 ?he2 (hL := ?hL2)
 case hL2 => exact ⟨⟨_, rfl⟩, trivial⟩
 case ho2 => exact ac (fun w' h => eC call19 (dP w')) (am (ex_made36 rfl) (ak (fun J => ⟨rfl, rfl, rfl, fun w' h => ex_laidT h rfl rfl As36 rfl rfl rfl⟩) trivial))
 intro J w2 l hM hl
 have H2 : Hid (Mm w2 ([(J 1, cel [pB] ++ ([Value.int .u64 9940570264628428797] ++ cel [sqP]))] ++ _) ∧ _) := wB H1 hM hl [1]
 have o2_1 := vB H1 hM hl 1
 clear hM hl l H1
 generalize J 1 = J2_1 at H2 o2_1 ⊢
 clear J
 refine rN (wp_seq ?_)
 refine zD 10 [.q (PT J2_1 0), .q (N pB), .q (N k1), .call (.tuple #[N ez, .bool bb]), .q (.tuple #[N ez, .bool bb]), .q (N ez), .q (.bool bb), .made zero6 24, .laid 7 zero6 (zB ez), .q (.bool bb)] (sB H2) ?ho3 ?he3 (hL := ?hL3)
 case hL3 => exact ⟨⟨_, rfl⟩, trivial⟩
 case ho3 => exact ag (bN 0 (ak (fun J => ⟨rfl, fun w' _ => ex_bld1 (m := 1) (by decide) hk1 rfl rfl⟩) (ac (fun w' h => eC call43 (Q1.out w')) (ar (ag (ag (am (zF rfl) (ak (fun J => ⟨rfl, rfl, rfl, fun w' h => zJ h rfl rfl rfl⟩) (ar trivial)))))))))
 intro J w3 l hM hl
 have H3 : Hid (Mm w3 ([(J 7, zB ez)] ++ _) ∧ _) := wB H2 hM hl [7]
 have o3_7 := vB H2 hM hl 7
 clear hM hl l H2
 generalize J 7 = J3_7 at H3 o3_7 ⊢
 clear J
 refine rN (wp_seq ?_)
 refine zQ 7 [.q (.agg (cel [pB] ++ ([Value.int .u64 9940570264628428797] ++ cel [sqP])).toArray), .q (N a), .q (N ez), .call (N e4), .call (N cz), .made zero6 24, .laid 5 zero6 (zB cz)] (sB H3) ?ho4 ?he4 (hL := ?hL4)
 case hL4 => exact ⟨⟨_, rfl⟩, trivial⟩
 case ho4 => exact bT 1 Ai36 As36 (bN 2 (bN 0 (ac (fun w' h => eC call61 (Q2.out w')) (ac (fun w' h => eC call60 (Q3.out w')) (am (zF rfl) (ak (fun J => ⟨rfl, rfl, rfl, fun w' h => zJ h rfl rfl rfl⟩) trivial))))))
 intro J w4 l hM hl
 have H4 : Hid (Mm w4 ([(J 5, zB cz)] ++ _) ∧ _) := wB H3 hM hl [5]
 have o4_5 := vB H3 hM hl 5
 clear hM hl l H3
 generalize J 5 = J4_5 at H4 o4_5 ⊢
 clear J
 refine rN (wp_seq ?_)
 refine walk_put2 (by kernel_rfl) 7 [5, 6] [.q (N cz), .q (.agg (cel [pB] ++ ([Value.int .u64 9940570264628428797] ++ cel [sqP])).toArray), .q (N cz), .q (N cz), .call (N m), .q (N a), .q (.bool false)] _ ?pre5 ?F5 _ ?hpre5 (fun J => ?hF5) (by kernel_rfl) rfl trivial (sB H4) ?ho5 ?hla5 ?he5
 case hpre5 => simp only [tk, tz]; rfl
 case hF5 => simp only [yB, Kind.val, Act.put, sa, sz, ss]; rfl
 case ho5 =>
  refine bN 0 ?_
  refine bT 2 Ai36 As36 ?_
  refine bN 0 ?_
  refine bN 0 ?_
  refine ak (fun J => ⟨rfl, fun w' h => eC call29 (Q4.out w')⟩) ?_
  refine bN 3 ?_
  refine ak (fun J => ⟨rfl, fun w' _ => exec_eq6 he rfl rfl rfl⟩) ?_
  exact trivial
 case hla5 => exact rfl
 intro J w5 l hM hl
 have H5 := keepB H4 hM.below
 clear hM hl l H4 J
 have H6 : Hid (Mm (w5.setCells J1_1 0 (zB cz)) [(J4_5, zB cz), (J3_7, zB ez), (J2_1, cel [pB] ++ ([Value.int .u64 9940570264628428797] ++ cel [sqP])), (J1_0, zB a), (J1_1, zB cz)] ∧ Below w.heap.size w (w5.setCells J1_1 0 (zB cz))) := ⟨H5.out.1.put 4 (off := 0) (vs := zB cz) rfl (Nat.le_of_ble_eq_true rfl), zP _ o1_1.out _ _ _ H5.out.2⟩
 refine ⟨_, zM H5.out.1 4 rfl rfl rfl rfl (Nat.le_of_ble_eq_true rfl), ⟨⟨_, _, rfl, rfl, rfl, zY H6.out.1 3 rfl rfl rfl rfl⟩, ⟨_, _, rfl, rfl, rfl, by first | rfl | go_simp⟩, trivial⟩, ?_⟩
 clear H5
 generalize hgw : World.setCells _ _ _ _ = w6 at H6 ⊢
 clear hgw
 refine zG (l := [8]) rfl ?_
 refine zN (d := 3) rfl rfl rfl rfl ?_
 simp only [Act.put, sa, sz, ss]
 refine zE (zA (wp_ret ?_))
 repeat (first | refine zK ?_ | refine zI ?_)
 have c0 := H6.out.1.get 4 rfl 0 rfl
 have c1 := H6.out.1.get 4 rfl 1 rfl
 have c2 := H6.out.1.get 4 rfl 2 rfl
 have c3 := H6.out.1.get 4 rfl 3 rfl
 have c4 := H6.out.1.get 4 rfl 4 rfl
 have c5 := H6.out.1.get 4 rfl 5 rfl
 refine bodyPost_ret (v := .tuple #[N cz, .bool false]) (by simp [results, Tryz.results34, go_sem, *]) rfl ?_
 exact ⟨rfl, H6.out.2⟩
set_option maxHeartbeats 1000000 in
theorem half_w {a k1 ez e2 m : Nat} {bb : Bool} (hk1 : k1 = 1) (q1 : ∀ w, Calls Tryz.prog 43 #[N pB, N k1] w (Rt w (.tuple #[N ez, .bool bb]))) (q2 : ∀ w, Calls Tryz.prog 61 #[N ez, .int .i64 (-1)] w (Rt w (N e2))) (q3 : ∀ w, Calls Tryz.prog 29 #[.agg (cel [pB] ++ ([Value.int .u64 9940570264628428797] ++ cel [sqP])).toArray, N a, N e2] w (Rt w (N m))) (w : World) :
  Calls Tryz.prog 35 #[N a] w (Rt w (N m)) := by
 have H0 : Hid (_ ∧ _) := ⟨Mm.nil w, Below.refl w.heap.size w⟩
 have Q1 : Hid _ := q1
 have Q2 : Hid _ := q2
 have Q3 : Hid _ := q3
 clear q1 q2 q3
 go_enter Tryz.func35, Tryz.ntmps35
 refine wp_seq ?_
 refine zD 2 [.made (zB a) 24, .made zero6 24] (sB H0) ?ho1 ?he1
 case ho1 => exact am (zU rfl rfl) (am (zF rfl) trivial)
 intro J w1 l hM hl
 have H1 : Hid (Mm w1 [(J 0, zB a), (J 1, zero6)] ∧ _) := wB H0 hM hl [0, 1]
 have o1_0 := vB H0 hM hl 0
 have o1_1 := vB H0 hM hl 1
 clear hM hl l
 generalize J 0 = J1_0 at H1 o1_0 ⊢
 generalize J 1 = J1_1 at H1 o1_1 ⊢
 clear J
 refine rN (wp_seq ?_)
 refine zD 3 [.call (.agg (cel [pB] ++ ([Value.int .u64 9940570264628428797] ++ cel [sqP])).toArray), .made (cel [0] ++ ([Value.int .u64 0] ++ cel [0])) 36, .laid 1 (cel [0] ++ ([Value.int .u64 0] ++ cel [0])) (cel [pB] ++ ([Value.int .u64 9940570264628428797] ++ cel [sqP]))] (sB H1) ?ho2 ?he2 (hL := ?hL2)
 case hL2 => exact ⟨⟨_, rfl⟩, trivial⟩
 case ho2 => exact ac (fun w' h => eC call19 (dP w')) (am (ex_made36 rfl) (ak (fun J => ⟨rfl, rfl, rfl, fun w' h => ex_laidT h rfl rfl As36 rfl rfl rfl⟩) trivial))
 intro J w2 l hM hl
 have H2 : Hid (Mm w2 ([(J 1, cel [pB] ++ ([Value.int .u64 9940570264628428797] ++ cel [sqP]))] ++ _) ∧ _) := wB H1 hM hl [1]
 have o2_1 := vB H1 hM hl 1
 clear hM hl l H1
 generalize J 1 = J2_1 at H2 o2_1 ⊢
 clear J
 refine rN (wp_seq ?_)
 refine zD 10 [.q (PT J2_1 0), .q (N pB), .q (N k1), .call (.tuple #[N ez, .bool bb]), .q (.tuple #[N ez, .bool bb]), .q (N ez), .q (.bool bb), .made zero6 24, .laid 7 zero6 (zB ez), .q (.bool bb)] (sB H2) ?ho3 ?he3 (hL := ?hL3)
 case hL3 => exact ⟨⟨_, rfl⟩, trivial⟩
 case ho3 => exact ag (bN 0 (ak (fun J => ⟨rfl, fun w' _ => ex_bld1 (m := 1) (by decide) hk1 rfl rfl⟩) (ac (fun w' h => eC call43 (Q1.out w')) (ar (ag (ag (am (zF rfl) (ak (fun J => ⟨rfl, rfl, rfl, fun w' h => zJ h rfl rfl rfl⟩) (ar trivial)))))))))
 intro J w3 l hM hl
 have H3 : Hid (Mm w3 ([(J 7, zB ez)] ++ _) ∧ _) := wB H2 hM hl [7]
 have o3_7 := vB H2 hM hl 7
 clear hM hl l H2
 generalize J 7 = J3_7 at H3 o3_7 ⊢
 clear J
 refine rN (wp_seq ?_)
 refine zS 5 [.q (.agg (cel [pB] ++ ([Value.int .u64 9940570264628428797] ++ cel [sqP])).toArray), .q (N a), .q (N ez), .call (N e2), .call (N m)] H3 ?ho4 ?he4
 case ho4 => exact bT 1 Ai36 As36 (bN 2 (bN 0 (ac (fun w' h => eC call61 (Q2.out w')) (ac (fun w' h => eC call29 (Q3.out w')) trivial))))
 intro _ w4 H4
 clear H3
 refine zG (l := [5]) rfl ?_
 refine sG rfl (fun h => zM h 3 rfl rfl rfl rfl (Nat.le_of_ble_eq_true rfl)) 3 [_, _, _, (_, zB m)] H4 o1_1 fun w5 H5 => ?_
 clear H4
 refine zE (zA (wp_ret ?_))
 repeat (first | refine zK ?_ | refine zI ?_)
 have c0 := H5.out.1.get 3 rfl 0 rfl
 have c1 := H5.out.1.get 3 rfl 1 rfl
 have c2 := H5.out.1.get 3 rfl 2 rfl
 have c3 := H5.out.1.get 3 rfl 3 rfl
 have c4 := H5.out.1.get 3 rfl 4 rfl
 have c5 := H5.out.1.get 3 rfl 5 rfl
 refine bodyPost_ret (v := N m) (by simp [results, Tryz.results35, go_sem, *]) rfl ?_
 exact ⟨rfl, H5.out.2⟩
set_option maxHeartbeats 1000000 in
theorem les_p {a c d f : Nat} {z1 : Int} (g1 : ∀ w, Calls Tryz.prog 10 #[V [a, c]] w (Rt w (V [d, f]))) (g2 : ∀ w, Calls Tryz.prog 39 #[N c, N f] w (Rt w (.int .i64 z1))) (hz1 : 0 < z1) (w : World) :
  Calls Tryz.prog 36 #[V [a, c]] w (Rt w (V [d, f])) := by
 have H0 : Hid (_ ∧ _) := ⟨Mm.nil w, Below.refl w.heap.size w⟩
 have G1 : Hid _ := g1
 have G2 : Hid _ := g2
 clear g1 g2
 go_enter Tryz.func36, Tryz.ntmps36
 refine wp_seq ?_
 refine zD 2 [.made (cel [a, c]) 26, .made (cel [0, 0]) 26] (sB H0) ?ho1 ?he1
 case ho1 => exact am (zV rfl rfl) (am (zO rfl) trivial)
 intro J w1 l hM hl
 have H1 : Hid (Mm w1 [(J 0, cel [a, c]), (J 1, cel [0, 0])] ∧ _) := wB H0 hM hl [0, 1]
 have o1_0 := vB H0 hM hl 0
 have o1_1 := vB H0 hM hl 1
 clear hM hl l
 generalize J 0 = J1_0 at H1 o1_0 ⊢
 generalize J 1 = J1_1 at H1 o1_1 ⊢
 clear J
 refine rN (wp_seq ?_)
 refine zD 4 [.q (V [a, c]), .call (V [d, f]), .made (cel [0, 0]) 26, .laid 2 (cel [0, 0]) (cel [d, f])] (sB H1) ?ho2 ?he2 (hL := ?hL2)
 case hL2 => exact ⟨⟨_, rfl⟩, trivial⟩
 case ho2 => exact bA 0 2 0 Ai26 As26 (ac (fun w' h => eC call10 (G1.out w')) (am (zO rfl) (ak (fun J => ⟨rfl, rfl, rfl, fun w' h => ex_laidA h rfl As26 rfl rfl rfl⟩) trivial)))
 intro J w2 l hM hl
 have H2 : Hid (Mm w2 ([(J 2, cel [d, f])] ++ _) ∧ _) := wB H1 hM hl [2]
 have o2_2 := vB H1 hM hl 2
 clear hM hl l H1
 generalize J 2 = J2_2 at H2 o2_2 ⊢
 clear J
 refine rN (wp_seq ?_)
 refine zC 6 [.q (PT J1_0 6), .q (N c), .q (PT J2_2 6), .q (N f), .call (.int .i64 z1), .q (.int .i64 z1)] H2 ?ho3 ?he3
 case ho3 => exact ag (aq (fun w' h => zH (i := 1) h 1 rfl rfl rfl rfl) (ag (aq (fun w' h => zH (i := 1) h 0 rfl rfl rfl rfl) (ac (fun w' h => eC call39 (G2.out w')) (ar trivial)))))
 intro _ w3 H3
 clear H2
 refine rN (wp_seq (wp_seq ?_))
 refine zC 2 [.q (.int .i64 z1), .q (.bool false)] H3 ?ho4 ?he4
 case ho4 => exact ar (ak (by refine fun J => ⟨rfl, fun w' h => ?_⟩; clear h; go_simp <;> omega) trivial)
 intro _ w4 H4
 clear H3
 refine rN (wp_cond_false rfl ?_)
 refine wp_skip (zA ?_)
 refine wp_seq (wp_seq ?_)
 refine zC 2 [.q (.int .i64 z1), .q (.bool true)] H4 ?ho5 ?he5
 case ho5 => exact ar (ak (by refine fun J => ⟨rfl, fun w' h => ?_⟩; clear h; go_simp <;> omega) trivial)
 intro _ w5 H5
 clear H4
 refine rN (wp_cond_true rfl (wp_seq ?_))
 refine zC 1 [.q (V [d, f])] H5 ?ho6 ?he6
 case ho6 => exact bA 0 2 0 Ai26 As26 trivial
 intro _ w6 H6
 clear H5
 refine zG (l := [1]) rfl ?_
 refine sF 2 [d, f] [_, _, _] H6 o1_1 As26 fun w7 H7 => ?_
 clear H6
 refine zE (zA (wp_ret ?_))
 repeat (first | refine zK ?_ | refine zI ?_)
 have hf0 := cel_var (k := 2) H7.out.1 2 rfl Ai26 As26 rfl
 refine bodyPost_ret (v := V [d, f]) (by simp [results, Tryz.results36, asAddr, hf0]) rfl ?_
 exact ⟨rfl, H7.out.2⟩
set_option maxHeartbeats 1000000 in
theorem les_m {a c d f : Nat} {z1 : Int} (g1 : ∀ w, Calls Tryz.prog 10 #[V [a, c]] w (Rt w (V [d, f]))) (g2 : ∀ w, Calls Tryz.prog 39 #[N c, N f] w (Rt w (.int .i64 z1))) (hz1 : z1 < 0) (w : World) :
  Calls Tryz.prog 36 #[V [a, c]] w (Rt w (V [a, c])) := by
 have H0 : Hid (_ ∧ _) := ⟨Mm.nil w, Below.refl w.heap.size w⟩
 have G1 : Hid _ := g1
 have G2 : Hid _ := g2
 clear g1 g2
 go_enter Tryz.func36, Tryz.ntmps36
 refine wp_seq ?_
 refine zD 2 [.made (cel [a, c]) 26, .made (cel [0, 0]) 26] (sB H0) ?ho1 ?he1
 case ho1 => exact am (zV rfl rfl) (am (zO rfl) trivial)
 intro J w1 l hM hl
 have H1 : Hid (Mm w1 [(J 0, cel [a, c]), (J 1, cel [0, 0])] ∧ _) := wB H0 hM hl [0, 1]
 have o1_0 := vB H0 hM hl 0
 have o1_1 := vB H0 hM hl 1
 clear hM hl l
 generalize J 0 = J1_0 at H1 o1_0 ⊢
 generalize J 1 = J1_1 at H1 o1_1 ⊢
 clear J
 refine rN (wp_seq ?_)
 refine zD 4 [.q (V [a, c]), .call (V [d, f]), .made (cel [0, 0]) 26, .laid 2 (cel [0, 0]) (cel [d, f])] (sB H1) ?ho2 ?he2 (hL := ?hL2)
 case hL2 => exact ⟨⟨_, rfl⟩, trivial⟩
 case ho2 => exact bA 0 2 0 Ai26 As26 (ac (fun w' h => eC call10 (G1.out w')) (am (zO rfl) (ak (fun J => ⟨rfl, rfl, rfl, fun w' h => ex_laidA h rfl As26 rfl rfl rfl⟩) trivial)))
 intro J w2 l hM hl
 have H2 : Hid (Mm w2 ([(J 2, cel [d, f])] ++ _) ∧ _) := wB H1 hM hl [2]
 have o2_2 := vB H1 hM hl 2
 clear hM hl l H1
 generalize J 2 = J2_2 at H2 o2_2 ⊢
 clear J
 refine rN (wp_seq ?_)
 refine zC 6 [.q (PT J1_0 6), .q (N c), .q (PT J2_2 6), .q (N f), .call (.int .i64 z1), .q (.int .i64 z1)] H2 ?ho3 ?he3
 case ho3 => exact ag (aq (fun w' h => zH (i := 1) h 1 rfl rfl rfl rfl) (ag (aq (fun w' h => zH (i := 1) h 0 rfl rfl rfl rfl) (ac (fun w' h => eC call39 (G2.out w')) (ar trivial)))))
 intro _ w3 H3
 clear H2
 refine rN (wp_seq (wp_seq ?_))
 refine zC 2 [.q (.int .i64 z1), .q (.bool false)] H3 ?ho4 ?he4
 case ho4 => exact ar (ak (by refine fun J => ⟨rfl, fun w' h => ?_⟩; clear h; go_simp <;> omega) trivial)
 intro _ w4 H4
 clear H3
 refine rN (wp_cond_false rfl ?_)
 refine wp_skip (zA ?_)
 refine wp_seq (wp_seq ?_)
 refine zC 2 [.q (.int .i64 z1), .q (.bool false)] H4 ?ho5 ?he5
 case ho5 => exact ar (ak (by refine fun J => ⟨rfl, fun w' h => ?_⟩; clear h; go_simp <;> omega) trivial)
 intro _ w5 H5
 clear H4
 refine rN (wp_cond_false rfl ?_)
 refine wp_skip (zA (wp_seq ?_))
 refine zC 1 [.q (V [a, c])] H5 ?ho6 ?he6
 case ho6 => exact bA 0 2 1 Ai26 As26 trivial
 intro _ w6 H6
 clear H5
 refine zG (l := [1]) rfl ?_
 refine sF 2 [a, c] [_, _, _] H6 o1_1 As26 fun w7 H7 => ?_
 clear H6
 refine zE (zA (wp_ret ?_))
 repeat (first | refine zK ?_ | refine zI ?_)
 have hf0 := cel_var (k := 2) H7.out.1 2 rfl Ai26 As26 rfl
 refine bodyPost_ret (v := V [a, c]) (by simp [results, Tryz.results36, asAddr, hf0]) rfl ?_
 exact ⟨rfl, H7.out.2⟩
set_option maxHeartbeats 1000000 in
theorem les_0p {a c d f : Nat} {z1 z0 : Int} (g1 : ∀ w, Calls Tryz.prog 10 #[V [a, c]] w (Rt w (V [d, f]))) (g2 : ∀ w, Calls Tryz.prog 39 #[N c, N f] w (Rt w (.int .i64 z1))) (g3 : ∀ w, Calls Tryz.prog 39 #[N a, N d] w (Rt w (.int .i64 z0))) (hz1 : z1 = 0) (hz0 : 0 < z0) (w : World) :
  Calls Tryz.prog 36 #[V [a, c]] w (Rt w (V [d, f])) := by
 have H0 : Hid (_ ∧ _) := ⟨Mm.nil w, Below.refl w.heap.size w⟩
 have G1 : Hid _ := g1
 have G2 : Hid _ := g2
 have G3 : Hid _ := g3
 clear g1 g2 g3
 go_enter Tryz.func36, Tryz.ntmps36
 refine wp_seq ?_
 refine zD 2 [.made (cel [a, c]) 26, .made (cel [0, 0]) 26] (sB H0) ?ho1 ?he1
 case ho1 => exact am (zV rfl rfl) (am (zO rfl) trivial)
 intro J w1 l hM hl
 have H1 : Hid (Mm w1 [(J 0, cel [a, c]), (J 1, cel [0, 0])] ∧ _) := wB H0 hM hl [0, 1]
 have o1_0 := vB H0 hM hl 0
 have o1_1 := vB H0 hM hl 1
 clear hM hl l
 generalize J 0 = J1_0 at H1 o1_0 ⊢
 generalize J 1 = J1_1 at H1 o1_1 ⊢
 clear J
 refine rN (wp_seq ?_)
 refine zD 4 [.q (V [a, c]), .call (V [d, f]), .made (cel [0, 0]) 26, .laid 2 (cel [0, 0]) (cel [d, f])] (sB H1) ?ho2 ?he2 (hL := ?hL2)
 case hL2 => exact ⟨⟨_, rfl⟩, trivial⟩
 case ho2 => exact bA 0 2 0 Ai26 As26 (ac (fun w' h => eC call10 (G1.out w')) (am (zO rfl) (ak (fun J => ⟨rfl, rfl, rfl, fun w' h => ex_laidA h rfl As26 rfl rfl rfl⟩) trivial)))
 intro J w2 l hM hl
 have H2 : Hid (Mm w2 ([(J 2, cel [d, f])] ++ _) ∧ _) := wB H1 hM hl [2]
 have o2_2 := vB H1 hM hl 2
 clear hM hl l H1
 generalize J 2 = J2_2 at H2 o2_2 ⊢
 clear J
 refine rN (wp_seq ?_)
 refine zC 6 [.q (PT J1_0 6), .q (N c), .q (PT J2_2 6), .q (N f), .call (.int .i64 z1), .q (.int .i64 z1)] H2 ?ho3 ?he3
 case ho3 => exact ag (aq (fun w' h => zH (i := 1) h 1 rfl rfl rfl rfl) (ag (aq (fun w' h => zH (i := 1) h 0 rfl rfl rfl rfl) (ac (fun w' h => eC call39 (G2.out w')) (ar trivial)))))
 intro _ w3 H3
 clear H2
 refine rN (wp_seq (wp_seq ?_))
 refine zC 2 [.q (.int .i64 z1), .q (.bool true)] H3 ?ho4 ?he4
 case ho4 => exact ar (ak (by refine fun J => ⟨rfl, fun w' h => ?_⟩; clear h; go_simp <;> omega) trivial)
 intro _ w4 H4
 clear H3
 refine rN (wp_cond_true rfl ?_)
 refine zC 6 [.q (PT J1_0 0), .q (N a), .q (PT J2_2 0), .q (N d), .call (.int .i64 z0), .q (.int .i64 z0)] H4 ?ho5 ?he5
 case ho5 => exact ag (aq (fun w' h => zH (i := 0) h 1 rfl rfl rfl rfl) (ag (aq (fun w' h => zH (i := 0) h 0 rfl rfl rfl rfl) (ac (fun w' h => eC call39 (G3.out w')) (ar trivial)))))
 intro _ w5 H5
 clear H4
 refine rN (wp_seq (wp_seq ?_))
 refine zC 2 [.q (.int .i64 z0), .q (.bool true)] H5 ?ho6 ?he6
 case ho6 => exact ar (ak (by refine fun J => ⟨rfl, fun w' h => ?_⟩; clear h; go_simp <;> omega) trivial)
 intro _ w6 H6
 clear H5
 refine rN (wp_cond_true rfl (wp_seq ?_))
 refine zC 1 [.q (V [d, f])] H6 ?ho7 ?he7
 case ho7 => exact bA 0 2 0 Ai26 As26 trivial
 intro _ w7 H7
 clear H6
 refine zG (l := [1]) rfl ?_
 refine sF 2 [d, f] [_, _, _] H7 o1_1 As26 fun w8 H8 => ?_
 clear H7
 refine zE (zA (wp_ret ?_))
 repeat (first | refine zK ?_ | refine zI ?_)
 have hf0 := cel_var (k := 2) H8.out.1 2 rfl Ai26 As26 rfl
 refine bodyPost_ret (v := V [d, f]) (by simp [results, Tryz.results36, asAddr, hf0]) rfl ?_
 exact ⟨rfl, H8.out.2⟩
set_option maxHeartbeats 1000000 in
theorem les_0m {a c d f : Nat} {z1 z0 : Int} (g1 : ∀ w, Calls Tryz.prog 10 #[V [a, c]] w (Rt w (V [d, f]))) (g2 : ∀ w, Calls Tryz.prog 39 #[N c, N f] w (Rt w (.int .i64 z1))) (g3 : ∀ w, Calls Tryz.prog 39 #[N a, N d] w (Rt w (.int .i64 z0))) (hz1 : z1 = 0) (hz0 : ¬ 0 < z0) (w : World) :
  Calls Tryz.prog 36 #[V [a, c]] w (Rt w (V [a, c])) := by
 have H0 : Hid (_ ∧ _) := ⟨Mm.nil w, Below.refl w.heap.size w⟩
 have G1 : Hid _ := g1
 have G2 : Hid _ := g2
 have G3 : Hid _ := g3
 clear g1 g2 g3
 go_enter Tryz.func36, Tryz.ntmps36
 refine wp_seq ?_
 refine zD 2 [.made (cel [a, c]) 26, .made (cel [0, 0]) 26] (sB H0) ?ho1 ?he1
 case ho1 => exact am (zV rfl rfl) (am (zO rfl) trivial)
 intro J w1 l hM hl
 have H1 : Hid (Mm w1 [(J 0, cel [a, c]), (J 1, cel [0, 0])] ∧ _) := wB H0 hM hl [0, 1]
 have o1_0 := vB H0 hM hl 0
 have o1_1 := vB H0 hM hl 1
 clear hM hl l
 generalize J 0 = J1_0 at H1 o1_0 ⊢
 generalize J 1 = J1_1 at H1 o1_1 ⊢
 clear J
 refine rN (wp_seq ?_)
 refine zD 4 [.q (V [a, c]), .call (V [d, f]), .made (cel [0, 0]) 26, .laid 2 (cel [0, 0]) (cel [d, f])] (sB H1) ?ho2 ?he2 (hL := ?hL2)
 case hL2 => exact ⟨⟨_, rfl⟩, trivial⟩
 case ho2 => exact bA 0 2 0 Ai26 As26 (ac (fun w' h => eC call10 (G1.out w')) (am (zO rfl) (ak (fun J => ⟨rfl, rfl, rfl, fun w' h => ex_laidA h rfl As26 rfl rfl rfl⟩) trivial)))
 intro J w2 l hM hl
 have H2 : Hid (Mm w2 ([(J 2, cel [d, f])] ++ _) ∧ _) := wB H1 hM hl [2]
 have o2_2 := vB H1 hM hl 2
 clear hM hl l H1
 generalize J 2 = J2_2 at H2 o2_2 ⊢
 clear J
 refine rN (wp_seq ?_)
 refine zC 6 [.q (PT J1_0 6), .q (N c), .q (PT J2_2 6), .q (N f), .call (.int .i64 z1), .q (.int .i64 z1)] H2 ?ho3 ?he3
 case ho3 => exact ag (aq (fun w' h => zH (i := 1) h 1 rfl rfl rfl rfl) (ag (aq (fun w' h => zH (i := 1) h 0 rfl rfl rfl rfl) (ac (fun w' h => eC call39 (G2.out w')) (ar trivial)))))
 intro _ w3 H3
 clear H2
 refine rN (wp_seq (wp_seq ?_))
 refine zC 2 [.q (.int .i64 z1), .q (.bool true)] H3 ?ho4 ?he4
 case ho4 => exact ar (ak (by refine fun J => ⟨rfl, fun w' h => ?_⟩; clear h; go_simp <;> omega) trivial)
 intro _ w4 H4
 clear H3
 refine rN (wp_cond_true rfl ?_)
 refine zC 6 [.q (PT J1_0 0), .q (N a), .q (PT J2_2 0), .q (N d), .call (.int .i64 z0), .q (.int .i64 z0)] H4 ?ho5 ?he5
 case ho5 => exact ag (aq (fun w' h => zH (i := 0) h 1 rfl rfl rfl rfl) (ag (aq (fun w' h => zH (i := 0) h 0 rfl rfl rfl rfl) (ac (fun w' h => eC call39 (G3.out w')) (ar trivial)))))
 intro _ w5 H5
 clear H4
 refine rN (wp_seq (wp_seq ?_))
 refine zC 2 [.q (.int .i64 z0), .q (.bool false)] H5 ?ho6 ?he6
 case ho6 => exact ar (ak (by refine fun J => ⟨rfl, fun w' h => ?_⟩; clear h; go_simp <;> omega) trivial)
 intro _ w6 H6
 clear H5
 refine rN (wp_cond_false rfl ?_)
 refine wp_skip (zA (wp_seq ?_))
 refine zC 1 [.q (V [a, c])] H6 ?ho7 ?he7
 case ho7 => exact bA 0 2 1 Ai26 As26 trivial
 intro _ w7 H7
 clear H6
 refine zG (l := [1]) rfl ?_
 refine sF 2 [a, c] [_, _, _] H7 o1_1 As26 fun w8 H8 => ?_
 clear H7
 refine zE (zA (wp_ret ?_))
 repeat (first | refine zK ?_ | refine zI ?_)
 have hf0 := cel_var (k := 2) H8.out.1 2 rfl Ai26 As26 rfl
 refine bodyPost_ret (v := V [a, c]) (by simp [results, Tryz.results36, asAddr, hf0]) rfl ?_
 exact ⟨rfl, H8.out.2⟩
end Rg
end Go.Proofs.YtacicklddhehaaaGreatDoor
end
