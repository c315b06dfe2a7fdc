/- The document's own Divide, walked. -/
import Derived.Test.YtpcnhknkgiingaaDJ
import Derived.Test.YtpcnhknkgiingaaB2
namespace Go.Proofs.Ytpcnhknkgiingaa
open Go.RowKit

theorem Row.six {w : World} {g : Nat} {f : Nat → Int} (h : Row w g 6 f) (v : Nat) : Row ((((((w.setCell ⟨g, 0, none⟩ (.int .u64 (wd v 0))).setCell ⟨g, 1, none⟩ (.int .u64 (wd v 1))).setCell ⟨g, 2, none⟩ (.int .u64 (wd v 2))).setCell ⟨g, 3, none⟩ (.int .u64 (wd v 3))).setCell ⟨g, 4, none⟩ (.int .u64 (wd v 4))).setCell ⟨g, 5, none⟩ (.int .u64 (wd v 5))) g 6 (wd v) := by
  refine ((((((h.set (k := 0) (wd v 0)).set (k := 1) (wd v 1)).set (k := 2) (wd v 2)).set (k := 3) (wd v 3)).set (k := 4) (wd v 4)).set (k := 5) (wd v 5)).congr (fun j hj => ?_)
  match j, hj with
  | 0, _ => rfl
  | 1, _ => rfl
  | 2, _ => rfl
  | 3, _ => rfl
  | 4, _ => rfl
  | 5, _ => rfl
theorem Row.past6v {w : World} {g g' n : Nat} {f : Nat → Int} (h : Row w g n f) (v : Nat) (hg : g' ≠ g) : Row ((((((w.setCell ⟨g', 0, none⟩ (.int .u64 (wd v 0))).setCell ⟨g', 1, none⟩ (.int .u64 (wd v 1))).setCell ⟨g', 2, none⟩ (.int .u64 (wd v 2))).setCell ⟨g', 3, none⟩ (.int .u64 (wd v 3))).setCell ⟨g', 4, none⟩ (.int .u64 (wd v 4))).setCell ⟨g', 5, none⟩ (.int .u64 (wd v 5))) g n f :=
  (((((h.set_other _ hg).set_other _ hg).set_other _ hg).set_other _ hg).set_other _ hg).set_other _ hg
/-- The memory of the document's Divide: a, b, two results, q, r. -/
structure DS (w wr : World) (a b q r : Nat) : Prop where
  sz : w.heap.size + 1 + 1 + 1 + 1 + 1 < wr.heap.size
  ra : Row wr w.heap.size 6 (wd a)
  rb : Row wr (w.heap.size + 1) 6 (wd b)
  z2 : Row wr (w.heap.size + 1 + 1) 6 (fun _ => 0)
  z3 : Row wr (w.heap.size + 1 + 1 + 1) 6 (fun _ => 0)
  rq : Row wr (w.heap.size + 1 + 1 + 1 + 1) 6 (wd q)
  rr : Row wr (w.heap.size + 1 + 1 + 1 + 1 + 1) 6 (wd r)
  bl : Below w.heap.size w wr
theorem DS.below {w wr w1 : World} {a b q r : Nat} (h : DS w wr a b q r) (hb : Below wr.heap.size wr w1) : DS w w1 a b q r :=
  have s := h.sz
  ⟨Nat.lt_of_lt_of_le h.sz hb.size, Row.below hb h.ra (by omega), Row.below hb h.rb (by omega), Row.below hb h.z2 (by omega), Row.below hb h.z3 (by omega), Row.below hb h.rq (by omega), Row.below hb h.rr (by omega), h.bl.trans (hb.mono h.bl.size)⟩
theorem DS.drew {w wr : World} {a b q r : Nat} (h : DS w wr a b q r) : DS w wr.drew a b q r := ⟨h.sz, h.ra.drew, h.rb.drew, h.z2.drew, h.z3.drew, h.rq.drew, h.rr.drew, h.bl.drew⟩
theorem DS.rws {w wr : World} {a b q r : Nat} (h : DS w wr a b q r) : Rws wr [(w.heap.size + 1 + 1 + 1 + 1 + 1, r), (w.heap.size, a)] := by
  intro g v hm
  have s := h.sz
  simp only [List.mem_cons, Prod.mk.injEq, List.not_mem_nil, or_false] at hm
  rcases hm with ⟨rfl, rfl⟩ | ⟨rfl, rfl⟩
  · exact ⟨s, h.rr⟩
  · exact ⟨by omega, h.ra⟩
theorem DS.six {w wr : World} {a b q r : Nat} (h : DS w wr a b q r) (v : Nat) : DS w ((((((wr.setCell ⟨(w.heap.size + 1 + 1 + 1 + 1 + 1), 0, none⟩ (.int .u64 (wd v 0))).setCell ⟨(w.heap.size + 1 + 1 + 1 + 1 + 1), 1, none⟩ (.int .u64 (wd v 1))).setCell ⟨(w.heap.size + 1 + 1 + 1 + 1 + 1), 2, none⟩ (.int .u64 (wd v 2))).setCell ⟨(w.heap.size + 1 + 1 + 1 + 1 + 1), 3, none⟩ (.int .u64 (wd v 3))).setCell ⟨(w.heap.size + 1 + 1 + 1 + 1 + 1), 4, none⟩ (.int .u64 (wd v 4))).setCell ⟨(w.heap.size + 1 + 1 + 1 + 1 + 1), 5, none⟩ (.int .u64 (wd v 5))) a b q v :=
  ⟨by simpa using h.sz, h.ra.past6v v (by omega), h.rb.past6v v (by omega), h.z2.past6v v (by omega), h.z3.past6v v (by omega), h.rq.past6v v (by omega), h.rr.six v, below6 h.bl (by omega) _ _ _ _ _ _⟩
theorem DS.low {w wr : World} {a b q r : Nat} (h : DS w wr a b q r) {x : Int} {v : Nat} (hv : ∀ j, upd (wd r) 0 x j = wd v j) : DS w (wr.setCell ⟨w.heap.size + 1 + 1 + 1 + 1 + 1, 0, none⟩ (.int .u64 x)) a b q v :=
  ⟨by simpa using h.sz, h.ra.set_other _ (by simp <;> omega), h.rb.set_other _ (by simp <;> omega), h.z2.set_other _ (by simp <;> omega), h.z3.set_other _ (by simp <;> omega), h.rq.set_other _ (by simp <;> omega), (h.rr.set _).congr (fun j _ => hv j), h.bl.setCell (by simp <;> omega) _⟩
theorem DS.bit {w wr : World} {a b q r : Nat} (h : DS w wr a b q r) {x : Int} {k v : Nat} (hv : ∀ j, upd (wd q) k x j = wd v j) : DS w (wr.setCell ⟨w.heap.size + 1 + 1 + 1 + 1, k, none⟩ (.int .u64 x)) a b v r :=
  ⟨by simpa using h.sz, h.ra.set_other _ (by simp <;> omega), h.rb.set_other _ (by simp <;> omega), h.z2.set_other _ (by simp <;> omega), h.z3.set_other _ (by simp <;> omega), (h.rq.set _).congr (fun j _ => hv j), h.rr.set_other _ (by simp <;> omega), h.bl.setCell (by simp <;> omega) _⟩
set_option maxHeartbeats 2000000 in
set_option maxRecDepth 100000 in
theorem divide_ref_none (a : Nat) (w : World) :
    Calls Try.prog 18 #[N a, N 0] w fun e w' => e = .returned (.tuple #[N 0, N 0, .int .i64 2]) ∧ Below w.heap.size w w' := by
  have he := fun w => run_eqZ 0 big_pos w
  simp only [decide_true] at he
  go_enter Try.func18, Try.ntmps18
  go_wp2
  go_region
  go_wp2
  refine bodyPost_ret (v := .tuple #[N 0, N 0, .int .i64 2]) ?_ rfl ⟨rfl, ?_⟩
  · simp [results, Try.results18, go_sem, wd_zero]
  · exact ((((((Below.refl _ _).alloc (Nat.le_refl _) _).alloc (by simp) _).alloc (by simp; omega) _).alloc (by simp; omega) _).alloc (by simp; omega) _).alloc (by simp; omega) _ |>.drew
set_option maxHeartbeats 4000000 in
set_option maxRecDepth 100000 in
theorem divide_ref_some (a b : Nat) (ha : a < big) (hb : b < big) (hb0 : b ≠ 0) (w : World) :
    Calls Try.prog 18 #[N a, N b] w fun e w' => e = .returned (.tuple #[N (a / b), N (a % b), .int .i64 0]) ∧ Below w.heap.size w w' := by
  have he := fun w => run_eqZ b hb w
  rw [decide_eq_false hb0] at he
  have CB : Hid _ := fun (i : Nat) (hi : i < 384) w => bit_ref_in a i hi w
  have HA : Hid (a < 2 ^ 384) := by
    obtain ⟨n, hn, e⟩ := big_pow
    show a < 2 ^ 384
    rw [e, show 64 * n = 384 by omega] at ha
    exact ha
  have HB : Hid (b < big ∧ 0 < b) := ⟨hb, by omega⟩
  clear ha hb hb0
  go_enter Try.func18, Try.ntmps18
  go_wp2
  clear he
  go_loopw [9] (fun i wr => ∃ k : Nat, k ≤ 384 ∧ i = .int .i64 ((k : Int) - 1) ∧ DS w wr a b (dvq a b k) (dvr a b k)) (fun i _ => (RowKit.intOf i + 1).toNat)
  case atStart =>
    obtain ⟨e1, e2⟩ := dv_start a b 384 HA.out
    refine ⟨384, by omega, rfl, ?_⟩
    rw [e1, e2]
    refine ⟨by simp, ?_, ?_, ?_, ?_, ?_, ?_, ?_⟩
    · exact ((((((Row.new w _ 24 rfl (six_lt rfl)).alloc (by simp) _).alloc (by first | (simp; done) | (simp; omega)) _).alloc (by first | (simp; done) | (simp; omega)) _).alloc (by first | (simp; done) | (simp; omega)) _).alloc (by first | (simp; done) | (simp; omega)) _)
    · exact (((((Row.new _ _ 24 (by simp) (six_lt rfl)).alloc (by simp) _).alloc (by first | (simp; done) | (simp; omega)) _).alloc (by first | (simp; done) | (simp; omega)) _).alloc (by first | (simp; done) | (simp; omega)) _)
    · exact ((((Row.new _ _ 24 (by simp) (six_lt (f := fun _ => 0) rfl)).alloc (by simp) _).alloc (by first | (simp; done) | (simp; omega)) _).alloc (by first | (simp; done) | (simp; omega)) _)
    · exact (((Row.new _ _ 24 (by simp) (six_lt (f := fun _ => 0) rfl)).alloc (by simp) _).alloc (by first | (simp; done) | (simp; omega)) _)
    · exact (((Row.new _ _ 24 (by simp) (six_lt (f := fun _ => 0) rfl)).congr (fun j _ => (wd_zero j).symm)).alloc (by simp) _)
    · exact (Row.new _ _ 24 (by simp) (six_lt (f := fun _ => 0) rfl)).congr (fun j _ => (wd_zero j).symm)
    · exact ((((((Below.refl _ _).alloc (Nat.le_refl _) _).alloc (by simp) _).alloc (by first | (simp; done) | (simp; omega)) _).alloc (by first | (simp; done) | (simp; omega)) _).alloc (by first | (simp; done) | (simp; omega)) _).alloc (by first | (simp; done) | (simp; omega)) _
  case round =>
    obtain ⟨k, hk, rfl, hD⟩ := hrel
    by_cases h0 : 1 ≤ k
    · obtain ⟨i, rfl⟩ : ∃ i, k = i + 1 := ⟨k - 1, by omega⟩
      rw [show (((i + 1 : Nat) : Int) - 1) = (i : Int) by omega]
      have st := dv_step a b i HB.out.2
      have hor := dvq_or a b i
      have hrb := dvr_lt a b (i + 1) HB.out.2
      have cb := fun w => CB.out i (by omega) w
      have hev : ∃ e : Nat, e < 2 ∧ bitv a i = (e : Int) ∧ a / 2 ^ i % 2 = e := ⟨a / 2 ^ i % 2, Nat.mod_lt _ (by decide), rfl, rfl⟩
      obtain ⟨e, he2, heb, hea⟩ := hev
      rw [hea] at st
      rw [heb] at cb
      have CBi : Hid _ := cb
      have ec : IntKind.u64.wrap (e : Int) = (e : Int) := by rw [IntKind.wrap_u64]; omega
      generalize dvq a b (i + 1) = q at hD st hor
      generalize dvr a b (i + 1) = r at hD st hrb
      have hrg : r < big := Nat.lt_trans hrb HB.out.1
      have ca := fun w => add_ref r r hrg hrg w
      have ht := top_one r hrg
      have hlb := fun j => low_bit r e he2 j
      obtain ⟨H, hH⟩ : ∃ H : Nat, big = 2 * H := by
        obtain ⟨n, hn, eb⟩ := big_pow
        exact ⟨2 ^ (64 * n - 1), by rw [eb, show 64 * n = 64 * n - 1 + 1 by omega, Nat.pow_succ, Nat.mul_comm]; rfl⟩
      have hbb := HB.out.1
      generalize hRR : (r + r) % big = R at ca hlb
      have CA : Hid _ := ca
      have HST : Hid (_ ∧ _ ∧ _) := ⟨st, hor, hrb⟩
      have HE : Hid (e < 2 ∧ i < 384) := ⟨he2, by omega⟩
      obtain ⟨a0, a1, a2, a3, a4, a5⟩ := hD.rr.reads
      have HD0 : Hid _ := hD
      have HLB : Hid _ := hlb
      clear cb heb hea st hor hD CB HA h0 hlb ca
      by_cases c : big ≤ 2 * r
      · rw [decide_eq_true c] at ht
        have hR : R = 2 * r - big := by rw [← hRR, ← Nat.two_mul, Nat.mod_eq_sub_mod c, Nat.mod_eq_of_lt (by omega)]
        have hbt : b ≤ 2 * r + e := by omega
        obtain ⟨hN1, hN2⟩ : dvr a b i = 2 * r + e - b ∧ dvq a b i = 2 ^ i ||| q := by
          rcases HST.out.1 with ⟨_, s2, s3⟩ | ⟨s1, _, _⟩
          · exact ⟨s2, by rw [s3, HST.out.2.1]⟩
          · omega
        have cs := fun w => sub_ref (R + e) b (by omega) HB.out.1 w
        rw [show (R + e + big - b) % big = 2 * r + e - b by rw [Nat.mod_eq_of_lt (by omega)]; omega] at cs
        generalize 2 * r + e - b = rn at cs hN1
        have CS : Hid _ := cs
        have HN : Hid (_ ∧ _) := ⟨hN2, hN1⟩
        clear cs hN1 hN2 hR hbt hRR c hrb hrg hH hbb he2
        go_wp2_with fail
        refine (CA.out _).mono ?_
        rintro e1 w1 ⟨rfl, hb1⟩
        have hD1 := HD0.out.below hb1
        clear HD0 hb1 ht a0 a1 a2 a3 a4 a5
        obtain ⟨a0, a1, a2, a3, a4, a5⟩ := hD1.rr.reads
        obtain ⟨f0, f1, f2, f3, f4, f5⟩ := hD1.rr.writes
        have HD1 : Hid _ := hD1
        clear hD1
        go_wp2_with fail
        have hD2 := HD1.out.six R
        clear HD1 a0 a1 a2 a3 a4 a5 f0 f1 f2 f3 f4 f5
        generalize ((((((w1.setCell ⟨w.heap.size + 1 + 1 + 1 + 1 + 1, 0, none⟩ (.int .u64 (wd R 0))).setCell ⟨w.heap.size + 1 + 1 + 1 + 1 + 1, 1, none⟩ (.int .u64 (wd R 1))).setCell ⟨w.heap.size + 1 + 1 + 1 + 1 + 1, 2, none⟩ (.int .u64 (wd R 2))).setCell ⟨w.heap.size + 1 + 1 + 1 + 1 + 1, 3, none⟩ (.int .u64 (wd R 3))).setCell ⟨w.heap.size + 1 + 1 + 1 + 1 + 1, 4, none⟩ (.int .u64 (wd R 4))).setCell ⟨w.heap.size + 1 + 1 + 1 + 1 + 1, 5, none⟩ (.int .u64 (wd R 5))) = w2 at hD2 ⊢
        have HR2 : Hid _ := hD2.rws
        have HD2 : Hid _ := hD2
        clear hD2
        refine region_last (p := 8) (by kernel_rfl) [.quiet (.pointer (some ⟨w.heap.size + 1 + 1 + 1 + 1 + 1, 0, none⟩)), .quiet (.int .u64 (wd R 0)), .quiet (N a), .quiet (.int .i64 i), .call (.int .i64 (e : Int)), .quiet (.int .u64 (e : Int)), .quiet (.int .u64 (bits .or .u64 (wd R 0) (e : Int))), .quiet (.pointer (some ⟨w.heap.size + 1 + 1 + 1 + 1 + 1, 0, none⟩)), .gone] (fun w' => Rws w' [(w.heap.size + 1 + 1 + 1 + 1 + 1, R), (w.heap.size, a)]) ?F1 _ (fun γ => ?hF) (by kernel_rfl) ?hL ?hS rfl rfl rfl rfl (by kernel_rfl) ?ho ?hl
        case hF =>
          simp only [fill, Kind.val, Act.put, List.setIfInBounds_toArray, List.set_cons_zero, List.set_cons_succ]
          exact rfl
        case hL => exact trivial
        case hS => exact fun w' hb => Rws.below HR2.out hb
        case ho =>
          refine AllOk.cons ?_ ?_
          · (refine fun γ => ⟨rfl, fun w' h => ?_⟩; clear h; go_simp)
          refine AllOk.cons ?_ ?_
          · (refine fun γ => ⟨rfl, fun w' h => ?_⟩; obtain ⟨h0, c0, c1, c2, c3, c4, c5⟩ := Rws.at h (g := (w.heap.size + 1 + 1 + 1 + 1 + 1)) (v := R) (by simp); clear h; go_simp)
          refine AllOk.cons ?_ ?_
          · exact fun γ => ⟨rfl, fun w' h => exec_load6 h (by simp) rfl rfl⟩
          refine AllOk.cons ?_ ?_
          · exact fun γ => ⟨rfl, fun w' _ => rfl⟩
          refine AllOk.cons ?_ ?_
          · exact fun γ => ⟨rfl, fun w' h => ⟨22, #[N a, .int .i64 i], exec_call rfl call22 rfl (by simp only [List.map_toArray, List.map_cons, List.map_nil]; rfl), CBi.out w'⟩⟩
          refine AllOk.cons ?_ ?_
          · (refine fun γ => ⟨rfl, fun w' h => ?_⟩; clear h; go_simp)
          refine AllOk.cons ?_ ?_
          · (refine fun γ => ⟨rfl, fun w' h => ?_⟩; clear h; go_simp)
          refine AllOk.cons ?_ ?_
          · (refine fun γ => ⟨rfl, fun w' h => ?_⟩; clear h; go_simp)
          exact trivial
        case hl =>
          intro γ w3 l hM hl K hK
          have hD3 := HD2.out.below hM.below
          have b0 := (hD3.rr 0 (by omega)).1
          have f0 := (hD3.rr 0 (by omega)).2
          have HD3 : Hid _ := hD3
          clear hD3 hM hl l HD2 HR2
          rw [if_pos (by rfl)]
          go_simp
          refine hK.out _ _ ?_
          clear hK b0 f0
          have hD4 := HD3.out.low HLB.out
          clear HD3
          generalize w3.setCell ⟨w.heap.size + 1 + 1 + 1 + 1 + 1, 0, none⟩ (.int .u64 (bits .or .u64 (wd R 0) (e : Int))) = w4 at hD4 ⊢
          clear γ
          obtain ⟨a0, a1, a2, a3, a4, a5⟩ := hD4.rr.reads
          obtain ⟨b0, b1, b2, b3, b4, b5⟩ := hD4.rb.reads
          have HD4 : Hid _ := hD4
          clear hD4
          go_wp2_with fail
          refine (CS.out _).mono ?_
          rintro e3 w5 ⟨rfl, hb5⟩
          have hD5 := HD4.out.below hb5
          clear HD4 hb5 a0 a1 a2 a3 a4 a5 b0 b1 b2 b3 b4 b5
          obtain ⟨a0, a1, a2, a3, a4, a5⟩ := hD5.rr.reads
          obtain ⟨f0, f1, f2, f3, f4, f5⟩ := hD5.rr.writes
          have HD5 : Hid _ := hD5
          clear hD5
          go_wp2_with fail
          have hD6 := HD5.out.six rn
          clear HD5 a0 a1 a2 a3 a4 a5 f0 f1 f2 f3 f4 f5
          generalize ((((((w5.setCell ⟨w.heap.size + 1 + 1 + 1 + 1 + 1, 0, none⟩ (.int .u64 (wd rn 0))).setCell ⟨w.heap.size + 1 + 1 + 1 + 1 + 1, 1, none⟩ (.int .u64 (wd rn 1))).setCell ⟨w.heap.size + 1 + 1 + 1 + 1 + 1, 2, none⟩ (.int .u64 (wd rn 2))).setCell ⟨w.heap.size + 1 + 1 + 1 + 1 + 1, 3, none⟩ (.int .u64 (wd rn 3))).setCell ⟨w.heap.size + 1 + 1 + 1 + 1 + 1, 4, none⟩ (.int .u64 (wd rn 4))).setCell ⟨w.heap.size + 1 + 1 + 1 + 1 + 1, 5, none⟩ (.int .u64 (wd rn 5))) = w6 at hD6 ⊢
          obtain ⟨q1, q2⟩ := hD6.rq (i / 64) (by have := HE.out.2; omega)
          have HD6 : Hid _ := hD6
          clear hD6
          have hi := HE.out.2
          go_region
          go_wp2
          go_roundw
          case rel =>
            refine ⟨i, by omega, by go_num, ?_⟩
            rw [HN.out.1, HN.out.2]
            exact (HD6.out.bit (fun j => set_or q i j)).drew
          case measure => simp [RowKit.intOf] <;> omega
      · rw [decide_eq_false c] at ht
        by_cases hbt : b ≤ 2 * r + e
        · have hR : R = 2 * r := by rw [← hRR, ← Nat.two_mul, Nat.mod_eq_of_lt (by omega)]
          obtain ⟨hN1, hN2⟩ : dvr a b i = 2 * r + e - b ∧ dvq a b i = 2 ^ i ||| q := by
            rcases HST.out.1 with ⟨_, s2, s3⟩ | ⟨s1, _, _⟩
            · exact ⟨s2, by rw [s3, HST.out.2.1]⟩
            · omega
          have cs := fun w => sub_ref (R + e) b (by omega) HB.out.1 w
          rw [show (R + e + big - b) % big = 2 * r + e - b by rw [Nat.mod_eq_sub_mod (by omega), Nat.mod_eq_of_lt (by omega)]; omega] at cs
          generalize 2 * r + e - b = rn at cs hN1
          have cc := fun w => compare_ref (R + e) b (by omega) HB.out.1 w
          have hcv : decide ((0 : Int) ≤ cmpv (R + e) b) = true := decide_eq_true (by unfold cmpv; split; omega; rw [if_neg (by omega)]; omega)
          generalize cmpv (R + e) b = cv at cc hcv
          have CS : Hid _ := cs
          have CC : Hid _ := cc
          have HN : Hid (_ ∧ _) := ⟨hN2, hN1⟩
          clear cs cc hN1 hN2 hR hbt hRR c hrb hrg hH hbb he2
          go_wp2_with fail
          refine (CA.out _).mono ?_
          rintro e1 w1 ⟨rfl, hb1⟩
          have hD1 := HD0.out.below hb1
          clear HD0 hb1 ht a0 a1 a2 a3 a4 a5
          obtain ⟨a0, a1, a2, a3, a4, a5⟩ := hD1.rr.reads
          obtain ⟨f0, f1, f2, f3, f4, f5⟩ := hD1.rr.writes
          have HD1 : Hid _ := hD1
          clear hD1
          go_wp2_with fail
          have hD2 := HD1.out.six R
          clear HD1 a0 a1 a2 a3 a4 a5 f0 f1 f2 f3 f4 f5
          generalize ((((((w1.setCell ⟨w.heap.size + 1 + 1 + 1 + 1 + 1, 0, none⟩ (.int .u64 (wd R 0))).setCell ⟨w.heap.size + 1 + 1 + 1 + 1 + 1, 1, none⟩ (.int .u64 (wd R 1))).setCell ⟨w.heap.size + 1 + 1 + 1 + 1 + 1, 2, none⟩ (.int .u64 (wd R 2))).setCell ⟨w.heap.size + 1 + 1 + 1 + 1 + 1, 3, none⟩ (.int .u64 (wd R 3))).setCell ⟨w.heap.size + 1 + 1 + 1 + 1 + 1, 4, none⟩ (.int .u64 (wd R 4))).setCell ⟨w.heap.size + 1 + 1 + 1 + 1 + 1, 5, none⟩ (.int .u64 (wd R 5))) = w2 at hD2 ⊢
          have HR2 : Hid _ := hD2.rws
          have HD2 : Hid _ := hD2
          clear hD2
          refine region_last (p := 8) (by kernel_rfl) [.quiet (.pointer (some ⟨w.heap.size + 1 + 1 + 1 + 1 + 1, 0, none⟩)), .quiet (.int .u64 (wd R 0)), .quiet (N a), .quiet (.int .i64 i), .call (.int .i64 (e : Int)), .quiet (.int .u64 (e : Int)), .quiet (.int .u64 (bits .or .u64 (wd R 0) (e : Int))), .quiet (.pointer (some ⟨w.heap.size + 1 + 1 + 1 + 1 + 1, 0, none⟩)), .gone] (fun w' => Rws w' [(w.heap.size + 1 + 1 + 1 + 1 + 1, R), (w.heap.size, a)]) ?F2 _ (fun γ => ?hF) (by kernel_rfl) ?hL ?hS rfl rfl rfl rfl (by kernel_rfl) ?ho ?hl
          case hF =>
            simp only [fill, Kind.val, Act.put, List.setIfInBounds_toArray, List.set_cons_zero, List.set_cons_succ]
            exact rfl
          case hL => exact trivial
          case hS => exact fun w' hb => Rws.below HR2.out hb
          case ho =>
            refine AllOk.cons ?_ ?_
            · (refine fun γ => ⟨rfl, fun w' h => ?_⟩; clear h; go_simp)
            refine AllOk.cons ?_ ?_
            · (refine fun γ => ⟨rfl, fun w' h => ?_⟩; obtain ⟨h0, c0, c1, c2, c3, c4, c5⟩ := Rws.at h (g := (w.heap.size + 1 + 1 + 1 + 1 + 1)) (v := R) (by simp); clear h; go_simp)
            refine AllOk.cons ?_ ?_
            · exact fun γ => ⟨rfl, fun w' h => exec_load6 h (by simp) rfl rfl⟩
            refine AllOk.cons ?_ ?_
            · exact fun γ => ⟨rfl, fun w' _ => rfl⟩
            refine AllOk.cons ?_ ?_
            · exact fun γ => ⟨rfl, fun w' h => ⟨22, #[N a, .int .i64 i], exec_call rfl call22 rfl (by simp only [List.map_toArray, List.map_cons, List.map_nil]; rfl), CBi.out w'⟩⟩
            refine AllOk.cons ?_ ?_
            · (refine fun γ => ⟨rfl, fun w' h => ?_⟩; clear h; go_simp)
            refine AllOk.cons ?_ ?_
            · (refine fun γ => ⟨rfl, fun w' h => ?_⟩; clear h; go_simp)
            refine AllOk.cons ?_ ?_
            · (refine fun γ => ⟨rfl, fun w' h => ?_⟩; clear h; go_simp)
            exact trivial
          case hl =>
            intro γ w3 l hM hl K hK
            have hD3 := HD2.out.below hM.below
            have b0 := (hD3.rr 0 (by omega)).1
            have f0 := (hD3.rr 0 (by omega)).2
            have HD3 : Hid _ := hD3
            clear hD3 hM hl l HD2 HR2
            rw [if_pos (by rfl)]
            go_simp
            refine hK.out _ _ ?_
            clear hK b0 f0
            have hD4 := HD3.out.low HLB.out
            clear HD3
            generalize w3.setCell ⟨w.heap.size + 1 + 1 + 1 + 1 + 1, 0, none⟩ (.int .u64 (bits .or .u64 (wd R 0) (e : Int))) = w4 at hD4 ⊢
            clear γ
            obtain ⟨a0, a1, a2, a3, a4, a5⟩ := hD4.rr.reads
            obtain ⟨b0, b1, b2, b3, b4, b5⟩ := hD4.rb.reads
            have HD4 : Hid _ := hD4
            clear hD4
            go_wp2_with fail
            refine (CC.out _).mono ?_
            rintro e4 w4' ⟨rfl, hb4⟩
            have hD4' := HD4.out.below hb4
            clear HD4 hb4 a0 a1 a2 a3 a4 a5 b0 b1 b2 b3 b4 b5
            obtain ⟨a0, a1, a2, a3, a4, a5⟩ := hD4'.rr.reads
            obtain ⟨b0, b1, b2, b3, b4, b5⟩ := hD4'.rb.reads
            have HD4 : Hid _ := hD4'
            clear hD4'
            go_wp2_with fail
            refine (CS.out _).mono ?_
            rintro e3 w5 ⟨rfl, hb5⟩
            have hD5 := HD4.out.below hb5
            clear HD4 hb5 a0 a1 a2 a3 a4 a5 b0 b1 b2 b3 b4 b5
            obtain ⟨a0, a1, a2, a3, a4, a5⟩ := hD5.rr.reads
            obtain ⟨f0, f1, f2, f3, f4, f5⟩ := hD5.rr.writes
            have HD5 : Hid _ := hD5
            clear hD5
            go_wp2_with fail
            have hD6 := HD5.out.six rn
            clear HD5 a0 a1 a2 a3 a4 a5 f0 f1 f2 f3 f4 f5
            generalize ((((((w5.setCell ⟨w.heap.size + 1 + 1 + 1 + 1 + 1, 0, none⟩ (.int .u64 (wd rn 0))).setCell ⟨w.heap.size + 1 + 1 + 1 + 1 + 1, 1, none⟩ (.int .u64 (wd rn 1))).setCell ⟨w.heap.size + 1 + 1 + 1 + 1 + 1, 2, none⟩ (.int .u64 (wd rn 2))).setCell ⟨w.heap.size + 1 + 1 + 1 + 1 + 1, 3, none⟩ (.int .u64 (wd rn 3))).setCell ⟨w.heap.size + 1 + 1 + 1 + 1 + 1, 4, none⟩ (.int .u64 (wd rn 4))).setCell ⟨w.heap.size + 1 + 1 + 1 + 1 + 1, 5, none⟩ (.int .u64 (wd rn 5))) = w6 at hD6 ⊢
            obtain ⟨q1, q2⟩ := hD6.rq (i / 64) (by have := HE.out.2; omega)
            have HD6 : Hid _ := hD6
            clear hD6
            have hi := HE.out.2
            go_region
            go_wp2
            go_roundw
            case rel =>
              refine ⟨i, by omega, by go_num, ?_⟩
              rw [HN.out.1, HN.out.2]
              exact (HD6.out.bit (fun j => set_or q i j)).drew
            case measure => simp [RowKit.intOf] <;> omega
        · have hR : R = 2 * r := by rw [← hRR, ← Nat.two_mul, Nat.mod_eq_of_lt (by omega)]
          obtain ⟨hN1, hN2⟩ : dvr a b i = 2 * r + e ∧ dvq a b i = q := by
            rcases HST.out.1 with ⟨s1, _, _⟩ | ⟨_, s2, s3⟩
            · omega
            · exact ⟨s2, s3⟩
          rw [← hR] at hN1
          have cc := fun w => compare_ref (R + e) b (by omega) HB.out.1 w
          have hcv : decide ((0 : Int) ≤ cmpv (R + e) b) = false := decide_eq_false (by unfold cmpv; rw [if_neg (by omega), if_pos (by omega)]; omega)
          generalize cmpv (R + e) b = cv at cc hcv
          have CC : Hid _ := cc
          have HN : Hid (_ ∧ _) := ⟨hN2, hN1⟩
          clear cc hN1 hN2 hR hbt hRR c hrb hrg hH hbb he2
          go_wp2_with fail
          refine (CA.out _).mono ?_
          rintro e1 w1 ⟨rfl, hb1⟩
          have hD1 := HD0.out.below hb1
          clear HD0 hb1 ht a0 a1 a2 a3 a4 a5
          obtain ⟨a0, a1, a2, a3, a4, a5⟩ := hD1.rr.reads
          obtain ⟨f0, f1, f2, f3, f4, f5⟩ := hD1.rr.writes
          have HD1 : Hid _ := hD1
          clear hD1
          go_wp2_with fail
          have hD2 := HD1.out.six R
          clear HD1 a0 a1 a2 a3 a4 a5 f0 f1 f2 f3 f4 f5
          generalize ((((((w1.setCell ⟨w.heap.size + 1 + 1 + 1 + 1 + 1, 0, none⟩ (.int .u64 (wd R 0))).setCell ⟨w.heap.size + 1 + 1 + 1 + 1 + 1, 1, none⟩ (.int .u64 (wd R 1))).setCell ⟨w.heap.size + 1 + 1 + 1 + 1 + 1, 2, none⟩ (.int .u64 (wd R 2))).setCell ⟨w.heap.size + 1 + 1 + 1 + 1 + 1, 3, none⟩ (.int .u64 (wd R 3))).setCell ⟨w.heap.size + 1 + 1 + 1 + 1 + 1, 4, none⟩ (.int .u64 (wd R 4))).setCell ⟨w.heap.size + 1 + 1 + 1 + 1 + 1, 5, none⟩ (.int .u64 (wd R 5))) = w2 at hD2 ⊢
          have HR2 : Hid _ := hD2.rws
          have HD2 : Hid _ := hD2
          clear hD2
          refine region_last (p := 8) (by kernel_rfl) [.quiet (.pointer (some ⟨w.heap.size + 1 + 1 + 1 + 1 + 1, 0, none⟩)), .quiet (.int .u64 (wd R 0)), .quiet (N a), .quiet (.int .i64 i), .call (.int .i64 (e : Int)), .quiet (.int .u64 (e : Int)), .quiet (.int .u64 (bits .or .u64 (wd R 0) (e : Int))), .quiet (.pointer (some ⟨w.heap.size + 1 + 1 + 1 + 1 + 1, 0, none⟩)), .gone] (fun w' => Rws w' [(w.heap.size + 1 + 1 + 1 + 1 + 1, R), (w.heap.size, a)]) ?F3 _ (fun γ => ?hF) (by kernel_rfl) ?hL ?hS rfl rfl rfl rfl (by kernel_rfl) ?ho ?hl
          case hF =>
            simp only [fill, Kind.val, Act.put, List.setIfInBounds_toArray, List.set_cons_zero, List.set_cons_succ]
            exact rfl
          case hL => exact trivial
          case hS => exact fun w' hb => Rws.below HR2.out hb
          case ho =>
            refine AllOk.cons ?_ ?_
            · (refine fun γ => ⟨rfl, fun w' h => ?_⟩; clear h; go_simp)
            refine AllOk.cons ?_ ?_
            · (refine fun γ => ⟨rfl, fun w' h => ?_⟩; obtain ⟨h0, c0, c1, c2, c3, c4, c5⟩ := Rws.at h (g := (w.heap.size + 1 + 1 + 1 + 1 + 1)) (v := R) (by simp); clear h; go_simp)
            refine AllOk.cons ?_ ?_
            · exact fun γ => ⟨rfl, fun w' h => exec_load6 h (by simp) rfl rfl⟩
            refine AllOk.cons ?_ ?_
            · exact fun γ => ⟨rfl, fun w' _ => rfl⟩
            refine AllOk.cons ?_ ?_
            · exact fun γ => ⟨rfl, fun w' h => ⟨22, #[N a, .int .i64 i], exec_call rfl call22 rfl (by simp only [List.map_toArray, List.map_cons, List.map_nil]; rfl), CBi.out w'⟩⟩
            refine AllOk.cons ?_ ?_
            · (refine fun γ => ⟨rfl, fun w' h => ?_⟩; clear h; go_simp)
            refine AllOk.cons ?_ ?_
            · (refine fun γ => ⟨rfl, fun w' h => ?_⟩; clear h; go_simp)
            refine AllOk.cons ?_ ?_
            · (refine fun γ => ⟨rfl, fun w' h => ?_⟩; clear h; go_simp)
            exact trivial
          case hl =>
            intro γ w3 l hM hl K hK
            have hD3 := HD2.out.below hM.below
            have b0 := (hD3.rr 0 (by omega)).1
            have f0 := (hD3.rr 0 (by omega)).2
            have HD3 : Hid _ := hD3
            clear hD3 hM hl l HD2 HR2
            rw [if_pos (by rfl)]
            go_simp
            refine hK.out _ _ ?_
            clear hK b0 f0
            have hD4 := HD3.out.low HLB.out
            clear HD3
            generalize w3.setCell ⟨w.heap.size + 1 + 1 + 1 + 1 + 1, 0, none⟩ (.int .u64 (bits .or .u64 (wd R 0) (e : Int))) = w4 at hD4 ⊢
            clear γ
            obtain ⟨a0, a1, a2, a3, a4, a5⟩ := hD4.rr.reads
            obtain ⟨b0, b1, b2, b3, b4, b5⟩ := hD4.rb.reads
            have HD4 : Hid _ := hD4
            clear hD4
            go_wp2_with fail
            refine (CC.out _).mono ?_
            rintro e4 w4' ⟨rfl, hb4⟩
            have hD4' := HD4.out.below hb4
            clear HD4 hb4 a0 a1 a2 a3 a4 a5 b0 b1 b2 b3 b4 b5
            have HD4 : Hid _ := hD4'
            clear hD4'
            have hi := HE.out.2
            go_wp2
            go_roundw
            case rel =>
              refine ⟨i, by omega, by go_num, ?_⟩
              rw [HN.out.1, HN.out.2]
              exact HD4.out
            case measure => simp [RowKit.intOf] <;> omega
    · have hk0 : k = 0 := by omega
      subst hk0
      rw [show (((0 : Nat) : Int) - 1) = -1 from rfl]
      obtain ⟨e1, e2⟩ := dv_end a b
      rw [e1, e2] at hD
      obtain ⟨q0, q1, q2, q3, q4, q5⟩ := hD.rq.reads
      obtain ⟨r0, r1, r2, r3, r4, r5⟩ := hD.rr.reads
      obtain ⟨z0, z1, z2, z3, z4, z5⟩ := hD.z2.writes
      obtain ⟨y0, y1, y2, y3, y4, y5⟩ := hD.z2.reads
      obtain ⟨x0, x1, x2, x3, x4, x5⟩ := hD.z3.writes
      obtain ⟨v0, v1, v2, v3, v4, v5⟩ := hD.z3.reads
      have HW : Hid _ := hD.bl
      have HS : Hid _ := hD.sz
      clear hD e1 e2 hk h0 CB HA HB
      go_wp2
      go_region
      go_wp2
      refine bodyPost_ret (v := .tuple #[N (a / b), N (a % b), .int .i64 0]) ?_ rfl ⟨rfl, ?_⟩
      · simp [results, Try.results18, go_sem, *]
      · exact (below6 (below6 HW.out (by omega) _ _ _ _ _ _) (by omega) _ _ _ _ _ _).drew
theorem divide_ref (a b : Nat) (ha : a < big) (hb : b < big) (w : World) :
    Calls Try.prog 18 #[N a, N b] w fun e w' => e = .returned (.tuple #[N (if b = 0 then 0 else a / b), N (if b = 0 then 0 else a % b), .int .i64 (if b = 0 then 2 else 0)]) ∧ Below w.heap.size w w' := by
  by_cases h : b = 0
  · rw [if_pos h, if_pos h, if_pos h, h]; exact divide_ref_none a w
  · rw [if_neg h, if_neg h, if_neg h]; exact divide_ref_some a b ha hb h w
end Go.Proofs.Ytpcnhknkgiingaa
