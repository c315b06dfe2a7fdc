/- Texts of the proof, joined. -/
import Derived.Test.YtkkloakcphigeaaDoorP6
import Derived.ProofKit
import Derived.OpenShut
import Derived.Test.YtkkloakcphigeaaDoorRows
import Derived.LaidMore
import Derived.Stop.Joined
import Derived.Test.YtkkloakcphigeaaDoorTie
section
namespace Go.Proofs.YtkkloakcphigeaaDoor
open Go.RowKit
namespace Rg
namespace Sh
set_option maxRecDepth 100000
theorem row_store {W : World} {L : List (Nat × List Value)} {g : Nat} {ns : List Nat} (h : Mm W L) (k : Nat) (hk : L[k]? = some (g, cel ns)) {i : Nat} (hi : i < ns.length) {ρ : Operand → Value} {o : Oper} {x y : Operand} {v : Nat} (ho : o.op = .store 33 x y) (hx : ρ x = PT g (i * 6)) (hy : ρ y = N v) : (execOp ρ o).run Tryd.prog W = .ok .skip (W.setCells g (i * 6) (cells6 v)) :=
  ex_store6 h k hk ho hx hy (by rw [cel_len]; omega)
set_option maxHeartbeats 8000000 in
theorem degree_any {g r : Nat} (ok : Ok r) {p : Option Addr} {k c ig io : Nat} {X : Nat → Nat} {cs sg so : Nat} {Y : Nat → Nat} (hk0 : 0 < k) (hk : k ≤ 64) (hX : ∀ i, i < k → X i ≤ 1000) (hY : ∀ i, i < k → Y i < r) (hg : ∀ i j, i < k → j < k → i ≠ j → Nat.gcd r (subm r (X i) (X j)) = 1) (w : World) (hm : Mm w [(g, modc r), (2, dtab)]) (hi : Is w p k ig io X) (hs : Ns w (some ⟨sg, so, none⟩) k sg so Y) :
    Calls Tryd.prog 27 #[.agg #[PT g 0], .slice p k c, .slice (some ⟨sg, so, none⟩) k cs] w fun e w' => e = .returned (.int .i64 (dgN r X Y (k - 1) : Int)) ∧ Below w.heap.size w w' := by
  obtain ⟨rfl, hig⟩ := hi.p hk0
  have HI : Hid _ := hi
  have HS0 : Hid _ := hs
  clear hi hs
  have hM0 : Mm w [(g, modc r), (2, dtab)] := hm
  have hB0 : Below w.heap.size w w := Below.refl _ _
  obtain ⟨w1, e1⟩ : ∃ w1, (w.alloc (.cells #[PT g 0] 53)) = w1 := ⟨_, rfl⟩
  have hM1 : Mm w1 [(w.heap.size, [PT g 0]), (g, modc r), (2, dtab)] := mm_new hM0 [PT g 0] 53 e1 rfl
  have hB1 : Below w.heap.size w w1 := bl_new hB0 hB0.size e1
  have HM : Hid (Mm w1 [(w.heap.size, [PT g 0]), (g, modc r), (2, dtab)]) := hM1
  have HB : Hid (Below w.heap.size w w1) := hB1
  clear hM0 hB0 hM1 hB1 hm
  have h01 : w.heap.size < w1.heap.size := by rw [sz_new e1]; omega
  go_enter Tryd.func27, Tryd.ntmps27
  go_wp2_with (first
    | (go_at_call 46
       refine Calls.mono (clone_ok (cs := cs) hk0 (by omega) w1 (HS0.out.below HB.out)) ?_
       rintro e w2 ⟨v, c', rfl, h2, h2v, h2m⟩
       have hm2 := (HM.out.below h2).cons ((h2m.blk _ (List.mem_singleton.2 rfl)).2) (h2m.lt (List.mem_singleton.2 rfl)) fun q hq => by have := (HM.out.blk q hq).1; omega
       have HM2 : Hid (Mm w2 [(v, cel (Lz (dN r X Y 0) k k)), (w.heap.size, [PT g 0]), (g, modc r), (2, dtab)]) := hm2
       have HB2 : Hid _ := HB.out.trans (h2.mono HB.out.size)
       have HV : Hid (w.heap.size ≤ v) := Nat.le_trans HB.out.size h2v
       clear h2 h2v h2m hm2)
    | fail)
  go_loopw [7, 9] (fun v7 v9 wr => ∃ t sp : Nat, sp = t + 1 ∧ sp ≤ k ∧ v9 = .int .i64 (sp : Int) ∧ v7 = .int .i64 (dgN r X Y t : Int) ∧ Hid (Mm wr [(v, cel (Lz (dN r X Y t) k k)), (w.heap.size, [PT g 0]), (g, modc r), (2, dtab)] ∧ Below w.heap.size w wr))
    (fun _ v9 _ => k - (RowKit.intOf v9).toNat)
  case atStart => exact ⟨0, 1, rfl, by omega, rfl, rfl, HM2.out, HB2.out⟩
  case round =>
    obtain ⟨t, sp, hsp, hspk, rfl, rfl, hC⟩ := hrel
    obtain ⟨W1, rfl⟩ : ∃ W, W = wr := ⟨wr, rfl⟩
    obtain ⟨dg, hdg⟩ : ∃ dg, dgN r X Y t = dg := ⟨_, rfl⟩
    have HDG : Hid _ := hdg
    have HSP : Hid (sp = t + 1) := hsp
    rw [hdg]
    have HM1 : Hid (Mm W1 [(v, cel (Lz (dN r X Y t) k k)), (w.heap.size, [PT g 0]), (g, modc r), (2, dtab)]) := hC.out.1
    have HB1 : Hid (Below w.heap.size w W1) := hC.out.2
    clear hC hdg
    by_cases hlt : sp < k
    · obtain ⟨k1, hk1⟩ : ∃ k1, k = k1 + 1 := ⟨k - 1, by omega⟩
      have hkk : (k : Int) - 1 = (k1 : Int) := by omega
      have HK1 : Hid (k = k1 + 1) := hk1
      clear hk1 hsp
      go_wp2
      go_loopw [10] (fun v10 wr => ∃ i : Nat, t ≤ i ∧ i < k ∧ v10 = .int .i64 (i : Int) ∧ Hid (Mm wr [(v, cel (Lz (aN r X Y t i) k k)), (w.heap.size, [PT g 0]), (g, modc r), (2, dtab)] ∧ Below w.heap.size w wr))
        (fun v10 _ => (RowKit.intOf v10).toNat)
      case atStart => exact ⟨k1, by have := HK1.out; have := HSP.out; omega, by have := HK1.out; omega, rfl, by rw [Lz_cg (F := aN r X Y t k1) (G := dN r X Y t) fun j hj => if_neg (by have := HK1.out; omega)]; exact HM1.out, HB1.out⟩
      case round =>
        obtain ⟨i, hti, hik, rfl, hC⟩ := hrel
        obtain ⟨W, rfl⟩ : ∃ W, W = wr := ⟨wr, rfl⟩
        have HMR : Hid (Mm W [(v, cel (Lz (aN r X Y t i) k k)), (w.heap.size, [PT g 0]), (g, modc r), (2, dtab)]) := hC.out.1
        have HBR : Hid (Below w.heap.size w W) := hC.out.2
        clear hC
        have hsp := HSP.out
        by_cases hlt2 : sp ≤ i
        · obtain ⟨i1, hi1⟩ : ∃ i1, i = i1 + 1 := ⟨i - 1, by omega⟩
          obtain ⟨e, he⟩ : ∃ e, i - sp = e := ⟨_, rfl⟩
          obtain ⟨a, ha⟩ : ∃ a, aN r X Y t i i = a := ⟨_, rfl⟩
          obtain ⟨a1, ha1⟩ : ∃ a1, aN r X Y t i i1 = a1 := ⟨_, rfl⟩
          have ha2 : dN r X Y t i = a := by rw [← ha]; exact (if_neg (by omega)).symm
          have ha3 : dN r X Y t i1 = a1 := by rw [← ha1]; exact (if_neg (by omega)).symm
          have hab : a < big := by rw [← ha2]; exact lt_big ok (dN_lt ok hY t i hik)
          have hab1 : a1 < big := by rw [← ha3]; exact lt_big ok (dN_lt ok hY t i1 (by omega))
          have hik1 : i1 < k := by omega
          have hek : e < k := by omega
          obtain ⟨x, hx⟩ : ∃ x, X e = x := ⟨_, rfl⟩
          obtain ⟨y, hy⟩ : ∃ y, X i = y := ⟨_, rfl⟩
          have hxl : x ≤ 1000 := by rw [← hx]; exact hX e hek
          have hyl : y ≤ 1000 := by rw [← hy]; exact hX i hik
          have hgc : Nat.gcd r (subm r y x) = 1 := by rw [← hx, ← hy]; exact hg i e hik hek (by omega)
          have hnew : aN r X Y t i1 i = subm r a a1 * invm r (subm r y x) % r := by
            show (if i1 < i then (if i < t + 1 then _ else _) else _) = _
            rw [if_pos (by omega), if_neg (by omega), ha2, show i - 1 = i1 by omega, ha3, hy, show i - (t + 1) = e by omega, hx]
          have HNEW : Hid _ := hnew
          have HCX : Hid (∀ u, Below w.heap.size w u → u.cell? ⟨ig, io + e, none⟩ = some (.int .i64 (x : Int)) ∧ u.cell? ⟨ig, io + i, none⟩ = some (.int .i64 (y : Int))) := fun u hu => ⟨(hu.cell (p := ⟨ig, io + e, none⟩) hig).trans (by rw [← hx]; exact HI.out.c e hek), (hu.cell (p := ⟨ig, io + i, none⟩) hig).trans (by rw [← hy]; exact HI.out.c i hik)⟩
          have hie : (i : Int) - (sp : Int) = (e : Int) := by omega
          have hwe : IntKind.i64.wrap (e : Int) = (e : Int) := by rw [IntKind.wrap_i64]; omega
          have HI1 : Hid (i = i1 + 1) := hi1
          have HLT : Hid (sp ≤ i) := hlt2
          have d1 : decide ((sp : Int) ≤ (i : Int)) = true := by rw [decide_eq_true_eq]; omega
          have hspi : (sp : Int) ≤ (i : Int) := by omega
          clear ha2 ha3 hx hy hnew hi1 he hlt2 hsp
          go_wp2
          refine deg_r8 ok HI1.out hik hik1 hk ha ha1 hab hab1 HMR.out fun q u1 hb1 hq1 hm1 => ?_
          have HMQ : Hid _ := hm1
          have HBQ : Hid (Below w.heap.size w u1) := HBR.out.trans (hb1.mono HBR.out.size)
          clear hb1 hq1 hm1
          go_wp2
          refine walk_det (by kernel_rfl) 18 [.slice (some ⟨v, 0, none⟩) k c', .int .i64 (i : Int), .agg #[PT g 0], N (subm r a a1), .agg #[PT g 0], .slice (some ⟨ig, io, none⟩) k c, .int .i64 (i : Int), .int .i64 (sp : Int), .int .i64 (e : Int), PT ig (io + e), .int .i64 (x : Int), .slice (some ⟨ig, io, none⟩) k c, .int .i64 (i : Int), PT ig (io + i), .int .i64 (y : Int), N (subm r y x), N (subm r a a1 * invm r (subm r y x) % r), PT v (i * 6)] [none, none, none, none, none, none, none, none, none, none, none, none, none, none, none, some 0, some 1, none] [15, 16]
            (fun _ u => Below u1.heap.size u1 u) ?prez ?Fz ?hprez ?hFz (by kernel_rfl) ?hWz (bdr u1) ?hopz ?hez
          case hprez => simp only [tk, tz]; rfl
          case hFz => simp only [List.map_cons, List.map_nil, fill, Kind.val, Act.put, sa, sz, ss]; rfl
          case hWz => kernel_rfl
          case hopz =>
            refine ⟨fun c _ u hu => ?_, fun c _ u hu => ?_, fun c _ u hu => ?_, fun c _ u hu => ?_, fun c _ u hu => ?_, fun c _ u hu => ?_, fun c _ u hu => ?_, fun c _ u hu => ?_, fun c _ u hu => ?_, fun c _ u hu => ?_, fun c _ u hu => ?_, fun c _ u hu => ?_, fun c _ u hu => ?_, fun c _ u hu => ?_, fun c _ u hu => ?_, fun u hu => .inr ⟨48, #[.agg #[PT g 0], .int .i64 (x : Int), .int .i64 (y : Int)], exec_call rfl (fun _ _ => rfl) rfl (by simp only [List.map_toArray, List.map_cons, List.map_nil]; rfl), ?_⟩, fun u hu => .inr ⟨47, #[.agg #[PT g 0], N (subm r a a1), N (subm r y x)], exec_call rfl (fun _ _ => rfl) rfl (by simp only [List.map_toArray, List.map_cons, List.map_nil]; rfl), ?_⟩, fun c _ u hu => ?_, trivial⟩
            · clear hu; go_simp
            · clear hu; go_simp
            · have c2_0 := (HMQ.out.below hu).get 2 rfl 0 rfl; clear hu; go_simp
            · have c0_0 := (HMQ.out.below hu).get 0 rfl 0 rfl; have c0_1 := (HMQ.out.below hu).get 0 rfl 1 rfl; have c0_2 := (HMQ.out.below hu).get 0 rfl 2 rfl; have c0_3 := (HMQ.out.below hu).get 0 rfl 3 rfl; have c0_4 := (HMQ.out.below hu).get 0 rfl 4 rfl; have c0_5 := (HMQ.out.below hu).get 0 rfl 5 rfl; clear hu; go_simp
            · have c2_0 := (HMQ.out.below hu).get 2 rfl 0 rfl; clear hu; go_simp
            · clear hu; go_simp
            · clear hu; go_simp
            · clear hu; go_simp
            · clear hu; go_simp
            · clear hu; go_simp
            · have cq := (HCX.out u (HBQ.out.trans (hu.mono HBQ.out.size))).1; clear hu; go_simp
            · clear hu; go_simp
            · clear hu; go_simp
            · clear hu; go_simp
            · have cq := (HCX.out u (HBQ.out.trans (hu.mono HBQ.out.size))).2; clear hu; go_simp
            · exact Calls.mono (between_any ok x y (sm_big (by omega)) (sm_big (by omega)) (by omega) (by omega) u ((HMQ.out.below hu).tail.tail.tail.sub (by simp))) fun e u2 ⟨he, h2⟩ => ⟨he, hu.trans (h2.mono hu.size)⟩
            · exact Calls.mono (over_any ok (subm r a a1) (subm r y x) (lt_big ok (subm_lt_n ok.pos _ _)) (lt_big ok (subm_lt_n ok.pos _ _)) hgc u (HMQ.out.below hu).tail.tail.tail) fun e u2 ⟨he, h2⟩ => ⟨he, hu.trans (h2.mono hu.size)⟩
            · clear hu; go_simp
          intro u hu
          have HU : Hid _ := HMQ.out.below hu
          have HBU : Hid (Below w.heap.size w u) := HBQ.out.trans (hu.mono HBQ.out.size)
          clear hu
          refine rest_store rfl rfl rfl (row_store HU.out 1 rfl (i := i) (by rw [Lz_len]; exact hik) rfl rfl rfl) ?_
          have HE : Hid (Mm (u.setCells v (i * 6) (cells6 (subm r a a1 * invm r (subm r y x) % r))) [(v, cel (Lz (aN r X Y t i1) k k)), (w.heap.size, [PT g 0]), (g, modc r), (2, dtab)]) := by
            have h := (mm_row HU.out 1 rfl i (subm r a a1 * invm r (subm r y x) % r) (by rw [Lz_len]; exact hik)).tail
            rw [Lz_put hik] at h
            rw [Lz_cg (F := aN r X Y t i1) (G := fun j => if j = i then subm r a a1 * invm r (subm r y x) % r else aN r X Y t i j) fun j hj => by
              by_cases e1 : j = i
              · subst e1; rw [HNEW.out]; exact (if_pos rfl).symm
              · refine Eq.trans ?_ (if_neg e1).symm
                have := HI1.out
                unfold aN
                by_cases c1 : i < j
                · rw [if_pos c1, if_pos (by omega)]
                · rw [if_neg c1, if_neg (by omega)]]
            exact h
          have HBE : Hid (Below w.heap.size w (u.setCells v (i * 6) (cells6 (subm r a a1 * invm r (subm r y x) % r)))) := bl_put HBU.out HV.out
          clear HU HBU
          generalize hgw : World.setCells _ _ _ _ = w6 at HE HBE ⊢
          clear hgw
          refine rest_nil ?_
          have hi1' : (i : Int) - 1 = (i1 : Int) := by have := HI1.out; omega
          go_wp2
          rw [show PT w.heap.size 0 = .pointer (some ⟨w.heap.size, 0, none⟩) from rfl]
          go_roundw
          case rel => exact ⟨i1, by have := HI1.out; have := HLT.out; have := HSP.out; omega, hik1, by simp, HE.out, HBE.out⟩
          case measure => have := HI1.out; simp [RowKit.intOf]; omega
        · obtain rfl : i = t := by omega
          obtain ⟨d, hd⟩ : ∃ d, dN r X Y (i + 1) (i + 1) = d := ⟨_, rfl⟩
          have hdb : d < big := by rw [← hd]; exact lt_big ok (dN_lt ok hY _ _ (by omega))
          have hcg : Lz (aN r X Y i i) k k = Lz (dN r X Y (i + 1)) k k := Lz_cg fun j hj => by
            unfold aN
            by_cases c1 : i < j
            · rw [if_pos c1]
            · rw [if_neg c1]
              exact (if_pos (by omega)).symm
          have hMD : Mm W [(v, cel (Lz (dN r X Y (i + 1)) k k)), (w.heap.size, [PT g 0]), (g, modc r), (2, dtab)] := by
            have h := HMR.out
            rw [hcg] at h
            exact h
          have hdc : (Lz (dN r X Y (i + 1)) k k)[sp]? = some d := by rw [Lz_get hlt, if_pos hlt, hsp, hd]
          have HMD : Hid _ := hMD
          have HDC : Hid _ := hdc
          have HD : Hid _ := hd
          have hez := fun w => run_eqZ d hdb w
          clear hMD hdc hd hcg hsp
          have c0 : W.cell? ⟨v, sp * 6, none⟩ = _ := row_at HMD.out 0 rfl HDC.out 0 (by decide)
          have c1 : W.cell? ⟨v, sp * 6 + 1, none⟩ = _ := row_at HMD.out 0 rfl HDC.out 1 (by decide)
          have c2 : W.cell? ⟨v, sp * 6 + 2, none⟩ = _ := row_at HMD.out 0 rfl HDC.out 2 (by decide)
          have c3 : W.cell? ⟨v, sp * 6 + 3, none⟩ = _ := row_at HMD.out 0 rfl HDC.out 3 (by decide)
          have c4 : W.cell? ⟨v, sp * 6 + 4, none⟩ = _ := row_at HMD.out 0 rfl HDC.out 4 (by decide)
          have c5 : W.cell? ⟨v, sp * 6 + 5, none⟩ = _ := row_at HMD.out 0 rfl HDC.out 5 (by decide)
          by_cases hd0 : d = 0
          · rw [decide_eq_true hd0] at hez
            have HD0 : Hid _ := hd0
            clear hd0
            go_wp2
            go_roundw
            case rel => exact ⟨i + 1, sp + 1, by have := HSP.out; omega, by omega, by simp, by rw [show dgN r X Y (i + 1) = dg from (if_pos (by rw [HD.out]; exact HD0.out)).trans HDG.out], HMD.out, HBR.out⟩
            case measure => simp [RowKit.intOf]; omega
          · rw [decide_eq_false hd0] at hez
            have HD0 : Hid _ := hd0
            clear hd0
            go_wp2
            go_roundw
            case rel => exact ⟨i + 1, sp + 1, by have := HSP.out; omega, by omega, by simp, by rw [show dgN r X Y (i + 1) = i + 1 from if_neg (by rw [HD.out]; exact HD0.out), HSP.out], HMD.out, HBR.out⟩
            case measure => simp [RowKit.intOf]; omega
    · obtain rfl : sp = k := by omega
      go_wp2
      go_ret
      exact ⟨by rw [show sp - 1 = t by omega, HDG.out]; rfl, HB1.out⟩
end Sh
end Rg
end Go.Proofs.YtkkloakcphigeaaDoor
end
section
namespace Go.Proofs.YtkkloakcphigeaaDoor
open Go.RowKit
namespace Rg
namespace Sh
set_option maxRecDepth 100000
set_option maxHeartbeats 400000 in
/-- Shares against a degree. -/
theorem Fit_ok {s : Int} {r : Nat} (hS : Su s r) {p : Option Addr} {k c ig io : Nat} {X : Nat → Nat} {ps : Option Addr} {cs sg so : Nat} {Y : Nat → Nat} (dg : Nat) (hdg : dg ≤ 1000) (hk0 : 0 < k) (hk : k ≤ 64) (hX : ∀ i, i < k → 1 ≤ X i ∧ X i ≤ 1000) (hne : ∀ i j, i < k → j < k → i ≠ j → X i ≠ X j) (hr : ∀ i, i < k → Y i < r) (hg : ∀ i j, i < k → j < k → i ≠ j → Nat.gcd r (subm r (X i) (X j)) = 1) (hd : dgN r X Y (k - 1) ≤ dg) (w : World) (hm : Mm w [(2, dtab)]) (hi : Is w p k ig io X) (hs : Ns w ps k sg so Y) :
    Calls Tryd.prog 12 #[.int .i64 s, .slice p k c, .slice ps k cs, .int .i64 (dg : Int)] w fun e w' => e = .returned (.tuple #[.bool true, .int .i64 0]) ∧ Below w.heap.size w w' := by
  obtain ⟨rfl, hsg⟩ := hs.p hk0
  have HI : Hid _ := hi
  have HS0 : Hid _ := hs
  have HSU : Hid _ := hS
  have HM : Hid _ := hm
  have HB : Hid _ := Below.refl w.heap.size w
  have d1 : ¬ ((dg : Int) < 0) := by omega
  have d2 : ¬ (1000 < (dg : Int)) := by omega
  clear hi hs hm
  go_enter Tryd.func12, Tryd.ntmps12
  go_wp2_with (first
    | (go_at_call 22
       refine Calls.mono (field_ok (k := k) (ci := c) (c := cs) HSU.out hk hk hr w HS0.out) ?_
       rintro e w2 ⟨g, rfl, h2, h2g, h2m⟩
       obtain ⟨w3, e3⟩ : ∃ w3, (w2.alloc (.cells #[PT g 0] 53)) = w3 := ⟨_, rfl⟩
       have hm2 : Mm w2 ((g, modc r) :: _) := (HM.out.below h2).cons (h2m.blk _ (List.mem_singleton.2 rfl)).2 (h2m.lt (List.mem_singleton.2 rfl)) fun q hq => by have := (HM.out.blk q hq).1; have := h2g; omega
       have HM3 : Hid _ := mm_new hm2 [PT g 0] 53 e3 rfl
       have HB3 : Hid _ := bl_new (HB.out.trans (h2.mono HB.out.size)) (Nat.le_trans HB.out.size h2.size) e3
       clear h2 h2g h2m hm2)
    | (go_at_call 24
       refine Calls.mono (check_ok 0 (by omega) (by omega) hX hne w3 (HI.out.below HB3.out)) ?_
       rintro e w4 ⟨rfl, h4⟩
       have HM4 : Hid _ := HM3.out.below h4
       have HB4 : Hid _ := HB3.out.trans (h4.mono HB3.out.size)
       clear h4
       have q0 := HM4.out.get 0 rfl 0 rfl)
    | (go_at_call 27
       refine Calls.mono (degree_any HSU.out.ok hk0 hk (fun i hi => (hX i hi).2) hr hg w4 HM4.out.tail (HI.out.below HB4.out) (HS0.out.below HB4.out)) ?_
       rintro e w5 ⟨rfl, h5⟩
       obtain ⟨S, hS2⟩ : ∃ S, dgN r X Y (k - 1) = S := ⟨_, rfl⟩
       rw [hS2] at hd ⊢
       have HB5 : Hid _ := HB4.out.trans (h5.mono HB4.out.size)
       have d3 : (S : Int) ≤ (dg : Int) := by omega
       have d4 : decide ((S : Int) ≤ (dg : Int)) = true := by rw [decide_eq_true_eq]; omega
       clear h5 hS2)
    | fail)
  refine bodyPost_ret (v := .tuple #[.bool true, .int .i64 0]) (by simp [results, Tryd.results12, go_sem, *]) rfl ⟨rfl, HB5.out⟩
end Sh
end Rg
end Go.Proofs.YtkkloakcphigeaaDoor
end
section
namespace Go.Proofs.YtkkloakcphigeaaDoor
open Go.RowKit
namespace Rg
namespace Sh
set_option maxRecDepth 100000
/-- Which one a number picks. -/
def pv (a : Int) (n : Nat) : Nat := if a.tmod n < 0 then (a.tmod n + n).toNat else (a.tmod n).toNat
theorem pv_lt (a : Int) {n : Nat} (hn : 0 < n) : pv a n < n := by
  have h1 := Int.tmod_lt_of_pos a (show (0 : Int) < n by omega)
  have h2 := Int.lt_tmod_of_pos a (show (0 : Int) < n by omega)
  unfold pv
  split <;> omega
theorem pick_k (a : Int) (n : Nat) (hn : 0 < n) (hn2 : n < 4611686018427387904) (w : World) : Calls Tryd.prog 9 #[.int .i64 a, .int .i64 (n : Int)] w fun e w' => e = .returned (.int .i64 (pv a n : Int)) ∧ w' = w := by
  have h1 := Int.tmod_lt_of_pos a (show (0 : Int) < n by omega)
  have h2 := Int.lt_tmod_of_pos a (show (0 : Int) < n by omega)
  have h3 : ¬(n : Int) < 1 := by omega
  have h4 : ¬(n : Int) = 0 := by omega
  go_enter Tryd.func9, Tryd.ntmps9
  by_cases h : a.tmod n < 0
  · have hp : (pv a n : Int) = a.tmod n + n := by unfold pv; rw [if_pos h, Int.toNat_of_nonneg (by omega)]
    rw [hp]
    go_wp2
    go_ret
    exact ⟨rfl, rfl⟩
  · have hp : (pv a n : Int) = a.tmod n := by unfold pv; rw [if_neg h, Int.toNat_of_nonneg (by omega)]
    rw [hp]
    go_wp2
    go_ret
    exact ⟨rfl, rfl⟩
end Sh
end Rg
end Go.Proofs.YtkkloakcphigeaaDoor
end
section
namespace Go.Proofs.YtkkloakcphigeaaDoor
open Go.RowKit
namespace Rg
namespace Sh
set_option maxRecDepth 100000
/-- Ints, as cells. -/
def ivs (L : List Nat) : List Value := L.map fun (x : Nat) => .int .i64 (x : Int)
theorem ivs_get {L : List Nat} {j x : Nat} (h : L[j]? = some x) : (ivs L)[j]? = some (.int .i64 (x : Int)) := by unfold ivs; rw [List.getElem?_map, h]; rfl
theorem ivs_app (L M : List Nat) : ivs (L ++ M) = ivs L ++ ivs M := List.map_append
theorem ivs_len (L : List Nat) : (ivs L).length = L.length := List.length_map _
theorem info_int : ∃ i, Tryd.prog.info? 3 = some i ∧ i.zero = some (.int .i64 0) ∧ i.size = 1 ∧ i.bytes = 8 := by
  have h : (Tryd.prog.info? 3).map (fun i => (i.zero, i.size, i.bytes)) = some (some (.int .i64 0), 1, 8) := by kernel_rfl
  cases hi : Tryd.prog.info? 3 with
  | none => rw [hi] at h; simp at h
  | some i =>
    rw [hi] at h
    simp at h
    exact ⟨i, rfl, h.1, h.2.1, h.2.2⟩
/-- A row of ints of the call's own. -/
structure Zi (w : World) (B : Nat) (v : Value) (L : List Nat) (u : World) : Prop where
  b : Below w.heap.size w u
  lo : w.heap.size ≤ B
  hi : B ≤ u.heap.size
  own : u.ownsRow B 3 1 v L.length (ivs L)
/-- Ints read through a slice. -/
def Ri (u : World) (v : Value) (L : List Nat) : Prop := ∃ g o c, v = .slice (some ⟨g, o, none⟩) L.length c ∧ g < u.heap.size ∧ L.length ≤ c ∧ ∀ (j x : Nat), L[j]? = some x → u.cell? ⟨g, o + j, none⟩ = some (.int .i64 (x : Int))
theorem Zi.start {w u : World} (hb : Below w.heap.size w u) : Zi w u.heap.size (.slice none 0 0) [] u := ⟨hb, hb.size, Nat.le_refl _, World.ownsRow_nil _ _ _ _⟩
theorem Zi.step {w u u2 : World} {B : Nat} {v : Value} {L : List Nat} (h : Zi w B v L u) (hb : Below u.heap.size u u2) : Zi w B v L u2 := by
  refine ⟨h.b.trans (hb.mono h.b.size), h.lo, Nat.le_trans h.hi hb.size, h.own.1, ?_⟩
  rcases h.own.2 with ⟨h1, h2⟩ | ⟨g, cap, cur, h1, h2, h3, h4⟩
  · exact .inl ⟨h1, h2⟩
  · refine .inr ⟨g, cap, cur, h1, h2, ?_, h4⟩
    rw [hb.block g (Array.getElem?_eq_some_iff.1 h3).1]
    exact h3
theorem Zi.app {w u : World} {B : Nat} {v : Value} {L M : List Nat} (h : Zi w B v L u) {g o c : Nat} (hc : ∀ (j x : Nat), M[j]? = some x → u.cell? ⟨g, o + j, none⟩ = some (.int .i64 (x : Int))) (hl : L.length + M.length ≤ 1000) (ty : TypeId) :
    ∃ v' u2, (Builtin.append_ #[24, 24] ty #[v, .slice (some ⟨g, o, none⟩) M.length c]).run Tryd.prog u = .ok v' u2 ∧ Zi w B v' (L ++ M) u2 ∧ u.grownBy u2 v.ownBlock := by
  obtain ⟨i0, hi, hz0, hz1, hz2⟩ := info_int
  obtain ⟨v', w2, h1, h2, h3, _⟩ := run_append_own (P := Tryd.prog) u B 24 ty 3 i0 _ 1 8 Tryd.underlying24 hi hz0 hz1 hz2 rfl (by decide) v L.length _ h.own ⟨g, o, none⟩ M.length c (ivs M) (by rw [ivs_len]; omega) (fun j x hj => by
    rw [show (⟨g, o, none⟩ : Addr).add j = ⟨g, o + j, none⟩ by unfold Addr.add; split <;> simp_all]
    unfold ivs at hj
    rw [List.getElem?_map] at hj
    cases hm : M[j]? with
    | none => rw [hm] at hj; cases hj
    | some y => rw [hm] at hj; cases hj; exact hc j y hm) (fun x hx => by
      unfold ivs at hx
      obtain ⟨y, _, rfl⟩ := List.mem_map.1 hx
      rfl) (by unfold maxLen; omega) (by omega) h.hi
  have hb2 : Below B u w2 := (Below.refl _ _).grown h3 h.hi (fun k hk => (World.ownsRow.lt h.own k hk).1)
  rw [← ivs_app] at h2
  exact ⟨v', w2, h1, ⟨h.b.trans (hb2.mono h.lo), h.lo, Nat.le_trans h.hi hb2.size, by rw [List.length_append]; exact h2⟩, h3⟩
theorem Zi.ri {w u : World} {B : Nat} {v : Value} {L : List Nat} (h : Zi w B v L u) (hL : 0 < L.length) : Ri u v L ∧ ∃ g, v.ownBlock = some g ∧ B ≤ g := by
  rcases h.own.2 with ⟨_, h2⟩ | ⟨g, cap, cur, h1, h2, h3, h4, h5, h6, h7⟩
  · omega
  · have hc := World.ownsRow.cells h.own (g := g) (by rw [h1]; rfl)
    refine ⟨⟨g, 0, cap, h1, (Array.getElem?_eq_some_iff.1 h3).1, h4, fun j x hj => ?_⟩, g, by rw [h1]; rfl, h2⟩
    have := hc j _ (ivs_get hj)
    rw [show (⟨g, 0, none⟩ : Addr).add j = ⟨g, 0 + j, none⟩ by unfold Addr.add; split <;> simp_all] at this
    exact this
theorem Zi.lt {w u : World} {B : Nat} {v : Value} {L : List Nat} (h : Zi w B v L u) (k : Nat) (hk : v.ownBlock = some k) : B ≤ k ∧ k < u.heap.size := by
  obtain ⟨h1, h2⟩ := World.ownsRow.lt h.own k hk
  exact ⟨h1, h2⟩
end Sh
end Rg
end Go.Proofs.YtkkloakcphigeaaDoor
end
section
namespace Go.Proofs.YtkkloakcphigeaaDoor
open Go.RowKit
namespace Rg
namespace Sh
set_option maxRecDepth 100000
theorem ch_list {O L : List Nat} {y x n : Nat} (h : L[y]? = some x) (hn : (O ++ L).Nodup) (hm : ∀ z ∈ O ++ L, 1 ≤ z ∧ z ≤ n) :
    (O ++ [x] ++ (L.take y ++ L.drop (y + 1))).Nodup ∧ ∀ z ∈ O ++ [x] ++ (L.take y ++ L.drop (y + 1)), 1 ≤ z ∧ z ≤ n := by
  obtain ⟨hy, he⟩ := List.getElem?_eq_some_iff.1 h
  have hL : L = L.take y ++ x :: L.drop (y + 1) := by rw [← he, ← List.drop_eq_getElem_cons hy, List.take_append_drop]
  have hp : (O ++ [x] ++ (L.take y ++ L.drop (y + 1))).Perm (O ++ L) := by
    rw [List.append_assoc]
    refine List.Perm.append_left O ?_
    conv => rhs; rw [hL]
    show (x :: (L.take y ++ L.drop (y + 1))).Perm _
    exact List.perm_middle.symm
  exact ⟨hp.nodup_iff.2 hn, fun z hz => hm z (hp.mem_iff.1 hz)⟩
theorem ch_zero {O L : List Nat} {x : Nat} (h : L[0]? = some x) : O ++ [x] ++ (L.take 0 ++ L.drop (0 + 1)) = O ++ L := by
  cases L with
  | nil => cases h
  | cons a t => cases h; simp
theorem gr_cell {u u2 : World} {row : Option Nat} (h : u.grownBy u2 row) {g o : Nat} (hg : g < u.heap.size) (hr : row ≠ some g) : u2.cell? ⟨g, o, none⟩ = u.cell? ⟨g, o, none⟩ :=
  World.cell?_of_block (w := u) (h.block g hg fun e => hr e.symm)
theorem ch_step {w u : World} {B : Nat} {vo : Value} {O L : List Nat} {g o c : Nat} (hz : Zi w B vo O u) (hg : g < u.heap.size) (hc : ∀ (j x : Nat), L[j]? = some x → u.cell? ⟨g, o + j, none⟩ = some (.int .i64 (x : Int))) (hne : vo.ownBlock ≠ some g) (y : Nat) (hy : y < L.length) (hl : O.length + L.length ≤ 900) (m o3 c3 : Nat) (hm : m = L.length - (y + 1)) (ho : m ≠ 0 → o3 = o + (y + 1)) :
    ∃ x vo2 w5 vn w6 vl2 w7, L[y]? = some x ∧ u.cell? ⟨g, o + y, none⟩ = some (.int .i64 (x : Int)) ∧
      (Builtin.append_ #[24, 24] 24 #[vo, .slice (some ⟨u.heap.size, 0, none⟩) 1 1]).run Tryd.prog (u.alloc (.cells #[.int .i64 (x : Int)] 3)) = .ok vo2 w5 ∧
      (Builtin.append_ #[24, 24] 24 #[.slice none 0 0, .slice (some ⟨g, o, none⟩) y c]).run Tryd.prog w5 = .ok vn w6 ∧
      (Builtin.append_ #[24, 24] 24 #[vn, .slice (some ⟨g, o3, none⟩) m c3]).run Tryd.prog w6 = .ok vl2 w7 ∧
      Zi w B vo2 (O ++ [x]) w7 ∧ (1 < L.length → Ri w7 vl2 (L.take y ++ L.drop (y + 1)) ∧ ∀ g', vl2.ownBlock = some g' → vo2.ownBlock ≠ some g') := by
  obtain ⟨x, hx⟩ : ∃ x, L[y]? = some x := ⟨L[y], List.getElem?_eq_getElem hy⟩
  have hb1 : Below u.heap.size u (u.alloc (.cells #[.int .i64 (x : Int)] 3)) := (Below.refl _ u).alloc (Nat.le_refl _) _
  have hc1 : ∀ (j z : Nat), L[j]? = some z → (u.alloc (.cells #[.int .i64 (x : Int)] 3)).cell? ⟨g, o + j, none⟩ = some (.int .i64 (z : Int)) := fun j z hj => (hb1.cell (p := ⟨g, o + j, none⟩) hg).trans (hc j z hj)
  obtain ⟨vo2, w5, r1, z1, g1⟩ := (hz.step hb1).app (M := [x]) (g := u.heap.size) (o := 0) (c := 1) (fun j z hj => by
    cases j with
    | zero => cases hj; exact box_at u _ 3 0
    | succ j => simp at hj) (by simp only [List.length_singleton]; omega) 24
  have hg1 : g < (u.alloc (.cells #[.int .i64 (x : Int)] 3)).heap.size := Nat.lt_of_lt_of_le hg hb1.size
  have hc5 : ∀ (j z : Nat), L[j]? = some z → w5.cell? ⟨g, o + j, none⟩ = some (.int .i64 (z : Int)) := fun j z hj => (gr_cell g1 hg1 hne).trans (hc1 j z hj)
  have hg5 : g < w5.heap.size := Nat.lt_of_lt_of_le hg1 g1.size
  have z2 := Zi.start (w := w5) (u := w5) (Below.refl _ _)
  obtain ⟨vn, w6, r2, z3, g2⟩ := z2.app (M := L.take y) (g := g) (o := o) (c := c) (fun j z hj => by
    refine hc5 j z ?_
    rw [List.getElem?_take] at hj
    split at hj
    · exact hj
    · cases hj) (by rw [List.length_take]; simp only [List.length_nil]; omega) 24
  have hc6 : ∀ (j z : Nat), L[j]? = some z → w6.cell? ⟨g, o + j, none⟩ = some (.int .i64 (z : Int)) := fun j z hj => (gr_cell g2 hg5 (by intro e; cases e)).trans (hc5 j z hj)
  obtain ⟨vl2, w7, r3, z4, g3⟩ := z3.app (M := L.drop (y + 1)) (g := g) (o := o3) (c := c3) (fun j z hj => by
    have hjl := (List.getElem?_eq_some_iff.1 hj).1
    rw [List.length_drop] at hjl
    rw [ho (by omega)]
    rw [List.getElem?_drop] at hj
    rw [Nat.add_assoc]
    exact hc6 _ z hj) (by rw [List.nil_append, List.length_take, List.length_drop]; omega) 24
  rw [List.length_take, Nat.min_eq_left (by omega)] at r2
  rw [List.length_drop, ← hm] at r3
  refine ⟨x, vo2, w5, vn, w6, vl2, w7, hx, hc y x hx, r1, r2, r3, z1.step z4.b, fun h1 => ?_⟩
  rw [List.nil_append] at z4
  obtain ⟨h2, gg, h3, h4⟩ := z4.ri (by rw [List.length_append, List.length_take, List.length_drop]; omega)
  refine ⟨h2, fun g' hg' hv => ?_⟩
  rw [h3] at hg'
  cases hg'
  have := (z1.lt gg hv).2
  omega
/-- Ints of any sign in a row. -/
structure Ib (w : World) (p : Option Addr) (k g o : Nat) (X : Nat → Int) : Prop where
  p : 0 < k → p = some ⟨g, o, none⟩ ∧ g < w.heap.size
  c : ∀ i, i < k → w.cell? ⟨g, o + i, none⟩ = some (.int .i64 (X i))
theorem Ib.below {w u : World} {p : Option Addr} {k g o : Nat} {X : Nat → Int} (h : Ib w p k g o X) (hb : Below w.heap.size w u) : Ib u p k g o X :=
  ⟨fun e => ⟨(h.p e).1, Nat.lt_of_lt_of_le (h.p e).2 hb.size⟩, fun i hi => (hb.cell (p := ⟨g, o + i, none⟩) (h.p (by omega)).2).trans (h.c i hi)⟩
theorem rg_snoc (i : Nat) (h : 1 ≤ i) : List.range' 1 (i - 1) ++ [i] = List.range' 1 (i + 1 - 1) := by
  obtain ⟨j, rfl⟩ : ∃ j, i = j + 1 := ⟨i - 1, by omega⟩
  show List.range' 1 j ++ [j + 1] = List.range' 1 (j + 1)
  rw [List.range'_1_concat]
  simp [Nat.add_comm]
end Sh
end Rg
end Go.Proofs.YtkkloakcphigeaaDoor
end
section
namespace Go.Proofs.YtkkloakcphigeaaDoor
open Go.RowKit
namespace Rg
namespace Sh
set_option maxRecDepth 100000
set_option maxHeartbeats 1000000 in
/-- Unlike ids, chosen by numbers. -/
theorem chosen_ok {pb : Option Addr} {mb cb gb ob : Nat} {b : Nat → Int} (k n : Nat) (hk0 : 0 < k) (hkn : k ≤ n) (hn : n ≤ 40) (w : World) (hby : Ib w pb mb gb ob b) :
    Calls Tryd.prog 8 #[.int .i64 (k : Int), .int .i64 (n : Int), .slice pb mb cb] w fun e w' => ∃ (O : List Nat) (v : Value), e = .returned v ∧ Below w.heap.size w w' ∧ O.length = k ∧ Ri w' v O ∧ O.Nodup ∧ (∀ x ∈ O, 1 ≤ x ∧ x ≤ n) ∧ (mb = 0 → ∃ t, O ++ t = List.range' 1 n) := by
  have HBY : Hid _ := hby
  clear hby
  have HB0 : Hid _ := Below.refl w.heap.size w
  go_enter Tryd.func8, Tryd.ntmps8
  go_wp2
  go_loopw [7, 9] (fun v7 v9 wr => ∃ i : Nat, v9 = .int .i64 (i : Int) ∧ 1 ≤ i ∧ i ≤ n + 1 ∧ Hid (Zi w w.heap.size v7 (List.range' 1 (i - 1)) wr))
    (fun _ v9 _ => n + 1 - (RowKit.intOf v9).toNat)
  case atStart => exact ⟨1, rfl, Nat.le_refl _, by omega, Zi.start (Below.refl _ _)⟩
  case round =>
    obtain ⟨i, rfl, hi1, hin, hC⟩ := hrel
    obtain ⟨vv, rfl⟩ : ∃ v, v = u7 := ⟨u7, rfl⟩
    obtain ⟨W, rfl⟩ : ∃ W, W = wr := ⟨wr, rfl⟩
    have HC : Hid _ := hC.out
    clear hC
    by_cases hlt : i ≤ n
    · obtain ⟨va, wa, hra, hza, _⟩ := (HC.out.step ((Below.refl _ W).alloc (Nat.le_refl _) (.cells #[.int .i64 (i : Int)] 3))).app (M := [i]) (g := W.heap.size) (o := 0) (c := 1) (fun j z hj => by
        cases j with
        | zero => cases hj; exact box_at W _ 3 0
        | succ j => simp at hj) (by rw [List.length_range']; simp only [List.length_singleton]; omega) 24
      have HRA : Hid ((Builtin.append_ #[24, 24] 24 #[vv, .slice (some ⟨W.heap.size, 0, none⟩) 1 1]).run Tryd.prog (W.alloc (.cells #[.int .i64 (i : Int)] 3)) = .ok va wa) := hra
      have HZA : Hid (Zi w w.heap.size va (List.range' 1 (i + 1 - 1)) wa) := by rw [← rg_snoc i hi1]; exact hza
      clear hra hza
      go_wp2_with (first
        | (at_builtin; refine wpl_app rfl _ _ 24 rfl vv (.slice (some ⟨W.heap.size, 0, none⟩) 1 1) va rfl rfl HRA.out ?_)
        | fail)
      go_roundw
      case rel => exact ⟨i + 1, by simp, by omega, by omega, HZA.out⟩
      case measure => simp [RowKit.intOf]; omega
    · have hin2 : i = n + 1 := by omega
      obtain ⟨hri, gv, hgv, hgv2⟩ := HC.out.ri (by rw [List.length_range']; omega)
      have HRI : Hid (Ri W vv (List.range' 1 n)) := by rw [hin2] at hri; exact hri
      have hni : ¬(i : Int) ≤ (n : Int) := by omega
      obtain ⟨i9, hi9⟩ : ∃ j, j = i := ⟨i, rfl⟩
      rw [← hi9] at hni ⊢
      clear hin2 hlt hi9 hin hi1
      have HWB : Hid _ := HC.out.b
      clear hri hgv hgv2 HC
      go_wp2
      go_loopw [7, 8, 10] (fun v7 v8 v10 wr => ∃ (i : Nat) (O L : List Nat) (B : Nat), v10 = .int .i64 (i : Int) ∧ i ≤ k ∧ Zi w B v8 O wr ∧ O.length = i ∧ L.length = n - i ∧ (i < n → Ri wr v7 L ∧ ∀ g', v7.ownBlock = some g' → v8.ownBlock ≠ some g') ∧ (O ++ L).Nodup ∧ (∀ x ∈ O ++ L, 1 ≤ x ∧ x ≤ n) ∧ (mb = 0 → O ++ L = List.range' 1 n))
        (fun _ _ v10 _ => k - (RowKit.intOf v10).toNat)
      case atStart => exact ⟨0, [], List.range' 1 n, W.heap.size, rfl, Nat.zero_le _, Zi.start HWB.out, rfl, by rw [List.length_range']; rfl, fun _ => ⟨HRI.out, fun g' _ e => by cases e⟩, by rw [List.nil_append]; exact List.nodup_range', fun x hx => by
        rw [List.nil_append, List.mem_range'_1] at hx; omega, fun _ => by rw [List.nil_append]⟩
      case round =>
        obtain ⟨i, O, L, B, rfl, hik, hz, hO, hL, hri, hnd, hmem, hm0⟩ := hrel
        obtain ⟨vo, rfl⟩ : ∃ v, v = u8 := ⟨u8, rfl⟩
        obtain ⟨vl, rfl⟩ : ∃ v, v = u7 := ⟨u7, rfl⟩
        obtain ⟨W2, rfl⟩ : ∃ W, W = wr := ⟨wr, rfl⟩
        have HZ : Hid _ := hz
        by_cases hlt : i < k
        · obtain ⟨⟨g, o, c, rfl, hgW2, hLc, hcc⟩, hne⟩ := hri (by omega)
          have hneg := hne g rfl
          clear hne
          have HND : Hid _ := And.intro hnd hmem
          clear hri hnd hmem hz
          have hL0 : 0 < L.length := by omega
          have hLb : L.length ≤ 40 := by omega
          have hOb : O.length ≤ 40 := by omega
          have HLO : Hid (O.length = i ∧ L.length = n - i) := ⟨hO, hL⟩
          clear hO hL
          by_cases him : i < mb
          · have HM0 : Hid (∀ {x y : Nat}, mb = 0 → L[y]? = some x → O ++ [x] ++ (L.take y ++ L.drop (y + 1)) = List.range' 1 n) := fun h0 _ => absurd him (by omega)
            clear hm0
            have hib := HBY.out.below HZ.out.b
            have hp := (hib.p (by omega)).1
            have hcb := hib.c i him
            clear hib
            subst hp
            obtain ⟨y, hyE⟩ : ∃ y, pv (b i) L.length = y := ⟨_, rfl⟩
            have hy : y < L.length := by rw [← hyE]; exact pv_lt _ hL0
            have HY : Hid _ := hyE
            clear hyE
            have hy2 : y + 1 ≤ L.length := by omega
            have hy3 : y ≤ L.length := by omega
            rcases Nat.eq_or_lt_of_le (show y + 1 ≤ c by omega) with hce | hce
            · subst hce
              have hy1 : y ≤ y + 1 := by omega
              obtain ⟨x, vo2, w5, vn, w6, vl2, w7, hx, hcx, r1, r2, r3, hz7, hri7⟩ := ch_step (o := o) (c := (y + 1)) HZ.out hgW2 hcc hneg y hy (by omega) (0) (o) (0) (by omega) (by omega)
              have HR1 : Hid _ := r1
              have HR2 : Hid _ := r2
              have HR3 : Hid _ := r3
              have HZ7 : Hid _ := hz7
              have HRI7 : Hid _ := hri7
              have HX : Hid _ := hx
              have hcx0 : W2.cell? ⟨g, o + y, none⟩ = some (.int .i64 (x : Int)) := hcx
              clear r1 r2 r3 hz7 hri7 hx hcc hcx
              go_wp2_with (first
                | (go_at_call 9; refine Calls.mono (pick_k (b i) L.length hL0 (by omega) W2) ?_; rintro e w3 ⟨rfl, hw3⟩; obtain rfl : W2 = w3 := hw3.symm; rw [HY.out])
                | (at_builtin; refine wpl_app rfl _ _ 24 rfl vo (.slice (some ⟨W2.heap.size, 0, none⟩) 1 1) vo2 rfl rfl HR1.out ?_)
                | (at_builtin; refine wpl_app rfl _ _ 24 rfl (.slice none 0 0) (.slice (some ⟨g, o, none⟩) y (y + 1)) vn rfl rfl HR2.out ?_)
                | (at_builtin; refine wpl_app rfl _ _ 24 rfl vn (.slice (some ⟨g, o, none⟩) (0) (0)) vl2 rfl rfl HR3.out ?_)
                | fail)
              go_roundw
              case rel => exact ⟨i + 1, O ++ [x], L.take y ++ L.drop (y + 1), B, by simp, by omega, HZ7.out, by rw [List.length_append, HLO.out.1]; rfl, by rw [List.length_append, List.length_take, List.length_drop]; have := HLO.out.2; omega, fun h => HRI7.out (by have := HLO.out.2; omega), (ch_list HX.out HND.out.1 HND.out.2).1, (ch_list HX.out HND.out.1 HND.out.2).2, fun h0 => HM0.out h0 HX.out⟩
              case measure => simp [RowKit.intOf]; omega
            · have hcn : ¬c = y + 1 := by omega
              have hy1 : y ≤ c := by omega
              obtain ⟨x, vo2, w5, vn, w6, vl2, w7, hx, hcx, r1, r2, r3, hz7, hri7⟩ := ch_step (o := o) (c := c) HZ.out hgW2 hcc hneg y hy (by omega) (L.length - (y + 1)) (o + (y + 1)) (c - (y + 1)) (by omega) (by omega)
              have HR1 : Hid _ := r1
              have HR2 : Hid _ := r2
              have HR3 : Hid _ := r3
              have HZ7 : Hid _ := hz7
              have HRI7 : Hid _ := hri7
              have HX : Hid _ := hx
              have hcx0 : W2.cell? ⟨g, o + y, none⟩ = some (.int .i64 (x : Int)) := hcx
              clear r1 r2 r3 hz7 hri7 hx hcc hcx
              go_wp2_with (first
                | (go_at_call 9; refine Calls.mono (pick_k (b i) L.length hL0 (by omega) W2) ?_; rintro e w3 ⟨rfl, hw3⟩; obtain rfl : W2 = w3 := hw3.symm; rw [HY.out])
                | (at_builtin; refine wpl_app rfl _ _ 24 rfl vo (.slice (some ⟨W2.heap.size, 0, none⟩) 1 1) vo2 rfl rfl HR1.out ?_)
                | (at_builtin; refine wpl_app rfl _ _ 24 rfl (.slice none 0 0) (.slice (some ⟨g, o, none⟩) y c) vn rfl rfl HR2.out ?_)
                | (at_builtin; refine wpl_app rfl _ _ 24 rfl vn (.slice (some ⟨g, o + (y + 1), none⟩) (L.length - (y + 1)) (c - (y + 1))) vl2 rfl rfl HR3.out ?_)
                | fail)
              go_roundw
              case rel => exact ⟨i + 1, O ++ [x], L.take y ++ L.drop (y + 1), B, by simp, by omega, HZ7.out, by rw [List.length_append, HLO.out.1]; rfl, by rw [List.length_append, List.length_take, List.length_drop]; have := HLO.out.2; omega, fun h => HRI7.out (by have := HLO.out.2; omega), (ch_list HX.out HND.out.1 HND.out.2).1, (ch_list HX.out HND.out.1 HND.out.2).2, fun h0 => HM0.out h0 HX.out⟩
              case measure => simp [RowKit.intOf]; omega
          · have HM0 : Hid (∀ {x : Nat}, mb = 0 → L[0]? = some x → O ++ [x] ++ (L.take 0 ++ L.drop (0 + 1)) = List.range' 1 n) := fun h0 hx => (ch_zero hx).trans (hm0 h0)
            clear hm0
            have hy := hL0
            rcases Nat.eq_or_lt_of_le (show 1 ≤ c by omega) with hce | hce
            · subst hce
              obtain ⟨x, vo2, w5, vn, w6, vl2, w7, hx, hcx, r1, r2, r3, hz7, hri7⟩ := ch_step (o := o) (c := 1) HZ.out hgW2 hcc hneg (0 : Nat) hy (by omega) (0) (o) (0) (by omega) (by omega)
              have HR1 : Hid _ := r1
              have HR2 : Hid _ := r2
              have HR3 : Hid _ := r3
              have HZ7 : Hid _ := hz7
              have HRI7 : Hid _ := hri7
              have HX : Hid _ := hx
              have hcx0 : W2.cell? ⟨g, o, none⟩ = some (.int .i64 (x : Int)) := hcx
              clear r1 r2 r3 hz7 hri7 hx hcc hcx
              go_wp2_with (first
                | (at_builtin; refine wpl_app rfl _ _ 24 rfl vo (.slice (some ⟨W2.heap.size, 0, none⟩) 1 1) vo2 rfl rfl HR1.out ?_)
                | (at_builtin; refine wpl_app rfl _ _ 24 rfl (.slice none 0 0) (.slice (some ⟨g, o, none⟩) 0 1) vn rfl rfl HR2.out ?_)
                | (at_builtin; refine wpl_app rfl _ _ 24 rfl vn (.slice (some ⟨g, o, none⟩) (0) (0)) vl2 rfl rfl HR3.out ?_)
                | fail)
              go_roundw
              case rel => exact ⟨i + 1, O ++ [x], L.take 0 ++ L.drop (0 + 1), B, by simp, by omega, HZ7.out, by rw [List.length_append, HLO.out.1]; rfl, by rw [List.length_append, List.length_take, List.length_drop]; have := HLO.out.2; omega, fun h => HRI7.out (by have := HLO.out.2; omega), (ch_list HX.out HND.out.1 HND.out.2).1, (ch_list HX.out HND.out.1 HND.out.2).2, fun h0 => HM0.out h0 HX.out⟩
              case measure => simp [RowKit.intOf]; omega
            · have hcn : ¬c = 1 := by omega
              have hc0 : 1 ≤ c := by omega
              obtain ⟨x, vo2, w5, vn, w6, vl2, w7, hx, hcx, r1, r2, r3, hz7, hri7⟩ := ch_step (o := o) (c := c) HZ.out hgW2 hcc hneg (0 : Nat) hy (by omega) (L.length - (0 + 1)) (o + (0 + 1)) (c - (0 + 1)) (by omega) (by omega)
              have HR1 : Hid _ := r1
              have HR2 : Hid _ := r2
              have HR3 : Hid _ := r3
              have HZ7 : Hid _ := hz7
              have HRI7 : Hid _ := hri7
              have HX : Hid _ := hx
              have hcx0 : W2.cell? ⟨g, o, none⟩ = some (.int .i64 (x : Int)) := hcx
              clear r1 r2 r3 hz7 hri7 hx hcc hcx
              go_wp2_with (first
                | (at_builtin; refine wpl_app rfl _ _ 24 rfl vo (.slice (some ⟨W2.heap.size, 0, none⟩) 1 1) vo2 rfl rfl HR1.out ?_)
                | (at_builtin; refine wpl_app rfl _ _ 24 rfl (.slice none 0 0) (.slice (some ⟨g, o, none⟩) 0 c) vn rfl rfl HR2.out ?_)
                | (at_builtin; refine wpl_app rfl _ _ 24 rfl vn (.slice (some ⟨g, o + (0 + 1), none⟩) (L.length - (0 + 1)) (c - (0 + 1))) vl2 rfl rfl HR3.out ?_)
                | fail)
              go_roundw
              case rel => exact ⟨i + 1, O ++ [x], L.take 0 ++ L.drop (0 + 1), B, by simp, by omega, HZ7.out, by rw [List.length_append, HLO.out.1]; rfl, by rw [List.length_append, List.length_take, List.length_drop]; have := HLO.out.2; omega, fun h => HRI7.out (by have := HLO.out.2; omega), (ch_list HX.out HND.out.1 HND.out.2).1, (ch_list HX.out HND.out.1 HND.out.2).2, fun h0 => HM0.out h0 HX.out⟩
              case measure => simp [RowKit.intOf]; omega
        · obtain rfl : i = k := by omega
          obtain ⟨hro, _⟩ := HZ.out.ri (by omega)
          go_wp2
          go_ret
          exact ⟨O, vo, rfl, HZ.out.b, hO, hro, (List.nodup_append.1 hnd).1, fun x hx => hmem x (List.mem_append_left _ hx), fun h0 => ⟨L, hm0 h0⟩⟩
end Sh
end Rg
end Go.Proofs.YtkkloakcphigeaaDoor
end
section
namespace Go.Proofs.YtkkloakcphigeaaDoor
open Go.RowKit
namespace Rg
namespace Sh
set_option maxRecDepth 100000
/-- A row of numbers of the call's own. -/
structure Zr (w : World) (v : Value) (L : List Nat) (u : World) : Prop where
  b : Below w.heap.size w u
  own : u.ownsRow w.heap.size 33 6 v L.length (cel L)
theorem Zr.start {w u : World} (hb : Below w.heap.size w u) : Zr w (.slice none 0 0) [] u := ⟨hb, World.ownsRow_nil _ _ _ _⟩
theorem Zr.step {w u u2 : World} {v : Value} {L : List Nat} (h : Zr w v L u) (hb : Below u.heap.size u u2) : Zr w v L u2 := by
  refine ⟨h.b.trans (hb.mono h.b.size), h.own.1, ?_⟩
  rcases h.own.2 with ⟨h1, h2⟩ | ⟨g, cap, cur, h1, h2, h3, h4⟩
  · exact .inl ⟨h1, h2⟩
  · refine .inr ⟨g, cap, cur, h1, h2, ?_, h4⟩
    rw [hb.block g (Array.getElem?_eq_some_iff.1 h3).1]
    exact h3
theorem Zr.app {w u : World} {v : Value} {L : List Nat} (h : Zr w v L u) {x : Nat} (hl : L.length ≤ 900) (ty : TypeId) :
    ∃ v' u2, (Builtin.append_ #[23, 23] ty #[v, .slice (some ⟨u.heap.size, 0, none⟩) 1 1]).run Tryd.prog (u.alloc (.cells #[.int .u64 (wd x 0), .int .u64 (wd x 1), .int .u64 (wd x 2), .int .u64 (wd x 3), .int .u64 (wd x 4), .int .u64 (wd x 5)] 33)) = .ok v' u2 ∧ Zr w v' (L ++ [x]) u2 := by
  obtain ⟨i0, hi, hz0, hz1, hz2⟩ := info_num
  have hb1 : Below u.heap.size u (u.alloc (.cells #[.int .u64 (wd x 0), .int .u64 (wd x 1), .int .u64 (wd x 2), .int .u64 (wd x 3), .int .u64 (wd x 4), .int .u64 (wd x 5)] 33)) := (Below.refl _ u).alloc (Nat.le_refl _) _
  have h1 := h.step hb1
  obtain ⟨v', w2, r1, r2, r3, _⟩ := run_append_own (P := Tryd.prog) _ w.heap.size 23 ty 33 i0 _ 6 48 Tryd.underlying23 hi hz0 hz1 hz2 rfl (by decide) v L.length _ h1.own ⟨u.heap.size, 0, none⟩ 1 1 (cel [x]) (by rw [cel_len]; rfl) (fun j y hj => by
    rw [show (⟨u.heap.size, 0, none⟩ : Addr).add j = ⟨u.heap.size, 0 + j, none⟩ by unfold Addr.add; split <;> simp_all, Nat.zero_add]
    refine (box_at u _ 33 j).trans ?_
    rw [show (#[.int .u64 (wd x 0), .int .u64 (wd x 1), .int .u64 (wd x 2), .int .u64 (wd x 3), .int .u64 (wd x 4), .int .u64 (wd x 5)] : Array Value) = (cel [x]).toArray from rfl, List.getElem?_toArray]
    exact hj) (List.all_eq_true.1 (cel_one _)) (by unfold maxLen; omega) (by omega) h1.b.size
  have hb2 : Below w.heap.size (u.alloc (.cells #[.int .u64 (wd x 0), .int .u64 (wd x 1), .int .u64 (wd x 2), .int .u64 (wd x 3), .int .u64 (wd x 4), .int .u64 (wd x 5)] 33)) w2 := (Below.refl _ _).grown r3 h1.b.size (fun k hk => (World.ownsRow.lt h1.own k hk).1)
  rw [← cel_app] at r2
  exact ⟨v', w2, r1, h1.b.trans hb2, by rw [List.length_append]; exact r2⟩
theorem Zr.ns {w u : World} {v : Value} {L : List Nat} (h : Zr w v L u) (hL : 0 < L.length) (hb : ∀ x ∈ L, x < big) : ∃ g c, v = .slice (some ⟨g, 0, none⟩) L.length c ∧ w.heap.size ≤ g ∧ Ns u (some ⟨g, 0, none⟩) L.length g 0 (fun i => L.getD i 0) := by
  rcases h.own.2 with ⟨_, h2⟩ | ⟨g, cap, cur, h1, h2, h3, h4, h5, h6, h7⟩
  · omega
  · have hc := World.ownsRow.cells h.own (g := g) (by rw [h1]; rfl)
    refine ⟨g, cap, h1, h2, fun _ => ⟨rfl, (Array.getElem?_eq_some_iff.1 h3).1⟩, fun i hi j hj => ?_, fun i hi => ?_⟩
    · have h8 := cel_word (l := L) (i := i) (v := L.getD i 0) (by rw [List.getD_eq_getElem?_getD, List.getElem?_eq_getElem hi]; rfl) j hj
      have := hc _ _ h8
      rw [show (⟨g, 0, none⟩ : Addr).add (6 * i + j) = ⟨g, 0 + i * 6 + j, none⟩ by unfold Addr.add; split <;> simp_all <;> omega] at this
      exact this
    · rw [List.getD_eq_getElem?_getD, List.getElem?_eq_getElem hi]
      exact hb _ (List.getElem_mem hi)
/-- What scalars are made of numbers. -/
def scl (r : Nat) (C : Nat → Nat) (i : Nat) : List Nat := (List.range i).map fun j => C j % r
theorem scl_len (r : Nat) (C : Nat → Nat) (i : Nat) : (scl r C i).length = i := by unfold scl; simp
theorem scl_snoc (r : Nat) (C : Nat → Nat) (i : Nat) : scl r C i ++ [C i % r] = scl r C (i + 1) := by unfold scl; rw [List.range_succ, List.map_append]; rfl
theorem scl_get (r : Nat) (C : Nat → Nat) {m i : Nat} (h : i < m) : (scl r C m).getD i 0 = C i % r := by unfold scl; rw [List.getD_eq_getElem?_getD, List.getElem?_map, List.getElem?_range h]; rfl
set_option maxHeartbeats 2000000 in
/-- Numbers as a suite's scalars. -/
theorem scalars_ok {s : Int} {r : Nat} (hS : Su s r) {p : Option Addr} {m c sg so : Nat} {C : Nat → Nat} (hm0 : 0 < m) (hm : m ≤ 64) (w : World) (hcs : Ns w p m sg so C) :
    Calls Tryd.prog 6 #[.int .i64 s, .slice p m c] w fun e w' => ∃ g c', e = .returned (.slice (some ⟨g, 0, none⟩) m c') ∧ Below w.heap.size w w' ∧ Ns w' (some ⟨g, 0, none⟩) m g 0 (fun i => C i % r) := by
  obtain ⟨rfl, hsg⟩ := hcs.p hm0
  have HCS : Hid _ := hcs
  have HSU : Hid _ := hS
  clear hcs
  go_enter Tryd.func6, Tryd.ntmps6
  go_wp2_with (first
    | (go_at_call 20
       refine Calls.mono (HSU.out.ord w) ?_
       rintro e w2 ⟨rfl, h2⟩
       obtain ⟨w3, e3⟩ : ∃ w3, (w2.alloc (.cells #[.int .u64 (wd r 0), .int .u64 (wd r 1), .int .u64 (wd r 2), .int .u64 (wd r 3), .int .u64 (wd r 4), .int .u64 (wd r 5)] 33)) = w3 := ⟨_, rfl⟩
       have HM3 : Hid _ := mm_new (Mm.nil w2) [.int .u64 (wd r 0), .int .u64 (wd r 1), .int .u64 (wd r 2), .int .u64 (wd r 3), .int .u64 (wd r 4), .int .u64 (wd r 5)] 33 e3 rfl
       have HB3 : Hid (Below w.heap.size w w3) := bl_new h2 h2.size e3
       clear h2)
    | fail)
  go_loopw [7, 8] (fun v7 v8 wr => ∃ i : Nat, v8 = .int .i64 (i : Int) ∧ i ≤ m ∧ Hid (Zr w3 v7 (scl r C i) wr))
    (fun _ v8 _ => m - (RowKit.intOf v8).toNat)
  case atStart => exact ⟨0, rfl, Nat.zero_le _, Zr.start (Below.refl _ _)⟩
  case round =>
    obtain ⟨i, rfl, hi, hC⟩ := hrel
    obtain ⟨vv, rfl⟩ : ∃ v, v = u7 := ⟨u7, rfl⟩
    obtain ⟨W, rfl⟩ : ∃ W, W = wr := ⟨wr, rfl⟩
    have HZ : Hid _ := hC.out
    clear hC
    have HWB : Hid (Below w.heap.size w W) := HB3.out.trans (HZ.out.b.mono HB3.out.size)
    have HMW : Hid _ := HM3.out.below HZ.out.b
    by_cases hlt : i < m
    · obtain ⟨a, ha⟩ : ∃ a, C i = a := ⟨_, rfl⟩
      have hab : a < big := by rw [← ha]; exact HCS.out.b i hlt
      have HA : Hid _ := ha
      clear ha
      go_wp2
      refine walk_anyA (S := fun w' => Ns w' (some ⟨sg, so, none⟩) m sg so C ∧ Mm w' [(w2.heap.size, [.int .u64 (wd r 0), .int .u64 (wd r 1), .int .u64 (wd r 2), .int .u64 (wd r 3), .int .u64 (wd r 4), .int .u64 (wd r 5)])]) 15 [.quiet (.slice (some ⟨sg, so, none⟩) m c), .quiet (.int .i64 (i : Int)), .quiet (PT sg (so + i * 6)), .quiet (N a), .quiet (N r), .call (.tuple #[N (a / r), N (a % r), .int .i64 0]), .quiet (.tuple #[N (a / r), N (a % r), .int .i64 0]), .quiet (N (a / r)), .quiet (N (a % r)), .quiet (.int .i64 0), .made zero6 33, .made zero6 33, .laid 10 zero6 (cells6 (a / r)), .laid 11 zero6 (cells6 (a % r)), .quiet (.int .i64 0)] (fun w' hb => ⟨(HCS.out.below HWB.out).below hb, HMW.out.below hb⟩) ?ho ?he (hL := ?hL)
      case hL => exact ⟨⟨_, rfl⟩, ⟨_, rfl⟩, trivial⟩
      case ho => exact ak (fun _ => ⟨rfl, fun _ _ => rfl⟩) (ak (fun _ => ⟨rfl, fun _ _ => rfl⟩) (ak (by refine fun γ => ⟨rfl, fun w' h => ?_⟩; clear h; go_simp) (ak (by
        refine fun γ => ⟨rfl, fun u h => ?_⟩
        have hk := h.1.c i hlt
        rw [HA.out] at hk
        have d0 : u.cell? ⟨sg, so + i * 6, none⟩ = _ := hk 0 (by decide)
        have d1 : u.cell? ⟨sg, so + i * 6 + 1, none⟩ = _ := hk 1 (by decide)
        have d2 : u.cell? ⟨sg, so + i * 6 + 2, none⟩ = _ := hk 2 (by decide)
        have d3 : u.cell? ⟨sg, so + i * 6 + 3, none⟩ = _ := hk 3 (by decide)
        have d4 : u.cell? ⟨sg, so + i * 6 + 4, none⟩ = _ := hk 4 (by decide)
        have d5 : u.cell? ⟨sg, so + i * 6 + 5, none⟩ = _ := hk 5 (by decide)
        clear h hk
        go_simp) (ak (fun γ => ⟨rfl, fun w' h => ex_load6 h.2 0 rfl rfl rfl rfl⟩) (ak (fun γ => ⟨rfl, fun w' h => ⟨21, #[N a, N r], exec_call rfl (fun _ _ => rfl) rfl (by simp only [List.map_toArray, List.map_cons, List.map_nil]; rfl), divide_some a r hab HSU.out.ok.big (Nat.ne_of_gt HSU.out.ok.pos) w'⟩⟩) (ak (fun _ => ⟨rfl, fun _ _ => rfl⟩) (ak (by refine fun γ => ⟨rfl, fun w' h => ?_⟩; clear h; go_simp) (ak (by refine fun γ => ⟨rfl, fun w' h => ?_⟩; clear h; go_simp) (ak (by refine fun γ => ⟨rfl, fun w' h => ?_⟩; clear h; go_simp) (ak (fun γ => ⟨rfl, fun w' => exec_made6 rfl⟩) (ak (fun γ => ⟨rfl, fun w' => exec_made6 rfl⟩) (ak (fun γ => ⟨rfl, rfl, rfl, fun w' h => exec_laid6 h rfl rfl rfl⟩) (ak (fun γ => ⟨rfl, rfl, rfl, fun w' h => exec_laid6 h rfl rfl rfl⟩) (ak (fun _ => ⟨rfl, fun _ _ => rfl⟩) trivial))))))))))))))
      intro γ w7 l hM hl
      have M7 : Hid (Mm w7 [(γ 11, cells6 (a % r)), (w2.heap.size, [.int .u64 (wd r 0), .int .u64 (wd r 1), .int .u64 (wd r 2), .int .u64 (wd r 3), .int .u64 (wd r 4), .int .u64 (wd r 5)])]) := HMW.out.grow hM (Nat.le_refl _) hl [11] rfl (by decide)
      have HZ7 : Hid _ := HZ.out.step hM.below
      clear hM hl
      generalize γ 11 = q at M7 ⊢
      clear HZ HMW HWB
      obtain ⟨x, hx⟩ : ∃ x, a % r = x := ⟨_, rfl⟩
      rw [hx] at M7 ⊢
      have HX : Hid _ := hx
      clear hx
      obtain ⟨va, wa, hra, hza⟩ := HZ7.out.app (x := x) (by rw [scl_len]; omega) 23
      have HRA : Hid _ := hra
      have HZA : Hid (Zr w3 va (scl r C (i + 1)) wa) := by rw [← scl_snoc, HA.out, HX.out]; exact hza
      clear hra hza
      have c0_0 := M7.out.get 0 rfl 0 rfl
      have c0_1 := M7.out.get 0 rfl 1 rfl
      have c0_2 := M7.out.get 0 rfl 2 rfl
      have c0_3 := M7.out.get 0 rfl 3 rfl
      have c0_4 := M7.out.get 0 rfl 4 rfl
      have c0_5 := M7.out.get 0 rfl 5 rfl
      refine rest0 rfl (then_normal ?_)
      go_wp2_with (first
        | (at_builtin; refine wpl_app rfl _ _ 23 rfl vv (.slice (some ⟨w7.heap.size, 0, none⟩) 1 1) va rfl rfl HRA.out ?_)
        | fail)
      go_roundw
      case rel => exact ⟨i + 1, by simp, by omega, HZA.out⟩
      case measure => simp [RowKit.intOf]; omega
    · obtain rfl : i = m := by omega
      obtain ⟨g, c', rfl, _, hn⟩ := HZ.out.ns (by rw [scl_len]; exact hm0) (fun x hx => by
        unfold scl at hx
        obtain ⟨j, _, rfl⟩ := List.mem_map.1 hx
        exact lt_big HSU.out.ok (Nat.mod_lt _ HSU.out.ok.pos))
      have HN : Hid _ := hn
      clear hn
      have hl := scl_len r C i
      rw [hl]
      clear hl
      go_wp2
      go_ret
      exact ⟨g, c', rfl, HWB.out, by
        have h := HN.out
        rw [scl_len] at h
        exact ⟨h.p, fun j hj k hk => by have := h.c j hj k hk; rwa [scl_get r C hj] at this, fun j hj => by have := h.b j hj; rwa [scl_get r C hj] at this⟩⟩
end Sh
end Rg
end Go.Proofs.YtkkloakcphigeaaDoor
end
section
namespace Go.Proofs.YtkkloakcphigeaaDoor
open Go.RowKit
namespace Rg
namespace Sh
set_option maxRecDepth 100000
/-- A list of small numbers, counted by a function. -/
def lst (X : Nat → Nat) (i : Nat) : List Nat := (List.range i).map X
theorem lst_len (X : Nat → Nat) (i : Nat) : (lst X i).length = i := by unfold lst; simp
theorem lst_snoc (X : Nat → Nat) (i : Nat) : lst X i ++ [X i] = lst X (i + 1) := by unfold lst; rw [List.range_succ, List.map_append]; rfl
theorem lst_get (X : Nat → Nat) {m i : Nat} (h : i < m) : (lst X m).getD i 0 = X i := by unfold lst; rw [List.getD_eq_getElem?_getD, List.getElem?_map, List.getElem?_range h]; rfl
set_option maxHeartbeats 2000000 in
/-- Small numbers as scalars. -/
theorem small_ok {m g : Nat} {X : Nat → Nat} (hm0 : 0 < m) (hm : m ≤ 64) (hX : ∀ i, i < m → X i < 1000) (w : World) (hg : g < w.heap.size) (hc : ∀ i, i < m → w.cell? ⟨g, i, none⟩ = some (.int .u64 (X i : Int))) :
    Calls Tryd.prog 17 #[.slice (some ⟨g, 0, none⟩) m m] w fun e w' => ∃ g' c', e = .returned (.slice (some ⟨g', 0, none⟩) m c') ∧ Below w.heap.size w w' ∧ Ns w' (some ⟨g', 0, none⟩) m g' 0 X := by
  have HC : Hid _ := hc
  clear hc
  go_enter Tryd.func17, Tryd.ntmps17
  go_wp2
  go_loopw [3, 4] (fun v3 v4 wr => ∃ i : Nat, v4 = .int .i64 (i : Int) ∧ i ≤ m ∧ Hid (Zr w v3 (lst X i) wr))
    (fun _ v4 _ => m - (RowKit.intOf v4).toNat)
  case atStart => exact ⟨0, rfl, Nat.zero_le _, Zr.start (Below.refl _ _)⟩
  case round =>
    obtain ⟨i, rfl, hi, hC⟩ := hrel
    obtain ⟨vv, rfl⟩ : ∃ v, v = u3 := ⟨u3, rfl⟩
    obtain ⟨W, rfl⟩ : ∃ W, W = wr := ⟨wr, rfl⟩
    have HZ : Hid _ := hC.out
    clear hC
    by_cases hlt : i < m
    · obtain ⟨a, ha⟩ : ∃ a, X i = a := ⟨_, rfl⟩
      have ha1 : a < 1000 := by rw [← ha]; exact hX i hlt
      have hcell : W.cell? ⟨g, i, none⟩ = some (.int .u64 (a : Int)) := by rw [← ha]; exact (HZ.out.b.cell (p := ⟨g, i, none⟩) hg).trans (HC.out i hlt)
      have HA : Hid _ := ha
      clear ha
      go_wp2_with (first
        | (go_at_call 18
           refine Calls.mono (of_any a (by omega) W) ?_
           rintro e w7 ⟨rfl, h7⟩
           have HZ7 : Hid _ := HZ.out.step h7
           obtain ⟨va, wa, hra, hza⟩ := HZ7.out.app (x := a) (by rw [lst_len]; omega) 23
           have HRA : Hid _ := hra
           have HZA : Hid (Zr w va (lst X (i + 1)) wa) := by rw [← lst_snoc, HA.out]; exact hza
           clear hra hza h7)
        | (at_builtin; refine wpl_app rfl _ _ 23 rfl vv (.slice (some ⟨w7.heap.size, 0, none⟩) 1 1) va rfl rfl HRA.out ?_)
        | fail)
      go_roundw
      case rel => exact ⟨i + 1, by simp, by omega, HZA.out⟩
      case measure => simp [RowKit.intOf]; omega
    · obtain rfl : i = m := by omega
      obtain ⟨g', c', rfl, _, hn⟩ := HZ.out.ns (by rw [lst_len]; exact hm0) (fun x hx => by
        unfold lst at hx
        obtain ⟨j, hj, rfl⟩ := List.mem_map.1 hx
        exact small_big _ (by have := hX j (List.mem_range.1 hj); omega))
      have HN : Hid _ := hn
      have HWB : Hid _ := HZ.out.b
      clear hn
      have hl := lst_len X i
      rw [hl]
      clear hl
      go_wp2
      go_ret
      exact ⟨g', c', rfl, HWB.out, by
        have h := HN.out
        rw [lst_len] at h
        exact ⟨h.p, fun j hj k hk => by have := h.c j hj k hk; rwa [lst_get X hj] at this, fun j hj => by have := h.b j hj; rwa [lst_get X hj] at this⟩⟩
set_option maxHeartbeats 1000000 in
/-- How many may be false: of 4 and of 3. -/
theorem faults4 (w : World) : Calls Tryd.prog 19 #[.int .i64 4] w fun e w' => e = .returned (.int .i64 1) ∧ Below w.heap.size w w' := by
  go_enter Tryd.func19, Tryd.ntmps19
  go_wp2
  go_ret
  exact ⟨rfl, Below.refl _ _⟩
theorem faults3 (w : World) : Calls Tryd.prog 19 #[.int .i64 3] w fun e w' => e = .returned (.int .i64 0) ∧ Below w.heap.size w w' := by
  go_enter Tryd.func19, Tryd.ntmps19
  go_wp2
  go_ret
  exact ⟨rfl, Below.refl _ _⟩
end Sh
end Rg
end Go.Proofs.YtkkloakcphigeaaDoor
end
section
namespace Go.Proofs.YtkkloakcphigeaaDoor
namespace Rg
namespace Sh
set_option maxRecDepth 100000
/-! Polynomials over a prime field, by their coefficients: no program in it. -/
section
variable {r : Nat} [NeZero r]
/-- A polynomial's value. -/
def pe : List (Fin r) → Fin r → Fin r
  | [], _ => 0
  | c :: t, x => pe t x * x + c
theorem quo : ∀ (l : List (Fin r)) (a : Fin r), ∃ q : List (Fin r), q.length ≤ l.length - 1 ∧ ∀ x, pe l x = (x - a) * pe q x + pe l a
  | [], a => ⟨[], Nat.le_refl _, fun x => by unfold pe; grind⟩
  | [c], a => ⟨[], Nat.le_refl _, fun x => by simp only [pe]; grind⟩
  | c :: d :: t, a => by
    obtain ⟨q, h1, h2⟩ := quo (d :: t) a
    refine ⟨pe (d :: t) a :: q, by simp only [List.length_cons] at h1 ⊢; omega, fun x => ?_⟩
    have h3 := h2 x
    show pe (d :: t) x * x + c = (x - a) * (pe q x * x + pe (d :: t) a) + (pe (d :: t) a * a + c)
    generalize pe (d :: t) x = P at *
    generalize pe (d :: t) a = A at *
    generalize pe q x = Q at *
    subst h3
    grind
/-- As many roots as coefficients: it is 0. -/
theorem vanish (hz : ∀ a b : Fin r, a * b = 0 → a = 0 ∨ b = 0) : ∀ (xs l : List (Fin r)), xs.Pairwise (fun a b => a ≠ b) → l.length ≤ xs.length → (∀ a ∈ xs, pe l a = 0) → ∀ x, pe l x = 0
  | [], l, _, hl, _, x => by
    cases l with
    | nil => rfl
    | cons c t => simp at hl
  | a :: xs, l, hp, hl, h0, x => by
    obtain ⟨q, h1, h2⟩ := quo l a
    have ha : pe l a = 0 := h0 a (List.mem_cons_self ..)
    have hq : ∀ x, pe q x = 0 := by
      refine vanish hz xs q (List.pairwise_cons.1 hp).2 (by simp only [List.length_cons] at hl; omega) fun b hb => ?_
      have h3 := h2 b
      rw [h0 b (List.mem_cons_of_mem _ hb), ha] at h3
      have h4 : (b - a) * pe q b = 0 := by grind
      rcases hz _ _ h4 with e | e
      · exact absurd (show a = b by grind) ((List.pairwise_cons.1 hp).1 b hb)
      · exact e
    have h3 := h2 x
    rw [ha, hq x] at h3
    grind
/-- f is a polynomial of at most n coefficients. -/
def Pol (n : Nat) (f : Fin r → Fin r) : Prop := ∃ m : List (Fin r), m.length ≤ n ∧ ∀ x, pe m x = f x
def padd : List (Fin r) → List (Fin r) → List (Fin r)
  | [], m => m
  | l, [] => l
  | a :: l, b :: m => (a + b) :: padd l m
omit [NeZero r] in
theorem padd_len : ∀ l m : List (Fin r), (padd l m).length ≤ max l.length m.length
  | [], m => by unfold padd; simp
  | a :: l, [] => by unfold padd; simp
  | a :: l, b :: m => by have := padd_len l m; unfold padd; simp only [List.length_cons]; omega
theorem pe_padd (x : Fin r) : ∀ l m : List (Fin r), pe (padd l m) x = pe l x + pe m x
  | [], m => by unfold padd; simp only [pe]; grind
  | a :: l, [] => by unfold padd; simp only [pe]; grind
  | a :: l, b :: m => by have := pe_padd x l m; unfold padd; simp only [pe]; rw [this]; grind
theorem pe_map (c x : Fin r) : ∀ l : List (Fin r), pe (l.map (c * ·)) x = c * pe l x
  | [] => by simp only [List.map_nil, pe]; grind
  | a :: l => by have := pe_map c x l; simp only [List.map_cons, pe]; rw [this]; grind
variable {n m : Nat} {f g : Fin r → Fin r}
theorem Pol.zero : Pol (r := r) n (fun _ => 0) := ⟨[], Nat.zero_le _, fun _ => rfl⟩
theorem Pol.const (c : Fin r) : Pol 1 (fun _ => c) := ⟨[c], Nat.le_refl _, fun x => by simp only [pe]; grind⟩
theorem Pol.le (h : Pol n f) (hn : n ≤ m) : Pol m f := let ⟨l, h1, h2⟩ := h; ⟨l, Nat.le_trans h1 hn, h2⟩
theorem Pol.cg (h : Pol n f) (e : ∀ x, f x = g x) : Pol n g := let ⟨l, h1, h2⟩ := h; ⟨l, h1, fun x => (h2 x).trans (e x)⟩
theorem Pol.add (h : Pol n f) (k : Pol n g) : Pol n (fun x => f x + g x) := by
  obtain ⟨l, h1, h2⟩ := h
  obtain ⟨l', k1, k2⟩ := k
  exact ⟨padd l l', Nat.le_trans (padd_len l l') (by omega), fun x => by rw [pe_padd, h2, k2]⟩
theorem Pol.scale (h : Pol n f) (c : Fin r) : Pol n (fun x => c * f x) := by
  obtain ⟨l, h1, h2⟩ := h
  exact ⟨l.map (c * ·), by simpa using h1, fun x => by rw [pe_map, h2]⟩
theorem Pol.times (h : Pol n f) (a : Fin r) : Pol (n + 1) (fun x => f x * (x - a)) := by
  obtain ⟨l, h1, h2⟩ := h
  refine ⟨padd (0 :: l) (l.map ((-a) * ·)), Nat.le_trans (padd_len _ _) (by simp only [List.length_cons, List.length_map]; omega), fun x => ?_⟩
  rw [pe_padd, pe_map]
  show pe (0 :: l) x + -a * pe l x = f x * (x - a)
  rw [← h2]
  simp only [pe]
  grind
/-- The product over all ids but one. -/
def upT (X : Nat → Fin r) (i : Nat) (x : Fin r) : Nat → Fin r
  | 0 => 1
  | m + 1 => if m = i then upT X i x m else upT X i x m * (x - X m)
theorem up_zero {X : Nat → Fin r} {i j : Nat} (hj : j ≠ i) : ∀ {m : Nat}, j < m → upT X i (X j) m = 0
  | m + 1, h => by
    unfold upT
    by_cases e : m = j
    · subst e
      rw [if_neg hj]
      grind
    · have := up_zero (X := X) hj (m := m) (by omega)
      split
      · exact this
      · rw [this]; grind
theorem up_ne (hz : ∀ a b : Fin r, a * b = 0 → a = 0 ∨ b = 0) (h1 : (1 : Fin r) ≠ 0) {X : Nat → Fin r} {i : Nat} {x : Fin r} : ∀ {m : Nat}, (∀ j, j < m → j ≠ i → x ≠ X j) → upT X i x m ≠ 0
  | 0, _ => h1
  | m + 1, h => by
    have ih := up_ne hz h1 (m := m) fun j hj hi => h j (by omega) hi
    unfold upT
    split
    · exact ih
    · rename_i hm
      intro e
      rcases hz _ _ e with e | e
      · exact ih e
      · exact h m (by omega) hm (by grind)
theorem up_pol (X : Nat → Fin r) (i : Nat) : ∀ m : Nat, Pol (if i < m then m else m + 1) (fun x => upT X i x m)
  | 0 => Pol.const 1
  | m + 1 => by
    have ih := up_pol X i m
    by_cases e : m = i
    · subst e
      rw [if_neg (Nat.lt_irrefl _)] at ih
      rw [if_pos (Nat.lt_succ_self _)]
      exact ih.cg fun x => by show _ = if m = m then upT X m x m else _; rw [if_pos rfl]
    · have h2 := ih.times (X m)
      refine (h2.le ?_).cg fun x => by show _ = upT X i x (m + 1); conv => rhs; unfold upT; rw [if_neg e]
      split
      · rw [if_pos (by omega)]; omega
      · rw [if_neg (by omega)]; omega
/-- The sum of values times their factors. -/
def sumT (f : Nat → Fin r) : Nat → Fin r
  | 0 => 0
  | m + 1 => sumT f m + f m
theorem sumT_cg {f g : Nat → Fin r} : ∀ {m : Nat}, (∀ i, i < m → f i = g i) → sumT f m = sumT g m
  | 0, _ => rfl
  | m + 1, h => by unfold sumT; rw [sumT_cg fun i hi => h i (by omega), h m (by omega)]
theorem sumT_one {f : Nat → Fin r} {j : Nat} (h : ∀ i, i ≠ j → f i = 0) : ∀ {m : Nat}, sumT f m = if j < m then f j else 0
  | 0 => rfl
  | m + 1 => by
    have ih := sumT_one h (m := m)
    unfold sumT
    rw [ih]
    by_cases e : m = j
    · subst e
      rw [if_neg (Nat.lt_irrefl _), if_pos (Nat.lt_succ_self _)]
      grind
    · rw [h m e]
      by_cases c : j < m
      · rw [if_pos c, if_pos (by omega)]; grind
      · rw [if_neg c, if_neg (by omega)]; grind
theorem sumT_pol {k : Nat} {f : Nat → Fin r → Fin r} : ∀ m : Nat, (∀ i, i < m → Pol k (f i)) → Pol k (fun x => sumT (fun i => f i x) m)
  | 0, _ => Pol.zero
  | m + 1, h => ((sumT_pol m fun i hi => h i (by omega)).add (h m (by omega))).cg fun x => rfl
/-- As many values as coefficients say all. -/
theorem interp (hz : ∀ a b : Fin r, a * b = 0 → a = 0 ∨ b = 0) (h1 : (1 : Fin r) ≠ 0) (iv : Fin r → Fin r) (hiv : ∀ a, a ≠ 0 → iv a * a = 1) (X : Nat → Fin r) (k : Nat) (hX : ∀ i j, i < k → j < k → i ≠ j → X i ≠ X j) (l : List (Fin r)) (hl : l.length ≤ k) (x : Fin r) :
    sumT (fun i => upT X i x k * iv (upT X i (X i) k) * pe l (X i)) k = pe l x := by
  have hP : Pol k (fun x => sumT (fun i => upT X i x k * iv (upT X i (X i) k) * pe l (X i)) k + (0 - 1) * pe l x) := by
    refine Pol.add (sumT_pol k fun i hi => ?_) (Pol.scale ⟨l, hl, fun _ => rfl⟩ _)
    have h2 := up_pol X i k
    rw [if_pos hi] at h2
    exact (h2.scale (iv (upT X i (X i) k) * pe l (X i))).cg fun x => by grind
  obtain ⟨q, q1, q2⟩ := hP
  have hq : ∀ x, pe q x = 0 := by
    refine vanish hz ((List.range k).map X) q ?_ (by simpa using q1) fun a ha => ?_
    · rw [List.pairwise_map]
      refine List.Pairwise.imp_of_mem ?_ List.nodup_range
      intro i j hi hj hne
      exact hX i j (List.mem_range.1 hi) (List.mem_range.1 hj) hne
    · obtain ⟨j, hj, rfl⟩ := List.mem_map.1 ha
      have hj := List.mem_range.1 hj
      rw [q2]
      have e1 : sumT (fun i => upT X i (X j) k * iv (upT X i (X i) k) * pe l (X i)) k = pe l (X j) := by
        rw [sumT_one (j := j) fun i hi => by rw [up_zero (Ne.symm hi) hj]; grind, if_pos hj]
        have h3 := hiv _ (up_ne hz h1 (X := X) (i := j) (x := X j) (m := k) fun i hi hne => hX j i hj hi (Ne.symm hne))
        grind
      dsimp only
      rw [e1]
      grind
  have h3 := q2 x
  rw [hq x] at h3
  grind
/-- Differences, divided. -/
def dvT (iv : Fin r → Fin r) (X Y : Nat → Fin r) : Nat → Nat → Fin r
  | 0, i => Y i
  | s + 1, i => (dvT iv X Y s i - dvT iv X Y s (i - 1)) * iv (X i - X (i - (s + 1)))
theorem dv_rule {iv : Fin r → Fin r} (hiv : ∀ a, a ≠ 0 → iv a * a = 1) {X Y R : Nat → Fin r} {k : Nat} (hX : ∀ i j, i < k → j < k → i ≠ j → X i ≠ X j) (c : Fin r) (hY : ∀ i, i < k → Y i = R i * X i + c) :
    ∀ s i, s + 1 ≤ i → i < k → dvT iv X Y (s + 1) i = X i * dvT iv X R (s + 1) i + dvT iv X R s (i - 1)
  | 0, i, h, hi => by
    have hv := hiv (X i - X (i - 1)) (fun e => hX i (i - 1) hi (by omega) (by omega) (by grind))
    show (Y i - Y (i - 1)) * iv (X i - X (i - 1)) = X i * ((R i - R (i - 1)) * iv (X i - X (i - 1))) + R (i - 1)
    rw [hY i hi, hY (i - 1) (by omega)]
    generalize iv (X i - X (i - 1)) = v at *
    grind
  | s + 1, i, h, hi => by
    have hv := hiv (X i - X (i - (s + 2))) (fun e => hX i (i - (s + 2)) hi (by omega) (by omega) (by grind))
    have hw := hiv (X (i - 1) - X (i - (s + 2))) (fun e => hX (i - 1) (i - (s + 2)) (by omega) (by omega) (by omega) (by grind))
    have h1 := dv_rule hiv hX c hY s i (by omega) hi
    have h2 := dv_rule hiv hX c hY s (i - 1) (by omega) (by omega)
    have h3 : dvT iv X R (s + 1) (i - 1) = (dvT iv X R s (i - 1) - dvT iv X R s (i - 1 - 1)) * iv (X (i - 1) - X (i - (s + 2))) := by
      show (dvT iv X R s (i - 1) - dvT iv X R s (i - 1 - 1)) * iv (X (i - 1) - X (i - 1 - (s + 1))) = _
      rw [show i - 1 - (s + 1) = i - (s + 2) by omega]
    show (dvT iv X Y (s + 1) i - dvT iv X Y (s + 1) (i - 1)) * iv (X i - X (i - (s + 2))) = X i * ((dvT iv X R (s + 1) i - dvT iv X R (s + 1) (i - 1)) * iv (X i - X (i - (s + 2)))) + dvT iv X R (s + 1) (i - 1)
    rw [h1, h2]
    generalize iv (X i - X (i - (s + 2))) = v at *
    generalize iv (X (i - 1) - X (i - (s + 2))) = w at *
    generalize dvT iv X R (s + 1) i = A at *
    generalize dvT iv X R (s + 1) (i - 1) = B at *
    generalize dvT iv X R s (i - 1) = C at *
    generalize dvT iv X R s (i - 1 - 1) = D at *
    generalize X i = xi at *
    generalize X (i - 1) = xj at *
    generalize X (i - (s + 2)) = xk at *
    have h4 : B * (xj - xk) = C - D := by rw [h3]; grind
    grind
/-- The differences of a polynomial's values come to 0. -/
theorem dv_zero {iv : Fin r → Fin r} (hiv : ∀ a, a ≠ 0 → iv a * a = 1) {X : Nat → Fin r} {k : Nat} (hX : ∀ i j, i < k → j < k → i ≠ j → X i ≠ X j) :
    ∀ (l : List (Fin r)) (Y : Nat → Fin r), (∀ i, i < k → Y i = pe l (X i)) → ∀ s i, l.length ≤ s → s ≤ i → i < k → dvT iv X Y s i = 0
  | [], Y, hY, s, i, _, hs, hi => by
    have hz : ∀ s i, s ≤ i → i < k → dvT iv X Y s i = 0 := by
      intro s
      induction s with
      | zero => intro i _ hi; exact hY i hi
      | succ s ih =>
        intro i hs hi
        show (dvT iv X Y s i - dvT iv X Y s (i - 1)) * _ = 0
        rw [ih i (by omega) hi, ih (i - 1) (by omega) (by omega)]
        grind
    exact hz s i hs hi
  | c :: t, Y, hY, s, i, hl, hs, hi => by
    cases s with
    | zero => simp at hl
    | succ s =>
      simp only [List.length_cons] at hl
      rw [dv_rule hiv hX (R := fun i => pe t (X i)) c (fun i hi => hY i hi) s i hs hi, dv_zero hiv hX t (fun i => pe t (X i)) (fun _ _ => rfl) (s + 1) i (by omega) hs hi, dv_zero hiv hX t (fun i => pe t (X i)) (fun _ _ => rfl) s (i - 1) (by omega) (by omega) (by omega)]
      grind
end
end Sh
end Rg
end Go.Proofs.YtkkloakcphigeaaDoor
end
section
namespace Go.Proofs.YtkkloakcphigeaaDoor
open Go.RowKit
namespace Rg
namespace Sh
set_option maxRecDepth 100000
section
variable {r : Nat} [NeZero r]
/-- A number in the field. -/
def T (a : Nat) : Fin r := Fin.ofNat r a
theorem T_val (a : Nat) : (T a : Fin r).val = a % r := rfl
theorem T_eq {a b : Nat} (h : a % r = b % r) : (T a : Fin r) = T b := Fin.ext h
theorem T_mod (a : Nat) : (T (a % r) : Fin r) = T a := T_eq (Nat.mod_mod _ _)
theorem T_add (a b : Nat) : (T (a + b) : Fin r) = T a + T b := Fin.ext (by rw [Fin.val_add, T_val, T_val, T_val, ← Nat.add_mod])
theorem T_mul (a b : Nat) : (T (a * b) : Fin r) = T a * T b := Fin.ext (by rw [Fin.val_mul, T_val, T_val, T_val, ← Nat.mul_mod])
theorem T_sub (a b : Nat) : (T (subm r a b) : Fin r) = T a - T b := by
  have h : (T (subm r a b) : Fin r) + T b = T a := by
    rw [← T_add]
    refine T_eq ?_
    have hr : 0 < r := Nat.pos_of_neZero r
    unfold subm
    rw [Nat.mod_add_mod]
    have h1 := Nat.mod_lt b hr
    have h2 := Nat.div_add_mod b r
    rw [show a + (r - b % r) + b = a + r * (b / r + 1) by rw [Nat.mul_add]; omega, Nat.add_mul_mod_self_left]
  grind
theorem T_inj {a b : Nat} (ha : a < r) (hb : b < r) (h : (T a : Fin r) = T b) : a = b := by
  have := congrArg Fin.val h
  rwa [T_val, T_val, Nat.mod_eq_of_lt ha, Nat.mod_eq_of_lt hb] at this
theorem T_zero : (T 0 : Fin r) = 0 := rfl
/-- The inverse. -/
def ivF (a : Fin r) : Fin r := T (invm r a.val)
theorem T_inv {a : Nat} (h : a < r) : (T (invm r a) : Fin r) = ivF (T a) := by unfold ivF; rw [T_val, Nat.mod_eq_of_lt h]
omit [NeZero r] in
theorem F_cop (hp : NT.Prm r) {a : Nat} (ha : a < r) (h0 : a ≠ 0) : Nat.gcd r a = 1 := prm_cop hp ha h0
theorem F_hz (hp : NT.Prm r) (a b : Fin r) (h : a * b = 0) : a = 0 ∨ b = 0 := by
  have h1 := congrArg Fin.val h
  rw [Fin.val_mul] at h1
  have h2 : r ∣ a.val * b.val := Nat.dvd_of_mod_eq_zero h1
  rcases hp.mul h2 with h3 | h3
  · exact .inl (Fin.ext (by show a.val = 0; exact Nat.eq_zero_of_dvd_of_lt h3 a.isLt))
  · exact .inr (Fin.ext (by show b.val = 0; exact Nat.eq_zero_of_dvd_of_lt h3 b.isLt))
theorem F_one (ok : Ok r) : (1 : Fin r) ≠ 0 := by
  intro h
  have h1 := congrArg Fin.val h
  have h2 := ok.three
  have e1 : (1 : Fin r).val = 1 % r := rfl
  rw [e1, Nat.mod_eq_of_lt (by omega)] at h1
  cases h1
theorem F_inv (ok : Ok r) (hp : NT.Prm r) (a : Fin r) (h : a ≠ 0) : ivF a * a = 1 := by
  have h0 : a.val ≠ 0 := fun e => h (Fin.ext e)
  obtain ⟨h1, h2⟩ := invm_spec ok (F_cop hp a.isLt h0)
  refine Fin.ext ?_
  have h3 := ok.three
  have e1 : (1 : Fin r).val = 1 % r := rfl
  rw [Fin.val_mul, e1]
  unfold ivF
  rw [T_val, Nat.mod_eq_of_lt h1, h2, Nat.mod_eq_of_lt (by omega)]
theorem T_hT (C : Nat → Nat) (x m : Nat) : ∀ k, k ≤ m → (T (hT r C x m k) : Fin r) = pe ((List.range' (m - k) k).map fun j => T (C j)) (T x)
  | 0, _ => rfl
  | k + 1, h => by
    have ih := T_hT C x m k (by omega)
    show (T ((hT r C x m k * x % r + C (m - 1 - k)) % r) : Fin r) = _
    rw [T_mod, T_add, T_mod, T_mul, ih, show List.range' (m - (k + 1)) (k + 1) = (m - 1 - k) :: List.range' (m - k) k by
      rw [List.range'_succ, show m - (k + 1) = m - 1 - k by omega, show m - 1 - k + 1 = m - k by omega]]
    rfl
theorem T_uN (X : Nat → Nat) (i x : Nat) : ∀ m, (T (uN r X i x m) : Fin r) = upT (fun j => T (X j)) i (T x) m
  | 0 => by unfold uN upT T; rfl
  | m + 1 => by
    have ih := T_uN X i x m
    unfold uN upT
    split
    · exact ih
    · rw [T_mod, T_mul, ih, T_sub]
theorem T_sm (f y : Nat → Nat) : ∀ m, (T (smN r f y m) : Fin r) = sumT (fun i => T (f i) * T (y i)) m
  | 0 => rfl
  | m + 1 => by
    have ih := T_sm f y m
    unfold smN sumT
    rw [T_mod, T_add, T_mod, T_mul, ih]
theorem X_ne {X : Nat → Nat} {k : Nat} (hX : ∀ i, i < k → X i < r) (hne : ∀ i j, i < k → j < k → i ≠ j → X i ≠ X j) : ∀ i j, i < k → j < k → i ≠ j → (T (X i) : Fin r) ≠ T (X j) :=
  fun i j hi hj h e => hne i j hi hj h (T_inj (hX i hi) (hX j hj) e)
/-- No factor of the product is 0. -/
theorem un_cop (ok : Ok r) (hp : NT.Prm r) {X : Nat → Nat} {k : Nat} (hX : ∀ i, i < k → X i < r) (hne : ∀ i j, i < k → j < k → i ≠ j → X i ≠ X j) (q : Nat) (hq : q < k) : Nat.gcd r (uN r X q (X q) k) = 1 := by
  refine F_cop hp (uN_lt ok X q (X q) k) fun e => ?_
  have h1 := T_uN (r := r) X q (X q) k
  rw [e, T_zero] at h1
  exact up_ne (F_hz hp) (F_one ok) (X := fun j => (T (X j) : Fin r)) (i := q) (x := T (X q)) (m := k) (fun j hj h => X_ne hX hne q j hq hj (Ne.symm h)) h1.symm
theorem sub_cop (hp : NT.Prm r) {x y : Nat} (hx : x < r) (hy : y < r) (h : x ≠ y) : Nat.gcd r (subm r x y) = 1 := by
  refine F_cop hp (Nat.mod_lt _ hp.pos) fun e => h (T_inj hx hy ?_)
  have h1 := T_sub (r := r) x y
  rw [e, T_zero] at h1
  grind
/-- The coefficients in the field. -/
def cfs (r : Nat) [NeZero r] (C : Nat → Nat) (m : Nat) : List (Fin r) := (List.range' 0 m).map fun j => T (C j)
omit [NeZero r] in
theorem cfs_len [NeZero r] (C : Nat → Nat) (m : Nat) : (cfs r C m).length = m := by unfold cfs; simp
theorem T_val_at (C : Nat → Nat) (x m : Nat) : (T (hT r C x m m) : Fin r) = pe (cfs r C m) (T x) := by
  rw [T_hT C x m m (Nat.le_refl _), Nat.sub_self]
  rfl
/-- As many shares as coefficients say the value. -/
theorem join_val (ok : Ok r) (hp : NT.Prm r) {X Y C : Nat → Nat} {k m : Nat} (hmk : m ≤ k) (hX : ∀ i, i < k → X i < r) (hne : ∀ i j, i < k → j < k → i ≠ j → X i ≠ X j) (hY : ∀ i, i < k → Y i = hT r C (X i) m m) (x : Nat) : smN r (lgN r X k x) Y k = hT r C x m m := by
  refine T_inj (smN_lt ok _ _ _) (hT_lt ok _ _ _ _) ?_
  rw [T_sm, T_val_at, ← interp (F_hz hp) (F_one ok) ivF (F_inv ok hp) (fun j => T (X j)) k (X_ne hX hne) (cfs r C m) (by rw [cfs_len]; exact hmk) (T x)]
  refine sumT_cg fun i hi => ?_
  rw [hY i hi, T_val_at]
  unfold lgN
  rw [T_mod, T_mul, T_uN, T_inv (uN_lt ok _ _ _ _), T_uN]
theorem T_dN (ok : Ok r) (X Y : Nat → Nat) : ∀ s j, s ≤ j → (T (dN r X Y s j) : Fin r) = dvT ivF (fun j => T (X j)) (fun j => T (Y j)) s j
  | 0, _, _ => rfl
  | s + 1, j, h => by
    unfold dN dvT
    rw [if_neg (by omega), T_mod, T_mul, T_sub, T_dN ok X Y s j (by omega), T_dN ok X Y s (j - 1) (by omega), T_inv (subm_lt_n ok.pos _ _), T_sub]
/-- All the shares' degree. -/
theorem deg_le (ok : Ok r) (hp : NT.Prm r) {X Y C : Nat → Nat} {k m : Nat} (hX : ∀ i, i < k → X i < r) (hne : ∀ i j, i < k → j < k → i ≠ j → X i ≠ X j) (hY : ∀ i, i < k → Y i = hT r C (X i) m m) : ∀ s, s < k → dgN r X Y s ≤ m - 1
  | 0, _ => Nat.zero_le _
  | s + 1, h => by
    have ih := deg_le ok hp hX hne hY s (by omega)
    unfold dgN
    split
    · exact ih
    · rename_i h0
      by_cases hm : s + 1 ≤ m - 1
      · exact hm
      · refine absurd (T_inj (dN_lt ok (fun i hi => by rw [hY i hi]; exact hT_lt ok _ _ _ _) (s + 1) (s + 1) h) ok.pos ?_) h0
        rw [T_dN ok X Y (s + 1) (s + 1) (Nat.le_refl _), dv_zero (F_inv ok hp) (X_ne hX hne) (cfs r C m) (fun j => T (Y j)) (fun i hi => by rw [hY i hi]; exact T_val_at C (X i) m) (s + 1) (s + 1) (by rw [cfs_len]; omega) (Nat.le_refl _) h]
        rfl
end
end Sh
end Rg
end Go.Proofs.YtkkloakcphigeaaDoor
end
section
namespace Go.Proofs.YtkkloakcphigeaaDoor
open Go.RowKit
namespace Rg
namespace Sh
set_option maxRecDepth 100000
def x532 (i : Nat) : Nat := [5, 3, 2].getD i 0
def x53 (i : Nat) : Nat := [5, 3].getD i 0
def x13 (i : Nat) : Nat := [1, 3].getD i 0
def x814 (i : Nat) : Nat := [8, 14].getD i 0
theorem aw_hT : hT 65521 x532 2 3 3 = 19 := by decide
theorem x13_ne (i j : Nat) (hi : i < 2) (hj : j < 2) (h : i ≠ j) : x13 i ≠ x13 j := by
  have h2 : ∀ i j : Fin 2, i ≠ j → x13 i.val ≠ x13 j.val := by decide
  exact h2 ⟨i, hi⟩ ⟨j, hj⟩ (by simpa [Fin.ext_iff] using h)
theorem aw_join : smN 65521 (lgN 65521 x13 2 0) x814 2 = 5 :=
  (join_val su_little.ok NT.prm_65521 (C := x53) (m := 2) (Nat.le_refl 2) (by decide) x13_ne (by decide) 0).trans (by decide)
theorem box_u3 (w : World) (t : TypeId) : ∀ i, i < 3 → (w.alloc (.cells #[.int .u64 5, .int .u64 3, .int .u64 2] t)).cell? ⟨w.heap.size, i, none⟩ = some (.int .u64 (x532 i : Int))
  | 0, _ => box_at w _ t 0
  | 1, _ => box_at w _ t 1
  | 2, _ => box_at w _ t 2
theorem box_u2 (w : World) (t : TypeId) : ∀ i, i < 2 → (w.alloc (.cells #[.int .u64 8, .int .u64 14] t)).cell? ⟨w.heap.size, i, none⟩ = some (.int .u64 (x814 i : Int))
  | 0, _ => box_at w _ t 0
  | 1, _ => box_at w _ t 1
theorem box_i2 (w : World) (t : TypeId) : Is (w.alloc (.cells #[.int .i64 1, .int .i64 3] t)) (some ⟨w.heap.size, 0, none⟩) 2 w.heap.size 0 x13 :=
  ⟨fun _ => ⟨rfl, by rw [World.size_alloc]; omega⟩, fun i hi => by
    match i, hi with
    | 0, _ => exact box_at w _ t 0
    | 1, _ => exact box_at w _ t 1⟩
set_option maxHeartbeats 400000 in
/-- What the document's examples say. -/
theorem awake_ok (w : World) (hm : Mm w [(2, dtab)]) : Calls Tryd.prog 5 #[] w fun e w' => e = .returned (.bool true) ∧ Below w.heap.size w w' := by
  have HM : Hid _ := hm
  obtain ⟨w1, e1⟩ : ∃ w1, (w.alloc (.cells #[.int .u64 5, .int .u64 3, .int .u64 2] 31)) = w1 := ⟨_, rfl⟩
  have hb1 : Below w.heap.size w w1 := bl_new (Below.refl _ _) (Nat.le_refl _) e1
  have hc1 : ∀ i, i < 3 → w1.cell? ⟨w.heap.size, i, none⟩ = some (.int .u64 (x532 i : Int)) := by rw [← e1]; exact box_u3 w 31
  have hz1 : w.heap.size < w1.heap.size := by rw [sz_new e1]; omega
  have HC1 : Hid _ := hc1
  have HB1 : Hid _ := hb1
  clear hc1 hb1 hm
  go_enter Tryd.func5, Tryd.ntmps5
  go_wp2_with (first
    | (go_at_call 17
       refine Calls.mono (small_ok (m := 2) (X := x814) (by decide) (by decide) (by decide) w6 hz6 HC6.out) ?_
       rintro e w7 ⟨g7, c7, rfl, h7, hn7⟩
       have HN7 : Hid _ := hn7
       have HM7 : Hid _ := HM6.out.below h7
       have HI7 : Hid _ := HI6.out.below h7
       have HB7 : Hid _ := HB6.out.trans (h7.mono HB6.out.size)
       clear h7 hn7)
    | (go_at_call 17
       refine Calls.mono (small_ok (m := 3) (X := x532) (by decide) (by decide) (by decide) w1 hz1 HC1.out) ?_
       rintro e w2 ⟨g2, c2, rfl, h2, hn2⟩
       have HN2 : Hid _ := hn2
       have HB2 : Hid _ := HB1.out.trans (h2.mono HB1.out.size)
       clear h2 hn2)
    | (go_at_call 11
       refine Calls.mono (Value_ok su_little 2 (by decide) (by decide) (by decide) w2 HN2.out) ?_
       rintro e w3 ⟨rfl, h3⟩
       rw [aw_hT]
       have HB3 : Hid _ := HB2.out.trans (h3.mono HB2.out.size)
       obtain ⟨w4, e4⟩ : ∃ w4, (w3.alloc (.cells #[.int .u64 (wd 19 0), .int .u64 (wd 19 1), .int .u64 (wd 19 2), .int .u64 (wd 19 3), .int .u64 (wd 19 4), .int .u64 (wd 19 5)] 33)) = w4 := ⟨_, rfl⟩
       have HM4 : Hid _ := mm_new (HM.out.below HB3.out) [.int .u64 (wd 19 0), .int .u64 (wd 19 1), .int .u64 (wd 19 2), .int .u64 (wd 19 3), .int .u64 (wd 19 4), .int .u64 (wd 19 5)] 33 e4 rfl
       have HB4 : Hid (Below w.heap.size w w4) := bl_new HB3.out HB3.out.size e4
       obtain ⟨w5, e5⟩ : ∃ w5, (w4.alloc (.cells #[.int .i64 1, .int .i64 3] 3)) = w5 := ⟨_, rfl⟩
       have hi5 : Is w5 (some ⟨w4.heap.size, 0, none⟩) 2 w4.heap.size 0 x13 := by rw [← e5]; exact box_i2 w4 3
       obtain ⟨w6, e6⟩ : ∃ w6, (w5.alloc (.cells #[.int .u64 8, .int .u64 14] 31)) = w6 := ⟨_, rfl⟩
       have hc6 : ∀ i, i < 2 → w6.cell? ⟨w5.heap.size, i, none⟩ = some (.int .u64 (x814 i : Int)) := by rw [← e6]; exact box_u2 w5 31
       have hz6 : w5.heap.size < w6.heap.size := by rw [sz_new e6]; omega
       have hb45 : Below w4.heap.size w4 w5 := bl_new (Below.refl _ _) (Nat.le_refl _) e5
       have hb56 : Below w5.heap.size w5 w6 := bl_new (Below.refl _ _) (Nat.le_refl _) e6
       have HI6 : Hid _ := hi5.below hb56
       have hb46 : Below w4.heap.size w4 w6 := hb45.trans (hb56.mono hb45.size)
       have HM6 : Hid _ := HM4.out.below hb46
       have HB6 : Hid _ := HB4.out.trans (hb46.mono HB4.out.size)
       have HC6 : Hid _ := hc6
       clear hi5 hc6 hb45 hb56 hb46 h3)
    | (go_at_call 10
       refine Calls.mono (Join_ok su_little 0 (by decide) (by decide) (by decide) x13_ne (by decide) (fun q hq => un_cop su_little.ok NT.prm_65521 (X := x13) (k := 2) (by decide) x13_ne q hq) w7 HM7.out.tail HI7.out HN7.out) ?_
       rintro e w8 ⟨rfl, h8⟩
       rw [aw_join]
       have HB8 : Hid _ := HB7.out.trans (h8.mono HB7.out.size)
       obtain ⟨w9, e9⟩ : ∃ w9, (w8.alloc (.cells #[.int .u64 (wd 5 0), .int .u64 (wd 5 1), .int .u64 (wd 5 2), .int .u64 (wd 5 3), .int .u64 (wd 5 4), .int .u64 (wd 5 5)] 33)) = w9 := ⟨_, rfl⟩
       have HM9 : Hid _ := mm_new (HM7.out.below h8) [.int .u64 (wd 5 0), .int .u64 (wd 5 1), .int .u64 (wd 5 2), .int .u64 (wd 5 3), .int .u64 (wd 5 4), .int .u64 (wd 5 5)] 33 e9 rfl
       have HB9 : Hid (Below w.heap.size w w9) := bl_new HB8.out HB8.out.size e9
       clear h8)
    | fail)
  refine walk_det (by kernel_rfl) 25 [N 19, N 19, .bool true, .bool true, .int .i64 0, .bool true, .bool true, .bool true, N 5, N 5, .bool true, .bool true, .bool true, .int .i64 0, .bool true, .bool true, .bool true, .int .i64 1, .bool true, .bool true, .bool true, .int .i64 0, .bool true, .bool true, .bool true] [none, some 0, none, none, none, none, none, none, none, some 1, none, none, none, none, none, none, none, some 2, none, none, none, some 3, none, none, none] [1, 9, 17, 21]
    (fun _ u => Below w9.heap.size w9 u) ?prez ?Fz ?hprez ?hFz (by kernel_rfl) ?hWz (bdr w9) ?hopz ?hez
  case hprez => simp only [tk, tz]; rfl
  case hFz => simp only [List.map_cons, List.map_nil, fill, Kind.val, Act.put, sa, sz, ss]; rfl
  case hWz => kernel_rfl
  case hopz =>
    refine ⟨fun c _ u hu => ?_, fun u hu => .inr ⟨18, #[.int .u64 19], exec_call rfl (fun _ _ => rfl) rfl (by simp only [List.map_toArray, List.map_cons, List.map_nil]; rfl), ?_⟩, fun c _ u hu => ?_, fun c _ u hu => ?_, fun c _ u hu => ?_, fun c _ u hu => ?_, fun c _ u hu => ?_, fun c _ u hu => ?_, fun c _ u hu => ?_, fun u hu => .inr ⟨18, #[.int .u64 5], exec_call rfl (fun _ _ => rfl) rfl (by simp only [List.map_toArray, List.map_cons, List.map_nil]; rfl), ?_⟩, fun c _ u hu => ?_, fun c _ u hu => ?_, fun c _ u hu => ?_, fun c _ u hu => ?_, fun c _ u hu => ?_, fun c _ u hu => ?_, fun c _ u hu => ?_, fun u hu => .inr ⟨19, #[.int .i64 4], exec_call rfl (fun _ _ => rfl) rfl (by simp only [List.map_toArray, List.map_cons, List.map_nil]; rfl), ?_⟩, fun c _ u hu => ?_, fun c _ u hu => ?_, fun c _ u hu => ?_, fun u hu => .inr ⟨19, #[.int .i64 3], exec_call rfl (fun _ _ => rfl) rfl (by simp only [List.map_toArray, List.map_cons, List.map_nil]; rfl), ?_⟩, fun c _ u hu => ?_, fun c _ u hu => ?_, fun c _ u hu => ?_, trivial⟩
    · have c1_0 := (HM9.out.below hu).get 1 rfl 0 rfl; have c1_1 := (HM9.out.below hu).get 1 rfl 1 rfl; have c1_2 := (HM9.out.below hu).get 1 rfl 2 rfl; have c1_3 := (HM9.out.below hu).get 1 rfl 3 rfl; have c1_4 := (HM9.out.below hu).get 1 rfl 4 rfl; have c1_5 := (HM9.out.below hu).get 1 rfl 5 rfl; clear hu; go_simp
    · exact Calls.mono (of_any 19 (by decide) u) fun e u2 ⟨he, h2⟩ => ⟨he, hu.trans (h2.mono hu.size)⟩
    · have he := eq_refl24 (v := 19) (small_big 19 (by decide)); clear hu; go_simp
    · clear hu; go_simp
    · clear hu; go_simp
    · clear hu; go_simp
    · clear hu; go_simp
    · clear hu; go_simp
    · have c0_0 := (HM9.out.below hu).get 0 rfl 0 rfl; have c0_1 := (HM9.out.below hu).get 0 rfl 1 rfl; have c0_2 := (HM9.out.below hu).get 0 rfl 2 rfl; have c0_3 := (HM9.out.below hu).get 0 rfl 3 rfl; have c0_4 := (HM9.out.below hu).get 0 rfl 4 rfl; have c0_5 := (HM9.out.below hu).get 0 rfl 5 rfl; clear hu; go_simp
    · exact Calls.mono (of_any 5 (by decide) u) fun e u2 ⟨he, h2⟩ => ⟨he, hu.trans (h2.mono hu.size)⟩
    · have he := eq_refl24 (v := 5) (small_big 5 (by decide)); clear hu; go_simp
    · clear hu; go_simp
    · clear hu; go_simp
    · clear hu; go_simp
    · clear hu; go_simp
    · clear hu; go_simp
    · clear hu; go_simp
    · exact Calls.mono (faults4 u) fun e u2 ⟨he, h2⟩ => ⟨he, hu.trans (h2.mono hu.size)⟩
    · clear hu; go_simp
    · clear hu; go_simp
    · clear hu; go_simp
    · exact Calls.mono (faults3 u) fun e u2 ⟨he, h2⟩ => ⟨he, hu.trans (h2.mono hu.size)⟩
    · clear hu; go_simp
    · clear hu; go_simp
    · clear hu; go_simp
  intro u hu
  have HBU : Hid (Below w.heap.size w u) := HB9.out.trans (hu.mono HB9.out.size)
  clear hu
  refine rest0 rfl (then_normal ?_)
  go_wp2
  go_ret
  exact ⟨rfl, HBU.out⟩
end Sh
end Rg
end Go.Proofs.YtkkloakcphigeaaDoor
end
section
namespace Go.Proofs.YtkkloakcphigeaaDoor
open Go.RowKit
namespace Rg
namespace Sh
set_option maxRecDepth 100000
theorem Ri.is {u : World} {v : Value} {L : List Nat} {m : Nat} (h : Ri u v L) (hl : L.length = m) : ∃ g o c, v = .slice (some ⟨g, o, none⟩) m c ∧ Is u (some ⟨g, o, none⟩) m g o (fun i => L.getD i 0) := by
  subst hl
  obtain ⟨g, o, c, h1, h2, _, h3⟩ := h
  refine ⟨g, o, c, h1, fun _ => ⟨rfl, h2⟩, fun i hi => ?_⟩
  rw [h3 i L[i] (List.getElem?_eq_getElem hi), List.getD_eq_getElem?_getD, List.getElem?_eq_getElem hi]
  rfl
theorem nd_ne {L : List Nat} (h : L.Nodup) {i j : Nat} (hi : i < L.length) (hj : j < L.length) (hij : i ≠ j) : L.getD i 0 ≠ L.getD j 0 := by
  rw [List.getD_eq_getElem?_getD, List.getD_eq_getElem?_getD, List.getElem?_eq_getElem hi, List.getElem?_eq_getElem hj]
  exact fun e => hij ((List.getElem_inj h).1 e)
theorem bd_at {L : List Nat} {n : Nat} (h : ∀ x ∈ L, 1 ≤ x ∧ x ≤ n) {i : Nat} (hi : i < L.length) : 1 ≤ L.getD i 0 ∧ L.getD i 0 ≤ n := by
  rw [List.getD_eq_getElem?_getD, List.getElem?_eq_getElem hi]
  exact h _ (List.getElem_mem hi)
theorem all_ids {L t : List Nat} {n : Nat} (h : L ++ t = List.range' 1 n) (hl : L.length = n) {i : Nat} (hi : i < n) : L.getD i 0 = i + 1 := by
  have h0 := congrArg List.length h
  rw [List.length_append, List.length_range', hl] at h0
  obtain rfl := List.eq_nil_of_length_eq_zero (show t.length = 0 by omega)
  rw [List.append_nil] at h
  subst h
  rw [List.getD_eq_getElem?_getD, List.getElem?_range' hi]
  simp [Nat.add_comm]
set_option maxHeartbeats 1000000 in
/-- What no suite, no coefficients or too many of them ask. -/
theorem back_no {s : Int} {p : Option Addr} {m c : Nat} {pb : Option Addr} {mb cb : Nat} (a : Int) (h : s < 0 ∨ 2 < s ∨ m = 0 ∨ 10 < m) (w : World) (hm : Mm w [(2, dtab)]) :
    Calls Tryd.prog 3 #[.int .i64 s, .slice p m c, .slice pb mb cb, .int .i64 a] w fun e w' => e = .returned (.bool true) ∧ Below w.heap.size w w' := by
  by_cases h1 : s < 0
  · go_enter Tryd.func3, Tryd.ntmps3
    go_wp2_with (first
      | (go_at_call 5; refine Calls.mono (awake_ok w hm) ?_; rintro e w1 ⟨rfl, hb1⟩)
      | fail)
    go_ret
    exact ⟨rfl, hb1⟩
  · by_cases h2 : 2 < s
    · go_enter Tryd.func3, Tryd.ntmps3
      go_wp2_with (first
        | (go_at_call 5; refine Calls.mono (awake_ok w hm) ?_; rintro e w1 ⟨rfl, hb1⟩)
        | fail)
      go_ret
      exact ⟨rfl, hb1⟩
    · by_cases h3 : m = 0
      · subst h3
        go_enter Tryd.func3, Tryd.ntmps3
        go_wp2_with (first
          | (go_at_call 5; refine Calls.mono (awake_ok w hm) ?_; rintro e w1 ⟨rfl, hb1⟩)
          | fail)
        go_ret
        exact ⟨rfl, hb1⟩
      · have h4 : (10 : Int) < (m : Int) := by omega
        have h5 : ¬(m : Int) = 0 := by omega
        go_enter Tryd.func3, Tryd.ntmps3
        go_wp2_with (first
          | (go_at_call 5; refine Calls.mono (awake_ok w hm) ?_; rintro e w1 ⟨rfl, hb1⟩)
          | fail)
        go_ret
        exact ⟨rfl, hb1⟩
end Sh
end Rg
end Go.Proofs.YtkkloakcphigeaaDoor
end
section
namespace Go.Proofs.YtkkloakcphigeaaDoor
open Go.RowKit
namespace Rg
namespace Sh
set_option maxRecDepth 100000
set_option maxHeartbeats 2000000 in
/-- The law ShareBack, of a suite and so many coefficients as it asks. -/
theorem back_main {s : Int} {r : Nat} (hS : Su s r) (hp : NT.Prm r) (hr : 1000 < r) (hs1 : ¬s < 0) (hs2 : ¬2 < s) {p : Option Addr} {m c cg co : Nat} {C : Nat → Nat} {pb : Option Addr} {mb cb gb ob : Nat} {b : Nat → Int} (a : Int) (hm0 : 0 < m) (hm10 : m ≤ 10) (w : World) (hm : Mm w [(2, dtab)]) (hc : Ns w p m cg co C) (hb : Ib w pb mb gb ob b) :
    Calls Tryd.prog 3 #[.int .i64 s, .slice p m c, .slice pb mb cb, .int .i64 a] w fun e w' => e = .returned (.bool true) ∧ Below w.heap.size w w' := by
  haveI : NeZero r := ⟨Nat.ne_of_gt hS.ok.pos⟩
  have ok := hS.ok
  have HSU : Hid _ := hS
  have HM : Hid _ := hm
  have HC : Hid _ := hc
  have HBY : Hid _ := hb
  clear hm hc hb hS
  obtain ⟨F, hF⟩ : ∃ F : Nat → Nat, (fun i => C i % r) = F := ⟨_, rfl⟩
  have hFr : ∀ i, i < m → F i < r := fun i _ => by rw [← hF]; exact Nat.mod_lt _ ok.pos
  obtain ⟨n, hn⟩ : ∃ n, m + 3 = n := ⟨_, rfl⟩
  have hn2 : (m : Int) + 3 = (n : Int) := by omega
  have hnw : IntKind.i64.wrap (n : Int) = (n : Int) := by rw [IntKind.wrap_i64]; omega
  obtain ⟨d, hd⟩ : ∃ d, m - 1 = d := ⟨_, rfl⟩
  have hd2 : (m : Int) - 1 = (d : Int) := by omega
  have hdw : IntKind.i64.wrap (d : Int) = (d : Int) := by rw [IntKind.wrap_i64]; omega
  have hm3 : ¬(m : Int) = 0 := by omega
  have hm4 : ¬(10 : Int) < (m : Int) := by omega
  have hmb : m ≤ 10 := hm10
  have hnb : n ≤ 13 := by omega
  have hmn : m ≤ n := by omega
  have hn0 : 0 < n := by omega
  have HN : Hid (m + 3 = n) := hn
  have HD : Hid (m - 1 = d) := hd
  have HF : Hid _ := hF
  clear hn hd hF
  have HFR : Hid _ := hFr
  clear hFr
  have d1 : decide (s < 0) = false := by rw [decide_eq_false_iff_not]; exact hs1
  have d2 : decide (2 < s) = false := by rw [decide_eq_false_iff_not]; exact hs2
  have d4 : decide ((10 : Int) < (m : Int)) = false := by rw [decide_eq_false_iff_not]; exact hm4
  have d3 : ((m : Int) == 0) = false := by simpa using hm3
  go_enter Tryd.func3, Tryd.ntmps3
  go_wp2_with (first
    | (go_at_call 5
       refine Calls.mono (awake_ok w HM.out) ?_
       rintro e w1 ⟨rfl, hb1⟩
       have HB1 : Hid _ := hb1
       clear hb1)
    | (go_at_call 6
       refine Calls.mono (scalars_ok HSU.out hm0 (by omega) w1 (HC.out.below HB1.out)) ?_
       rintro e w2 ⟨g2, c2, rfl, h2, hn2'⟩
       rw [HF.out] at hn2'
       have HN2 : Hid _ := hn2'
       have HB2 : Hid _ := HB1.out.trans (h2.mono HB1.out.size)
       clear h2 hn2')
    | (go_at_call 7
       refine Calls.mono (Split_ok HSU.out n (by omega) (by omega) (by omega) HFR.out w2 HN2.out) ?_
       rintro e w3 ⟨v, rfl, h3, _, hn3⟩
       have HN3 : Hid _ := hn3
       have HN23 : Hid _ := HN2.out.below h3
       have HB3 : Hid _ := HB2.out.trans (h3.mono HB2.out.size)
       clear h3 hn3)
    | (go_at_call 8
       refine Calls.mono (chosen_ok m n hm0 hmn (by omega) w3 (HBY.out.below HB3.out)) ?_
       rintro e w4 ⟨O, vO, rfl, h4, hO, hri, hnd, hbd, _⟩
       obtain ⟨g, o, c4, rfl, hi4⟩ := hri.is hO
       have HO : Hid (O.length = m ∧ O.Nodup ∧ ∀ x ∈ O, 1 ≤ x ∧ x ≤ n) := ⟨hO, hnd, hbd⟩
       have HI4 : Hid _ := hi4
       have HN4 : Hid _ := HN3.out.below h4
       have HN24 : Hid _ := HN23.out.below h4
       have HB4 : Hid _ := HB3.out.trans (h4.mono HB3.out.size)
       clear h4 hO hri hnd hbd hi4)
    | fail)
  obtain ⟨X, hX⟩ : ∃ X : Nat → Nat, (fun i => O.getD i 0) = X := ⟨_, rfl⟩
  have hi4 := HI4.out
  rw [hX] at hi4
  have HI : Hid _ := hi4
  have hX1 : Hid (∀ i, i < m → 1 ≤ X i ∧ X i ≤ n) := fun i hi => by rw [← hX]; exact bd_at HO.out.2.2 (by rw [HO.out.1]; exact hi)
  have hX2 : Hid (∀ i j, i < m → j < m → i ≠ j → X i ≠ X j) := fun i j hi hj h => by rw [← hX]; exact nd_ne HO.out.2.1 (by rw [HO.out.1]; exact hi) (by rw [HO.out.1]; exact hj) h
  obtain ⟨Y, hY⟩ : ∃ Y : Nat → Nat, (fun i => hT r F (X i) m m) = Y := ⟨_, rfl⟩
  have HY : Hid (∀ i, Y i = hT r F (X i) m m) := fun i => by rw [← hY]
  have hYb : Hid (∀ i, Y i < r) := fun i => by rw [← hY]; exact hT_lt ok _ _ _ _
  clear hi4 hX hY HI4 HO
  have hb4 : Below w4.heap.size w4 w4 := Below.refl _ _
  have HZ0 : Hid (Zr w4 (.slice none 0 0) (lst Y 0) w4) := Zr.start hb4
  clear hb4
  go_loopw [14, 15] (fun v14 v15 wr => ∃ i : Nat, v15 = .int .i64 (i : Int) ∧ i ≤ m ∧ Hid (Zr w4 v14 (lst Y i) wr))
    (fun _ v15 _ => m - (RowKit.intOf v15).toNat)
  case atStart => exact ⟨0, rfl, Nat.zero_le _, HZ0.out⟩
  case round =>
    obtain ⟨i, rfl, hi, hC⟩ := hrel
    obtain ⟨vv, rfl⟩ : ∃ v, v = u14 := ⟨u14, rfl⟩
    obtain ⟨W, rfl⟩ : ∃ W, W = wr := ⟨wr, rfl⟩
    have HZ : Hid _ := hC.out
    clear hC HZ0
    have HWB : Hid (Below w.heap.size w W) := HB4.out.trans (HZ.out.b.mono HB4.out.size)
    by_cases hlt : i < m
    · obtain ⟨x, hx⟩ : ∃ x, X i = x := ⟨_, rfl⟩
      have hxb := hX1.out i hlt
      rw [hx] at hxb
      obtain ⟨e, he⟩ : ∃ e, x = e + 1 := ⟨x - 1, by omega⟩
      have hen : e < n := by omega
      have hxe : (x : Int) - 1 = (e : Int) := by omega
      have hxw : IntKind.i64.wrap (e : Int) = (e : Int) := by rw [IntKind.wrap_i64]; omega
      have hcx : W.cell? ⟨g, o + i, none⟩ = some (.int .i64 (x : Int)) := by
        have := (HI.out.below HZ.out.b).c i hlt
        rw [hx] at this
        exact this
      have hk := (HN4.out.below HZ.out.b).c e hen
      have hye : Y i = hT r F (e + 1) m m := by rw [HY.out, hx, he]
      obtain ⟨y, hy⟩ : ∃ y, Y i = y := ⟨_, rfl⟩
      rw [hy] at hye
      rw [← hye] at hk
      simp only [Nat.zero_add] at hk
      have d0 : W.cell? ⟨v, e * 6, none⟩ = _ := hk 0 (by decide)
      have d1 : W.cell? ⟨v, e * 6 + 1, none⟩ = _ := hk 1 (by decide)
      have d2 : W.cell? ⟨v, e * 6 + 2, none⟩ = _ := hk 2 (by decide)
      have d3 : W.cell? ⟨v, e * 6 + 3, none⟩ = _ := hk 3 (by decide)
      have d4 : W.cell? ⟨v, e * 6 + 4, none⟩ = _ := hk 4 (by decide)
      have d5 : W.cell? ⟨v, e * 6 + 5, none⟩ = _ := hk 5 (by decide)
      have HYE : Hid _ := hy
      obtain ⟨va, wa, hra, hza⟩ := HZ.out.app (x := y) (by rw [lst_len]; omega) 23
      have HRA : Hid _ := hra
      have HZA : Hid (Zr w4 va (lst Y (i + 1)) wa) := by rw [← lst_snoc, HYE.out]; exact hza
      clear hra hza hk hye hy hx he
      go_wp2_with (first
        | (at_builtin; refine wpl_app rfl _ _ 23 rfl vv (.slice (some ⟨W.heap.size, 0, none⟩) 1 1) va rfl rfl HRA.out ?_)
        | fail)
      go_roundw
      case rel => exact ⟨i + 1, by simp, by omega, HZA.out⟩
      case measure => simp [RowKit.intOf]; omega
    · obtain rfl : m = i := by omega
      obtain ⟨g5, c5, rfl, _, hn5⟩ := HZ.out.ns (by rw [lst_len]; exact hm0) (fun x hx => by
        unfold lst at hx
        obtain ⟨j, _, rfl⟩ := List.mem_map.1 hx
        exact lt_big ok (hYb.out j))
      rw [lst_len] at hn5 ⊢
      have HN5 : Hid (Ns W (some ⟨g5, 0, none⟩) m g5 0 Y) := ⟨hn5.p, fun j hj k hk => by have := hn5.c j hj k hk; rwa [lst_get Y hj] at this, fun j _ => lt_big ok (hYb.out j)⟩
      have HI5 : Hid _ := HI.out.below HZ.out.b
      have HN35 : Hid _ := HN4.out.below HZ.out.b
      have HN25 : Hid _ := HN24.out.below HZ.out.b
      have HM5 : Hid _ := HM.out.below HWB.out
      clear hn5 HZ
      obtain ⟨y, hy⟩ : ∃ y, pv a 41 = y := ⟨_, rfl⟩
      have hy41 : y < 41 := by rw [← hy]; exact pv_lt a (by decide)
      have HPY : Hid _ := hy
      obtain ⟨V, hV⟩ : ∃ V, hT r F y m m = V := ⟨_, rfl⟩
      have hVb : V < big := by rw [← hV]; exact lt_big ok (hT_lt ok _ _ _ _)
      have HV : Hid _ := hV
      have HJV : Hid (smN r (lgN r X m y) Y m = V) := (join_val ok hp (C := F) (Nat.le_refl m) (fun i hi => by have := (hX1.out i hi).2; omega) hX2.out (fun i _ => HY.out i) y).trans hV
      have hez := eq_refl24 hVb
      clear hy hV
      go_wp2_with (first
        | (go_at_call 9
           refine Calls.mono (pick_k a 41 (by decide) (by decide) W) ?_
           rintro e w5 ⟨rfl, hw5⟩
           obtain rfl : W = w5 := hw5.symm
           rw [HPY.out])
        | (go_at_call 10
           refine Calls.mono (Join_ok HSU.out y (by omega) (by omega) (fun i hi => by have := hX1.out i hi; omega) hX2.out (fun i _ => hYb.out i) (fun q hq => un_cop ok hp (fun i hi => by have := (hX1.out i hi).2; omega) hX2.out q hq) W HM5.out HI5.out HN5.out) ?_
           rintro e w6 ⟨rfl, h6⟩
           rw [HJV.out]
           obtain ⟨w7, e7⟩ : ∃ w7, (w6.alloc (.cells #[.int .u64 (wd V 0), .int .u64 (wd V 1), .int .u64 (wd V 2), .int .u64 (wd V 3), .int .u64 (wd V 4), .int .u64 (wd V 5)] 33)) = w7 := ⟨_, rfl⟩
           have HM7 : Hid _ := mm_new (HM5.out.below h6) [.int .u64 (wd V 0), .int .u64 (wd V 1), .int .u64 (wd V 2), .int .u64 (wd V 3), .int .u64 (wd V 4), .int .u64 (wd V 5)] 33 e7 rfl
           have hb67 : Below w6.heap.size w6 w7 := bl_new (Below.refl _ _) (Nat.le_refl _) e7
           have hb7 : Below W.heap.size W w7 := h6.trans (hb67.mono h6.size)
           have HB7 : Hid _ := HWB.out.trans (hb7.mono HWB.out.size)
           have HN27 : Hid _ := HN25.out.below hb7
           have HN37 : Hid _ := HN35.out.below hb7
           clear h6 hb67 hb7)
        | (go_at_call 11
           refine Calls.mono (Value_ok HSU.out y (by omega) (by omega) HFR.out w7 HN27.out) ?_
           rintro e w8 ⟨rfl, h8⟩
           rw [HV.out]
           obtain ⟨w9, e9⟩ : ∃ w9, (w8.alloc (.cells #[.int .u64 (wd V 0), .int .u64 (wd V 1), .int .u64 (wd V 2), .int .u64 (wd V 3), .int .u64 (wd V 4), .int .u64 (wd V 5)] 33)) = w9 := ⟨_, rfl⟩
           have HM9 : Hid _ := mm_new (HM7.out.below h8) [.int .u64 (wd V 0), .int .u64 (wd V 1), .int .u64 (wd V 2), .int .u64 (wd V 3), .int .u64 (wd V 4), .int .u64 (wd V 5)] 33 e9 rfl
           have hb89 : Below w8.heap.size w8 w9 := bl_new (Below.refl _ _) (Nat.le_refl _) e9
           have hb9 : Below w7.heap.size w7 w9 := h8.trans (hb89.mono h8.size)
           have HB9 : Hid _ := HB7.out.trans (hb9.mono HB7.out.size)
           have HN39 : Hid _ := HN37.out.below hb9
           clear h8 hb89 hb9)
        | (go_at_call 8
           refine Calls.mono (chosen_ok (b := fun _ => 0) (gb := 0) (ob := 0) n n hn0 (Nat.le_refl n) (by omega) w9 ⟨fun h => absurd h (Nat.lt_irrefl 0), fun i h => absurd h (Nat.not_lt_zero i)⟩) ?_
           rintro e w10 ⟨O2, vO2, rfl, h10, hO2, hri2, _, _, hall⟩
           obtain ⟨t2, ht2⟩ := hall rfl
           obtain ⟨gz, oz, cz, rfl, hiz⟩ := hri2.is hO2
           have HX2 : Hid (∀ i, i < n → O2.getD i 0 = i + 1) := fun i hi => all_ids ht2 hO2 hi
           have HIZ : Hid _ := hiz
           have HM10 : Hid _ := HM9.out.below h10
           have HB10 : Hid _ := HB9.out.trans (h10.mono HB9.out.size)
           have HN310 : Hid _ := HN39.out.below h10
           clear h10 hO2 hri2 hall ht2 hiz)
        | (go_at_call 12
           refine Calls.mono (Fit_ok HSU.out d (by omega) hn0 (by omega) (fun i hi => by rw [HX2.out i hi]; omega) (fun i j hi hj h => by rw [HX2.out i hi, HX2.out j hj]; omega) (fun i _ => hT_lt ok _ _ _ _) (fun i j hi hj h => by rw [HX2.out i hi, HX2.out j hj]; exact sub_cop hp (by omega) (by omega) (by omega)) (by
             rw [← HD.out]
             exact deg_le ok hp (C := F) (fun i hi => by rw [HX2.out i hi]; omega) (fun i j hi hj h => by rw [HX2.out i hi, HX2.out j hj]; omega) (fun i hi => by rw [HX2.out i hi]) (n - 1) (by omega)) w10 HM10.out.tail.tail HIZ.out HN310.out) ?_
           rintro e w11 ⟨rfl, h11⟩
           have HM11 : Hid _ := HM10.out.below h11
           have HB11 : Hid _ := HB10.out.trans (h11.mono HB10.out.size)
           clear h11
           have c0_0 := HM11.out.get 0 rfl 0 rfl
           have c0_1 := HM11.out.get 0 rfl 1 rfl
           have c0_2 := HM11.out.get 0 rfl 2 rfl
           have c0_3 := HM11.out.get 0 rfl 3 rfl
           have c0_4 := HM11.out.get 0 rfl 4 rfl
           have c0_5 := HM11.out.get 0 rfl 5 rfl
           have c1_0 := HM11.out.get 1 rfl 0 rfl
           have c1_1 := HM11.out.get 1 rfl 1 rfl
           have c1_2 := HM11.out.get 1 rfl 2 rfl
           have c1_3 := HM11.out.get 1 rfl 3 rfl
           have c1_4 := HM11.out.get 1 rfl 4 rfl
           have c1_5 := HM11.out.get 1 rfl 5 rfl)
        | fail)
      go_ret
      exact ⟨rfl, HB11.out⟩
end Sh
end Rg
end Go.Proofs.YtkkloakcphigeaaDoor
end
section
namespace Go.Proofs.YtkkloakcphigeaaDoor
open Go.ChangeShapes Go.WideShapes Go.ChangeAt Go.RowKit
theorem Tryd.own : ownKnob Tryd.prog.godebug = none := by kernel_rfl
theorem Tryd.laidOut : laidOutB Tryd.prog = true := by kernel_rfl
theorem wd_cons_zero (x r : Nat) (hx : x < 18446744073709551616) : wd (x + 18446744073709551616 * r) 0 = x := by
  unfold wd; rw [Nat.mul_zero, Nat.pow_zero, Nat.div_one]; omega
theorem wd_cons_succ (x r i : Nat) (hx : x < 18446744073709551616) : wd (x + 18446744073709551616 * r) (i + 1) = wd r i := by
  unfold wd
  rw [pow_step, Nat.mul_comm (2 ^ (64 * i)), ← Nat.div_div_eq_div_mul, show (x + 18446744073709551616 * r) / 18446744073709551616 = r by omega]
theorem lt_cons (x r k : Nat) (hx : x < 18446744073709551616) (hr : r < 2 ^ (64 * k)) : x + 18446744073709551616 * r < 2 ^ (64 * (k + 1)) := by
  rw [pow_step]; omega
theorem num_of_words (x : Nat → Nat) (hx : ∀ i, x i < 18446744073709551616) (n : Nat) : ∃ a, a < 2 ^ (64 * n) ∧ ∀ i, i < n → wd a i = x i := by
  induction n generalizing x with
  | zero => exact ⟨0, Nat.two_pow_pos _, fun i h => absurd h (Nat.not_lt_zero _)⟩
  | succ n ih =>
    obtain ⟨r, hr, hw⟩ := ih (fun i => x (i + 1)) (fun i => hx _)
    refine ⟨x 0 + 18446744073709551616 * r, lt_cons _ _ _ (hx 0) hr, fun i hi => ?_⟩
    cases i with
    | zero => exact wd_cons_zero _ _ (hx 0)
    | succ i => rw [wd_cons_succ _ _ _ (hx 0)]; exact hw i (by omega)
end Go.Proofs.YtkkloakcphigeaaDoor
end
section
namespace Go.Proofs.YtkkloakcphigeaaDoor
open Go.ChangeShapes Go.WideShapes Go.ChangeAt Go.RowKit
namespace Rg
set_option maxRecDepth 100000
abbrev laidL : List (String × DataW Unit) := Rows.shareBackRow.laid
abbrev tabName : String := match laidL with
  | (n, _) :: _ => n
  | [] => Tryd.f3.name
theorem gTab : Tryd.prog.globalNamed tabName = some 2 := by kernel_rfl
theorem tTab : (Tryd.prog.globals[2]?).map (·.type) = some 121 := by kernel_rfl
theorem datTab : (Rows.laid_math_bits_deBruijn64tab : DataW Unit) = .agg (Lib.deBruijn64tab.map fun k => .lit (.int .u8 ((k : Nat) : Int))) := by kernel_rfl
theorem tab_of_laid {W : World} (h : laidMetH Tryd.prog laidL W) : Mm W [(2, dtab)] := by
  rw [MakeChecks.laidMetH_plain _ _ _ (by kernel_rfl)] at h
  obtain ⟨ps, ⟨g, t, cs, fuel, p, q, hg, ht, hv, hd, hq, hps⟩, hnd, hc⟩ := h
  obtain rfl := Option.some.inj (gTab.symm.trans hg)
  obtain rfl := Option.some.inj (tTab.symm.trans ht)
  obtain ⟨xs, m, -, hx, hlen, hn, hel⟩ := DataW.trod_array Tryd.underlying121 hd
  rw [datTab] at hx
  simp only [Prod.mk.injEq, DataW.agg.injEq] at hx
  have hc5 : Tryd.prog.cellsOf 5 = 1 := by kernel_rfl
  have hc81 : Tryd.prog.cellsOf 121 = 64 := by kernel_rfl
  rw [hc81] at hlen
  have hsz : cs.size = 64 := by simpa using hlen
  have hpl : ∀ i, i < 64 → MemPlace.cell 2 i ∈ ps := fun i hi => by
    rw [hps]
    refine List.mem_append_left _ (List.mem_append_left _ ?_)
    unfold MemPlace.row
    simp [hsz]
    omega
  obtain ⟨⟨c0, t0, hheap⟩, _⟩ := hc 2 0 (hpl 0 (by decide))
  have h0 : 2 < W.heap.size := by
    rcases Nat.lt_or_ge 2 W.heap.size with h' | h'
    · exact h'
    · rw [Array.getElem?_eq_none (by omega)] at hheap; cases hheap
  refine ⟨fun pq hpq => ?_, List.pairwise_singleton _ _⟩
  rw [List.mem_singleton.1 hpq]
  refine ⟨h0, fun j v hj => ?_⟩
  have hj64 : j < 64 := by
    have := (List.getElem?_eq_some_iff.1 hj).1
    exact this
  refine ⟨?_, ?_⟩
  · rw [World.var?_cell hg hv j]
    have h1 := hel j hj64
    rw [hc5, Nat.mul_one] at h1
    have hlt : j < xs.length := by omega
    rw [List.getElem?_eq_getElem hlt] at h1
    obtain ⟨n, e1, e2, _⟩ := DataW.trod_int Tryd.underlying5 h1
    have e3 : cs[j]? = some (.int .u8 n) := by
      have e4 : ((cs.toList.drop j).take 1)[0]? = some (.int .u8 n) := by rw [e1]; rfl
      rw [List.getElem?_take, if_pos (by decide), List.getElem?_drop] at e4
      simpa using e4
    have e5 : (xs.map (·.1))[j]? = (Lib.deBruijn64tab.map fun k => DataW.lit (.int .u8 ((k : Nat) : Int)))[j]? := by rw [hx.1]
    rw [List.getElem?_map, List.getElem?_eq_getElem hlt, e2, List.getElem?_map] at e5
    unfold dtab at hj
    rw [List.getElem?_map] at hj
    cases hk : Lib.deBruijn64tab[j]? with
    | none => rw [hk] at hj; cases hj
    | some k =>
      rw [hk] at hj e5
      simp only [Option.map_some, Option.some.injEq, DataW.lit.injEq] at hj e5
      rw [e3, ← hj]
      simp only [Option.some.injEq]
      injection e5 with _ e6
      rw [e6]
  · unfold World.frozen?
    rw [hheap]
    simp
theorem door_met (os : Os) (args : Array Value) : laidMetH Tryd.prog laidL ((World.doorLaid Tryd.prog 400 os).forCall (fun _ _ => 0) ⟨#[], args, []⟩).memory :=
  laidMetH_of_parts3 (fuel := 8) (laidMet_of_run' 8 (by kernel_rfl) (by kernel_rfl)) (by kernel_rfl) (by kernel_rfl)
end Rg
end Go.Proofs.YtkkloakcphigeaaDoor
end
section
namespace Go.Proofs.YtkkloakcphigeaaDoor
open Go.ChangeMaps Go.ChangeShapes Go.WideShapes Go.ChangeAt Go.RowKit
namespace Rg
namespace Sh
set_option maxRecDepth 100000
theorem cells3 : Tryd.prog.cellsOf 3 = 1 := by kernel_rfl
theorem cells31 : Tryd.prog.cellsOf 31 = 1 := by kernel_rfl
theorem cells33 : Tryd.prog.cellsOf 33 = 6 := by kernel_rfl
section
variable {H : Type} {enc : TypeId × Value → H} {w : World} {base : Nat} {sp : Nat → Bool} {held : Bool}
theorem open_row {T E k : Nat} (hT : Tryd.prog.underlying T = some (.slice E)) (hk : Tryd.prog.cellsOf E = k) (h0 : 0 < k) {fuel : Nat} {cs : List Value} {y : DataW H × List MemPlace} (hf : DataW.trod enc Tryd.prog w base sp held fuel T cs = some y) :
    ∃ pl m c b off, cs = [.slice pl m c] ∧ m ≤ c ∧ c ≤ maxLen ∧ (0 < m → pl = some ⟨b, off, none⟩ ∧ b < w.heap.size) ∧ ∀ i, i < m → ∃ es n z, es.length = k ∧ DataW.trod enc Tryd.prog w base sp held n E es = some z ∧ ∀ j, j < k → w.cell? ⟨b, off + (i * k + j), none⟩ = es[j]? := by
  rcases DataW.trod_slice hT hf with ⟨hcs, hx⟩ | ⟨a, len, cap, elems, rest, n, _, hcs, hx, hb, hl, hm, hlen, hel, hsp, hns⟩
  · exact ⟨none, 0, 0, 0, 0, hcs, Nat.le_refl _, Nat.zero_le _, fun h => absurd h (Nat.lt_irrefl _), fun i hi => absurd hi (Nat.not_lt_zero _)⟩
  · rw [hk] at hel
    have part : ∀ i, i < len → ∃ es z, es.length = k ∧ DataW.trod enc Tryd.prog w base sp held n E es = some z ∧ ∀ j, j < k → w.cell? ((a.add (i * k)).add j) = es[j]? := fun i hi => by
      have h1 := hel i hi
      have hi2 : i < elems.length := by omega
      rw [List.getElem?_eq_getElem hi2, Option.bind_eq_some_iff] at h1
      obtain ⟨es, hc, hy⟩ := h1
      obtain ⟨_, c2, c3⟩ := World.cells?_some hc
      exact ⟨es, _, c2, hy, c3⟩
    by_cases hz : len = 0
    · subst hz
      exact ⟨some a, 0, cap, 0, 0, hcs, hl, hm, fun h => absurd h (Nat.lt_irrefl _), fun i hi => absurd hi (Nat.not_lt_zero _)⟩
    · obtain ⟨es, z, e1, _, e3⟩ := part 0 (by omega)
      have e4 := e3 0 h0
      obtain ⟨v, hv⟩ : ∃ v, es[0]? = some v := ⟨_, List.getElem?_eq_getElem (by omega)⟩
      rw [hv] at e4
      obtain ⟨b, off, spot⟩ := a
      have hspot : spot = none := by simpa [Addr.add] using World.cell?_spot e4
      subst hspot
      simp only [Go.WideShapes.add_plain] at e4
      refine ⟨some ⟨b, off, none⟩, len, cap, b, off, hcs, hl, hm, fun _ => ⟨rfl, World.block_lt_of_cell? w _ e4⟩, fun i hi => ?_⟩
      obtain ⟨es, z, e1, e2, e3⟩ := part i hi
      refine ⟨es, n, z, e1, e2, fun j hj => ?_⟩
      have := e3 j hj
      simp only [Go.WideShapes.add_plain] at this
      rw [show off + (i * k + j) = off + i * k + j by omega]
      exact this
/-- A number's six cells. -/
theorem cells_num {fuel : Nat} {es : List Value} {z : DataW H × List MemPlace} (_hl : es.length = 6) (hf : DataW.trod enc Tryd.prog w base sp held fuel 33 es = some z) : ∃ a, a < big ∧ ∀ j, j < 6 → es[j]? = some (.int .u64 (wd a j)) := by
  obtain ⟨xs, m, -, hx, _, hn, hel⟩ := DataW.trod_array Tryd.underlying33 hf
  have key : ∀ i, i < 6 → ∃ n : Nat, n < 18446744073709551616 ∧ es[i]? = some (.int .u64 n) := by
    intro i hi
    have h := hel i hi
    rw [cells31] at h
    have hlt : i < xs.length := by rw [hn]; exact hi
    obtain ⟨z, hz⟩ : ∃ z, xs[i]? = some z := ⟨xs[i], List.getElem?_eq_getElem hlt⟩
    rw [hz] at h
    obtain ⟨n, e1, e2, e3⟩ := DataW.trod_int Tryd.underlying31 h
    have hb := bounds_u64 e3
    have e4 : es[i]? = some (.int .u64 n) := by
      have e6 : ((es.drop (i * 1)).take 1)[0]? = some (.int .u64 n) := by rw [e1]; rfl
      rw [Nat.mul_one, List.getElem?_take, if_pos (by decide), List.getElem?_drop] at e6
      simpa using e6
    refine ⟨n.toNat, by omega, ?_⟩
    rw [e4, Int.toNat_of_nonneg hb.1]
  obtain ⟨n0, l0, c0⟩ := key 0 (by omega)
  obtain ⟨n1, l1, c1⟩ := key 1 (by omega)
  obtain ⟨n2, l2, c2⟩ := key 2 (by omega)
  obtain ⟨n3, l3, c3⟩ := key 3 (by omega)
  obtain ⟨n4, l4, c4⟩ := key 4 (by omega)
  obtain ⟨n5, l5, c5⟩ := key 5 (by omega)
  obtain ⟨a, ha, hw⟩ := num_of_words (fun i => [n0, n1, n2, n3, n4, n5].getD i 0) (by
    intro i
    match i with
    | 0 => exact l0
    | 1 => exact l1
    | 2 => exact l2
    | 3 => exact l3
    | 4 => exact l4
    | 5 => exact l5
    | (i + 6) => simp) 6
  refine ⟨a, by rw [big]; exact ha, fun j hj => ?_⟩
  have hh := hw j hj
  match j, hj with
  | 0, _ => rw [c0, hh]; rfl
  | 1, _ => rw [c1, hh]; rfl
  | 2, _ => rw [c2, hh]; rfl
  | 3, _ => rw [c3, hh]; rfl
  | 4, _ => rw [c4, hh]; rfl
  | 5, _ => rw [c5, hh]; rfl
theorem open_nums {r : Reach} {b0 : Nat} {v : Value} {d : DataW H} {p : List MemPlace} (hv : Value.okWide Tryd.prog w r b0 23 v) (h : DataW.Trod enc Tryd.prog w base sp held 23 v d p) :
    ∃ pl m c g o F, v = .slice pl m c ∧ m ≤ 9223372036854775807 ∧ Ns w pl m g o F := by
  obtain ⟨a0, len0, cap0, rfl⟩ := okWide_slice Tryd.underlying23 hv
  obtain ⟨f0, hf0⟩ := h
  obtain ⟨pl, m, c, g, o, e0, k0, k1, k2, k3⟩ := open_row Tryd.underlying23 cells33 (by decide) hf0
  simp [Value.cells] at e0
  obtain ⟨rfl, rfl, rfl⟩ := e0
  have part : ∀ i, ∃ a : Nat, i < len0 → a < big ∧ ∀ j, j < 6 → w.cell? ⟨g, o + i * 6 + j, none⟩ = some (.int .u64 (wd a j)) := fun i => by
    by_cases hi : i < len0
    · obtain ⟨es, n', z', g0, g1, g2⟩ := k3 i hi
      obtain ⟨a, ha, hw⟩ := cells_num g0 g1
      exact ⟨a, fun _ => ⟨ha, fun j hj => by rw [show o + i * 6 + j = o + (i * 6 + j) by omega, g2 j hj, hw j hj]⟩⟩
    · exact ⟨0, fun h => absurd h hi⟩
  obtain ⟨F, hF⟩ := Classical.axiomOfChoice part
  exact ⟨a0, len0, cap0, g, o, F, rfl, Nat.le_trans k0 (Nat.le_trans k1 (by decide)), k2, fun i hi => (hF i hi).2, fun i hi => (hF i hi).1⟩
theorem open_ints {r : Reach} {b0 : Nat} {v : Value} {d : DataW H} {p : List MemPlace} (hv : Value.okWide Tryd.prog w r b0 24 v) (h : DataW.Trod enc Tryd.prog w base sp held 24 v d p) :
    ∃ pl m c g o F, v = .slice pl m c ∧ m ≤ 9223372036854775807 ∧ Ib w pl m g o F := by
  obtain ⟨a0, len0, cap0, rfl⟩ := okWide_slice Tryd.underlying24 hv
  obtain ⟨f0, hf0⟩ := h
  obtain ⟨pl, m, c, g, o, e0, k0, k1, k2, k3⟩ := open_row Tryd.underlying24 cells3 (by decide) hf0
  simp [Value.cells] at e0
  obtain ⟨rfl, rfl, rfl⟩ := e0
  have part : ∀ i, ∃ a : Int, i < len0 → w.cell? ⟨g, o + i, none⟩ = some (.int .i64 a) := fun i => by
    by_cases hi : i < len0
    · obtain ⟨es, n', z', g0, g1, g2⟩ := k3 i hi
      obtain ⟨a, rfl, _, _⟩ := DataW.trod_int Tryd.underlying3 g1
      exact ⟨a, fun _ => by have := g2 0 (by decide); simpa using this⟩
    · exact ⟨0, fun h => absurd h hi⟩
  obtain ⟨F, hF⟩ := Classical.axiomOfChoice part
  exact ⟨a0, len0, cap0, g, o, F, rfl, Nat.le_trans k0 (Nat.le_trans k1 (by decide)), k2, fun i hi => hF i hi⟩
end
theorem back_any {s : Int} {p : Option Addr} {m c cg co : Nat} {C : Nat → Nat} {pb : Option Addr} {mb cb gb ob : Nat} {b : Nat → Int} (a : Int) (w : World) (hm : Mm w [(2, dtab)]) (hc : Ns w p m cg co C) (hb : Ib w pb mb gb ob b) :
    Calls Tryd.prog 3 #[.int .i64 s, .slice p m c, .slice pb mb cb, .int .i64 a] w fun e w' => e = .returned (.bool true) ∧ Below w.heap.size w w' := by
  by_cases h : s < 0 ∨ 2 < s ∨ m = 0 ∨ 10 < m
  · exact back_no a h w hm
  · have h0 : s = 0 ∨ s = 1 ∨ s = 2 := by omega
    rcases h0 with rfl | rfl | rfl
    · exact back_main su_great NT.prm_r (by decide +kernel) (by decide) (by decide) a (by omega) (by omega) w hm hc hb
    · exact back_main su_little NT.prm_65521 (by decide) (by decide) (by decide) a (by omega) (by omega) w hm hc hb
    · exact back_main su_middle NT.prm_72057594037927889 (by decide) (by decide) (by decide) a (by omega) (by omega) w hm hc hb
end Sh
end Rg
end Go.Proofs.YtkkloakcphigeaaDoor
end
