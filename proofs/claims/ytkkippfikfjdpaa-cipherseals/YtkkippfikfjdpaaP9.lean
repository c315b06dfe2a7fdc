/- Texts of the proof, joined. -/
import Derived.Test.YtkkippfikfjdpaaP8
import Derived.ProofKit
import Derived.OpenShut
import Derived.ChangeSlices
import Derived.Test.YtkkippfikfjdpaaRows
section
namespace Go.Proofs.Ytkkippfikfjdpaa
open Go.RowKit
namespace Rg
set_option maxRecDepth 100000
set_option maxHeartbeats 2000000 in
set_option maxRecDepth 100000 in
theorem mark_anyB (K N S M : Nat → Nat) (gk ok ck gn on cn gs os s cs gm om m cm : Nat) (ps pm : Option Addr) (hS : ∀ j, S j < 256) (hM : ∀ j, M j < 256) (hps : 0 < s → ps = some ⟨gs, os, none⟩) (hpm : 0 < m → pm = some ⟨gm, om, none⟩) (hns0 : ps = none → cs = 0) (hnm0 : pm = none → cm = 0) (hs : s ≤ 1048576) (hm : m ≤ 100000) (w : World) (hRk : Rs gk ok 32 K w) (hRn : Rs gn on 12 N w) (hRs : Rs gs os s S w) (hRm : Rs gm om m M w) :
    Calls Try.prog 41 #[.slice (some ⟨gk, ok, none⟩) 32 ck, .slice (some ⟨gn, on, none⟩) 12 cn, .slice ps s cs, .slice pm m cm] w fun e w' => Below w.heap.size w w' ∧ ∃ (g x y : Nat), e = .returned ((fun g x _ => .slice (some ⟨g, 0, none⟩) 16 (16 + x)) g x y) ∧ w.heap.size ≤ g ∧ g < w'.heap.size ∧ Blk w' g (ints .u8 (mrk K N M m S s) 16) ∧ ∃ o, w'.heap[g]? = some o ∧ Eo 16 (mrk K N M m S s) o x := by
  have H0 : Hid (_ ∧ _) := ⟨Mm.nil w, Below.refl w.heap.size w⟩
  have RK : Hid (Rs gk ok 32 K w) := hRk
  have RN : Hid (Rs gn on 12 N w) := hRn
  have RS : Hid (Rs gs os s S w) := hRs
  have RM : Hid (Rs gm om m M w) := hRm
  have hns : Hid (ps = none → cs = 0) := hns0
  have hnm : Hid (pm = none → cm = 0) := hnm0
  have hz1 : zf m < 16 := by unfold zf; omega
  have hz2 : zf s < 16 := by unfold zf; omega
  clear hRk hRn hRs hRm hns0 hnm0
  go_enter Try.func41, Try.ntmps41
  refine wp_seq ?_
  refine walk_seqB 1 [.quiet (.slice none 0 0)] H0 ?ho1 ?he1
  case ho1 => exact ak (fun _ => ⟨rfl, fun _ _ => rfl⟩) trivial
  intro _ w1 H1
  refine rest0 rfl (then_normal (wp_seq ?_))
  refine (walk_seq) 4 [.quiet (.slice pm m cm), .ownX (fun g x y => .slice (some ⟨g, 0, none⟩) (m + zf m) ((m + zf m) + x)) (ints .u8 (kz M m) (m + zf m)) (Eo (m + zf m) (kz M m)), .quiet (.slice ps s cs), .ownX (fun g x y => .slice (some ⟨g, 0, none⟩) (s + zf s) ((s + zf s) + x)) (ints .u8 (kz S s) (s + zf s)) (Eo (s + zf s) (kz S s))] (fun u' => Mm u' [] ∧ (Rs gk ok 32 K u' ∧ Rs gn on 12 N u' ∧ Rs gs os s S u' ∧ Rs gm om m M u')) ?pre2 ?F2 ?hpre2 (fun γ => ?hF2) (by kernel_rfl) ?hL2 ?hS2 ?ho2 ?he2
  case hpre2 => simp only [tk, tz]; rfl
  case hF2 => simp only [fill, Kind.val, Act.put, sa, sz, ss]; rfl
  case hL2 => exact trivial
  case hS2 => exact fun w' hb => ⟨H1.out.1.below hb, ⟨RK.out.below (H1.out.2.trans (hb.mono H1.out.2.size)), RN.out.below (H1.out.2.trans (hb.mono H1.out.2.size)), RS.out.below (H1.out.2.trans (hb.mono H1.out.2.size)), RM.out.below (H1.out.2.trans (hb.mono H1.out.2.size))⟩⟩
  case ho2 =>
    refine ak (fun _ => ⟨rfl, fun _ _ => rfl⟩) ?_
    refine ak (fun γ => ⟨rfl, fun w' hX => ⟨55, #[.slice pm m cm], exec_call rfl call55 rfl (mpn rfl), filled_any M gm om m cm pm hpm hnm.out (by omega) w' hX.2.2.2.2⟩⟩) ?_
    refine ak (fun _ => ⟨rfl, fun _ _ => rfl⟩) ?_
    refine ak (fun γ => ⟨rfl, fun w' hX => ⟨55, #[.slice ps s cs], exec_call rfl call55 rfl (mpn rfl), filled_any S gs os s cs ps hps hns.out (by omega) w' hX.2.2.2.1⟩⟩) ?_
    exact trivial
  intro γ w2 l hM hl
  have M2 : Mm w2 [(γ 1, ints .u8 (kz M m) (m + zf m)), (γ 3, ints .u8 (kz S s) (s + zf s))] := H1.out.1.grow hM (Nat.le_refl _) hl [1, 3] rfl (by decide)
  have B2 : Below w.heap.size w w2 := H1.out.2.trans (hM.below.mono H1.out.2.size)
  have o2_1 : Hid (w.heap.size ≤ γ 1) := Nat.le_trans H1.out.2.size (hM.fin (Nat.le_refl _) hl (i := 1) rfl).2.1
  have o2_3 : Hid (w.heap.size ≤ γ 3) := Nat.le_trans H1.out.2.size (hM.fin (Nat.le_refl _) hl (i := 3) rfl).2.1
  have oo2_1 : Hid (∃ o, w2.heap[γ 1]? = some o ∧ (Eo (m + zf m) (kz M m)) o (γ 65537)) := hM.owns 1 _ _ _ rfl (hl 1 (by decide))
  have oo2_3 : Hid (∃ o, w2.heap[γ 3]? = some o ∧ (Eo (s + zf s) (kz S s)) o (γ 65539)) := hM.owns 3 _ _ _ rfl (hl 3 (by decide))
  clear hM hl l H1
  generalize γ 1 = γ2_1 at M2 o2_1 oo2_1 ⊢
  generalize γ 3 = γ2_3 at M2 o2_3 oo2_3 ⊢
  generalize γ 65537 = γ2_65537 at oo2_1 ⊢
  generalize γ 65539 = γ2_65539 at oo2_3 ⊢
  clear γ
  have H2 : Hid (_ ∧ _) := ⟨M2, B2⟩
  clear M2 B2
  refine rest_at (l := [4, 5]) rfl ?_
  have hO : On w (.slice (some ⟨γ2_1, 0, none⟩) (m + zf m) ((m + zf m) + γ2_65537)) (m + zf m) (kz M m) w2 := ⟨H2.out.2, Eo.own oo2_1.out o2_1.out, by simp [Value.ownBlock]⟩
  obtain ⟨v3, w3, hr, hZ⟩ := hO.app (a := ⟨γ2_3, 0, none⟩) (s + zf s) ((s + zf s) + γ2_65539) (kz S s) (H2.out.1.rs 1 rfl (Nat.le_refl _)).add (by omega) 22
  refine rest_set (d := 14) (v := v3) (w' := w3) rfl rfl rfl (ex_app rfl rfl rfl hr) ?_
  simp only [Act.put, sa, sz, ss]
  have H3 : Hid (Mm w3 [] ∧ On w v3 ((m + zf m) + (s + zf s)) (ct (kz M m) (m + zf m) (kz S s)) w3) := ⟨Mm.nil _, hZ⟩
  clear hr hZ hO H2
  refine rest_set (d := 9) (v := v3) (w' := w3) rfl rfl rfl rfl ?_
  simp only [Act.put, sa, sz, ss]
  refine rest_nil (then_normal (wp_seq ?_))
  refine walk_seqA 4 [.quiet (v3), .quiet (.slice pm m cm), .quiet (.int .i64 ((m : Nat) : Int)), .ownX (fun g x y => .slice (some ⟨g, 0, none⟩) 8 (8 + x)) (ints .u8 (eb8 m) 8) (Eo 8 (eb8 m))] (sB H3) ?ho3 ?he3
  case ho3 => exact ak (fun _ => ⟨rfl, fun _ _ => rfl⟩) (ak (fun _ => ⟨rfl, fun _ _ => rfl⟩) (ak (by refine fun γ => ⟨rfl, fun w' h => ?_⟩; clear h; go_simp) (ak (fun γ => ⟨rfl, fun w' h => ⟨56, #[.int .i64 ((m : Nat) : Int)], exec_call rfl call56 rfl (mpn rfl), eight_any m w'⟩⟩) trivial)))
  intro γ w4 l hM hl
  have M4 : Mm w4 [(γ 3, ints .u8 (eb8 m) 8)] := H3.out.1.grow hM (Nat.le_refl _) hl [3] rfl (by decide)
  have B4 : On w v3 ((m + zf m) + (s + zf s)) (ct (kz M m) (m + zf m) (kz S s)) w4 := On.step H3.out.2 (hM.below)
  have o3_3 : Hid (w.heap.size ≤ γ 3) := Nat.le_trans H3.out.2.size (hM.fin (Nat.le_refl _) hl (i := 3) rfl).2.1
  have oo3_3 : Hid (∃ o, w4.heap[γ 3]? = some o ∧ (Eo 8 (eb8 m)) o (γ 65539)) := hM.owns 3 _ _ _ rfl (hl 3 (by decide))
  clear hM hl l H3
  generalize γ 3 = γ3_3 at M4 o3_3 oo3_3 ⊢
  generalize γ 65539 = γ3_65539 at oo3_3 ⊢
  clear γ
  have H4 : Hid (_ ∧ _) := ⟨M4, B4⟩
  clear M4 B4
  refine rest_at (l := [4, 5, 6, 7, 8, 9]) rfl ?_
  have hO := H4.out.2
  obtain ⟨v5, w5, hr, hZ⟩ := hO.app (a := ⟨γ3_3, 0, none⟩) 8 (8 + γ3_65539) (eb8 m) (H4.out.1.rs 0 rfl (Nat.le_refl _)).add (by omega) 22
  refine rest_set (d := 19) (v := v5) (w' := w5) rfl rfl rfl (ex_app rfl rfl rfl hr) ?_
  simp only [Act.put, sa, sz, ss]
  have H5 : Hid (Mm w5 [] ∧ On w v5 (((m + zf m) + (s + zf s)) + 8) (ct (ct (kz M m) (m + zf m) (kz S s)) ((m + zf m) + (s + zf s)) (eb8 m)) w5) := ⟨Mm.nil _, hZ⟩
  clear hr hZ hO H4
  refine rest_set (d := 20) (v := .slice ps s cs) (w' := w5) rfl rfl rfl rfl ?_
  simp only [Act.put, sa, sz, ss]
  refine rest_set (d := 21) (v := .int .i64 ((s : Nat) : Int)) (w' := w5) rfl rfl rfl (by go_simp) ?_
  simp only [Act.put, sa, sz, ss]
  refine rest_enter (d := 22) (R := fun vv w' => Below w5.heap.size w5 w' ∧ ∃ g x, vv = .slice (some ⟨g, 0, none⟩) 8 (8 + x) ∧ w5.heap.size ≤ g ∧ g < w'.heap.size ∧ Blk w' g (ints .u8 (eb8 s) 8) ∧ ∃ o, w'.heap[g]? = some o ∧ Eo 8 (eb8 s) o x) rfl rfl rfl (exec_call (args := #[.int .i64 ((s : Nat) : Int)]) rfl call56 rfl (mpn rfl)) (Calls.mono (eight_any s w5) (fun e w2 ⟨hb, g, x, _, he, h1, h2, h3, h4⟩ => ⟨_, he, hb, g, x, rfl, h1, h2, h3, h4⟩)) ?_
  intro _ w6 hR
  obtain ⟨hb, γr6, ξr6, rfl, h1, h2, h3, h4⟩ := hR
  simp only [Act.put, sa, sz, ss]
  have o_γr6 : Hid (w.heap.size ≤ γr6) := Nat.le_trans H5.out.2.size h1
  have oo_γr6 : Hid (γr6 < w6.heap.size ∧ Blk w6 γr6 (ints .u8 (eb8 s) 8) ∧ ∃ o, w6.heap[γr6]? = some o ∧ Eo 8 (eb8 s) o ξr6) := ⟨h2, h3, h4⟩
  have H6 : Hid (Mm w6 [(γr6, ints .u8 (eb8 s) 8)] ∧ On w v5 (((m + zf m) + (s + zf s)) + 8) (ct (ct (kz M m) (m + zf m) (kz S s)) ((m + zf m) + (s + zf s)) (eb8 m)) w6) := ⟨(H5.out.1.below hb).cons h3 h2 (fun p hp => by have := (H5.out.1.blk p hp).1; omega), On.step H5.out.2 (hb)⟩
  clear hb h1 h2 h3 h4 H5
  have hO := H6.out.2
  obtain ⟨v7, w7, hr, hZ⟩ := hO.app (a := ⟨γr6, 0, none⟩) 8 (8 + ξr6) (eb8 s) (H6.out.1.rs 0 rfl (Nat.le_refl _)).add (by omega) 22
  refine rest_set (d := 23) (v := v7) (w' := w7) rfl rfl rfl (ex_app rfl rfl rfl hr) ?_
  simp only [Act.put, sa, sz, ss]
  have H7 : Hid (Mm w7 [] ∧ On w v7 (ll m s) (al M m S s) w7) := ⟨Mm.nil _, hZ⟩
  clear hr hZ hO H6
  refine rest_set (d := 9) (v := v7) (w' := w7) rfl rfl rfl rfl ?_
  simp only [Act.put, sa, sz, ss]
  refine rest_nil ?_
  obtain ⟨g9, x9, e9⟩ := H7.out.2.form
  rw [e9] at H7 ⊢
  clear e9
  refine then_normal (wp_seq ?_)
  refine (walk_seq) 3 [.quiet (.slice (some ⟨gk, ok, none⟩) 32 ck), .quiet (.slice (some ⟨gn, on, none⟩) 12 cn), .bornX (fun g x y => .slice (some ⟨g, 0, none⟩) 64 (64 + x)) (ints .u8 (bk K N 0) 64)] (fun u' => Mm u' [] ∧ (Rs gk ok 32 K u' ∧ Rs gn on 12 N u' ∧ Rs gs os s S u' ∧ Rs gm om m M u')) ?pre4 ?F4 ?hpre4 (fun γ => ?hF4) (by kernel_rfl) ?hL4 ?hS4 ?ho4 ?he4
  case hpre4 => simp only [tk, tz]; rfl
  case hF4 => simp only [fill, Kind.val, Act.put, sa, sz, ss]; rfl
  case hL4 => exact trivial
  case hS4 => exact fun w' hb => ⟨H7.out.1.below hb, ⟨RK.out.below (On.step H7.out.2 (hb)).b, RN.out.below (On.step H7.out.2 (hb)).b, RS.out.below (On.step H7.out.2 (hb)).b, RM.out.below (On.step H7.out.2 (hb)).b⟩⟩
  case ho4 =>
    refine ak (fun _ => ⟨rfl, fun _ _ => rfl⟩) ?_
    refine ak (fun _ => ⟨rfl, fun _ _ => rfl⟩) ?_
    refine ak (fun γ => ⟨rfl, fun w' hX => ⟨31, #[.slice (some ⟨gk, ok, none⟩) 32 ck, .slice (some ⟨gn, on, none⟩) 12 cn, .int .u32 0], exec_call rfl call31 rfl (mpn rfl), block_born K N gk ok ck gn on cn 0 w' hX.2.1 hX.2.2.1⟩⟩) ?_
    exact trivial
  intro γ w8 l hM hl
  have M8 : Mm w8 [(γ 2, ints .u8 (bk K N 0) 64)] := H7.out.1.grow hM (Nat.le_refl _) hl [2] rfl (by decide)
  have B8 : On w (.slice (some ⟨g9, 0, none⟩) (ll m s) (ll m s + x9)) (ll m s) (al M m S s) w8 := On.step H7.out.2 (hM.below)
  have o4_2 : Hid (w.heap.size ≤ γ 2) := Nat.le_trans H7.out.2.size (hM.fin (Nat.le_refl _) hl (i := 2) rfl).2.1
  clear hM hl l H7
  generalize γ 2 = γ4_2 at M8 o4_2 ⊢
  generalize γ 65538 = γ4_65538
  clear γ
  have H8 : Hid (_ ∧ _) := ⟨M8, B8⟩
  clear M8 B8
  refine rest_at (l := [3, 4, 5, 6]) rfl ?_
  refine rest_set (d := 27) (v := .slice (some ⟨γ4_2, 0, none⟩) 32 (64 + γ4_65538)) (w' := w8) rfl rfl rfl (ex_slH22 (l := 32) rfl rfl rfl (by omega)) ?_
  simp only [Act.put, sa, sz, ss]
  refine rest_set (d := 28) (v := .slice (some ⟨g9, 0, none⟩) (ll m s) (ll m s + x9)) (w' := w8) rfl rfl rfl rfl ?_
  simp only [Act.put, sa, sz, ss]
  refine rest_enter (d := 29) (R := fun vv w' => Below w8.heap.size w8 w' ∧ ∃ g x, vv = .slice (some ⟨g, 0, none⟩) 16 (16 + x) ∧ w8.heap.size ≤ g ∧ g < w'.heap.size ∧ Blk w' g (ints .u8 (mrk K N M m S s) 16) ∧ ∃ o, w'.heap[g]? = some o ∧ Eo 16 (mrk K N M m S s) o x) rfl rfl rfl (exec_call (args := #[.slice (some ⟨γ4_2, 0, none⟩) 32 (64 + γ4_65538), .slice (some ⟨g9, 0, none⟩) (ll m s) (ll m s + x9)]) rfl call38 rfl (mpn rfl)) (Calls.mono (tag_own (bk K N 0) (al M m S s) γ4_2 0 (64 + γ4_65538) g9 0 (ll m s) (ll m s + x9) (some ⟨g9, 0, none⟩) (bk_256 K N 0) (al_256 hM hS m s) (fun _ => rfl) (by unfold ll; omega) w8 (H8.out.1.rs 0 rfl (by decide)) (own_rs H8.out.2.own)) (fun e w2 ⟨hb, g, x, _, he, h1, h2, h3, h4⟩ => ⟨_, he, hb, g, x, rfl, h1, h2, h3, h4⟩)) ?_
  intro _ w9 hR
  obtain ⟨hb, γr9, ξr9, rfl, h1, h2, h3, h4⟩ := hR
  simp only [Act.put, sa, sz, ss]
  have o_γr9 : Hid (w.heap.size ≤ γr9) := Nat.le_trans H8.out.2.size h1
  have oo_γr9 : Hid (γr9 < w9.heap.size ∧ Blk w9 γr9 (ints .u8 (mrk K N M m S s) 16) ∧ ∃ o, w9.heap[γr9]? = some o ∧ Eo 16 (mrk K N M m S s) o ξr9) := ⟨h2, h3, h4⟩
  have H9 : Hid (Mm w9 [(γr9, ints .u8 (mrk K N M m S s) 16), (γ4_2, ints .u8 (bk K N 0) 64)] ∧ On w (.slice (some ⟨g9, 0, none⟩) (ll m s) (ll m s + x9)) (ll m s) (al M m S s) w9) := ⟨(H8.out.1.below hb).cons h3 h2 (fun p hp => by have := (H8.out.1.blk p hp).1; omega), On.step H8.out.2 (hb)⟩
  clear hb h1 h2 h3 h4 H8
  refine rest_set (d := 8) (v := .slice (some ⟨γr9, 0, none⟩) 16 (16 + ξr9)) (w' := w9) rfl rfl rfl rfl ?_
  simp only [Act.put, sa, sz, ss]
  refine rest_nil (then_normal (wp_ret ?_))
  repeat (first | refine then_ret ?_ | refine block_ret ?_)
  refine bodyPost_ret (v := .slice (some ⟨γr9, 0, none⟩) 16 (16 + ξr9)) (by simp [results, Try.results41, go_sem, *]) rfl ?_
  exact ⟨H9.out.2.b, γr9, _, 0, rfl, o_γr9.out, oo_γr9.out.1, oo_γr9.out.2.1, oo_γr9.out.2.2⟩
theorem ex_strO {ρ : Operand → Value} {o : Oper} {x : Operand} {f : Nat → Nat} {g off n c : Nat} {w : World} (h : Rs g off n f w) (ho : o.op = .convert 22 9 x) (hx : ρ x = .slice (some ⟨g, off, none⟩) n c) : (execOp ρ o).run Try.prog w = .ok (.value (.string (st f n))) w := by
  have hc := run_convert_bytes_arg (P := Try.prog) w 22 5 (by kernel_rfl) (by kernel_rfl) g off n c ((List.range n).map fun j => (f j : Int)) (by simp) (fun i hi => by
    rw [h.at_ i hi]
    simp [List.getD, hi]) 9 (by kernel_rfl)
  clear h
  simp only [execOp, ho, hx]
  simp [hc, Result.andThen, st]
theorem st_beq {f g : Nat → Nat} {n m : Nat} (hf : ∀ j, f j < 256) (hg : ∀ j, g j < 256) (t : Bool) (ht : t = true ↔ n = m ∧ ∀ j, j < n → f j = g j) : ((st f n).toList == (st g m).toList) = t := by
  have hb : ∀ l : List Int, (strOfNums l).toList = l.map (fun n => UInt8.ofNat n.toNat) := fun l => by
    rw [Lib.strOfNums_toList]
    rfl
  unfold st
  rw [hb, hb]
  cases t with
  | true => rw [rng_eq.2 (ht.1 rfl)]; simp
  | false => exact beq_eq_false_iff_ne.2 (fun e2 => Bool.noConfusion (ht.2 (rng_eq.1 (nums_inj (fun x hx => by obtain ⟨i, _, rfl⟩ := List.mem_map.1 hx; have := hf i; omega) (fun x hx => by obtain ⟨i, _, rfl⟩ := List.mem_map.1 hx; have := hg i; omega) e2))))
theorem ex_neS {ρ : Operand → Value} {o : Oper} {x y : Operand} {s u : ByteArray} {w : World} {t : Bool} (h : (s.toList == u.toList) = t) (ho : o.op = .binOp .neq 9 x y 9) (hx : ρ x = .string s) (hy : ρ y = .string u) : (execOp ρ o).run Try.prog w = .ok (.value (.bool (!t))) w := by
  subst h
  simp only [execOp, ho, hx, hy]
  kernel_rfl
set_option maxHeartbeats 4000000 in
set_option maxRecDepth 100000 in
theorem Open_bad (K N : Nat → Nat) (gk ok ck gn on cn : Nat) (_hck : 32 ≤ ck) (_hcn : 12 ≤ cn) (P : Nat → Nat) (gb ob n cb : Nat) (mo : Pt8) (hmo : Pok mo) (hNmo0 : mo.p = none → mo.cp = 0) (hP : ∀ j, P j < 256) (hfmo : ∀ j, mo.f j < 256) (h16 : 16 ≤ n) (hcb : n ≤ cb) (hl : n ≤ 1048592) (hm : mo.n ≤ 100000) (hT : ¬ (∀ j, j < 16 → mrk K N mo.f mo.n P (n - 16) j = P ((n - 16) + j))) (w : World) (hRk : Rs gk ok 32 K w) (hRn : Rs gn on 12 N w) (hRb : Rs gb ob n P w) (hRm : mo.rs w) :
    Calls Try.prog 21 #[.slice (some ⟨gk, ok, none⟩) 32 ck, .slice (some ⟨gn, on, none⟩) 12 cn, .slice (some ⟨gb, ob, none⟩) n cb, .slice mo.p mo.n mo.cp] w fun e w' => e = .returned (.tuple #[.slice none 0 0, .int .i64 200]) ∧ Below w.heap.size w w' := by
  have H0 : Hid (_ ∧ _) := ⟨Mm.nil w, Below.refl w.heap.size w⟩
  have RK : Hid (Rs gk ok 32 K w) := hRk
  have RN : Hid (Rs gn on 12 N w) := hRn
  have RB : Hid (Rs gb ob n P w) := hRb
  have RM : Hid (mo.rs w) := hRm
  clear hRk hRn hRb hRm
  have hNmo : Hid (mo.p = none → mo.cp = 0) := hNmo0
  clear hNmo0
  go_enter Try.func21, Try.ntmps21
  refine wp_seq ?_
  refine walk_seqB 2 [.quiet (.slice none 0 0), .quiet (.int .i64 0)] H0 ?ho1 ?he1
  case ho1 => exact ak (fun _ => ⟨rfl, fun _ _ => rfl⟩) (ak (fun _ => ⟨rfl, fun _ _ => rfl⟩) trivial)
  intro _ w1 H1
  refine rest0 rfl (then_normal (wp_seq ?_))
  refine walk_seqB 12 [.quiet (.slice (some ⟨gk, ok, none⟩) 32 ck), .quiet (.slice (some ⟨gn, on, none⟩) 12 cn), .quiet (.slice (some ⟨gb, ob, none⟩) n cb), .quiet (.int .i64 ((n : Nat) : Int)), .quiet (.bool false), .quiet (.bool false), .quiet (.slice mo.p mo.n mo.cp), .quiet (.int .i64 ((mo.n : Nat) : Int)), .quiet (.bool false), .quiet (.bool false), .call (.int .i64 0), .quiet (.int .i64 0)] H1 ?ho2 ?he2
  case ho2 => exact ak (fun _ => ⟨rfl, fun _ _ => rfl⟩) (ak (fun _ => ⟨rfl, fun _ _ => rfl⟩) (ak (fun _ => ⟨rfl, fun _ _ => rfl⟩) (ak (by refine fun γ => ⟨rfl, fun w' h => ?_⟩; clear h; go_simp) (ak (by refine fun γ => ⟨rfl, fun w' h => ?_⟩; clear h; go_simp <;> omega) (ak (fun _ => ⟨rfl, fun _ _ => rfl⟩) (ak (fun _ => ⟨rfl, fun _ _ => rfl⟩) (ak (by refine fun γ => ⟨rfl, fun w' h => ?_⟩; clear h; go_simp) (ak (by refine fun γ => ⟨rfl, fun w' h => ?_⟩; clear h; go_simp <;> omega) (ak (by refine fun γ => ⟨rfl, fun w' h => ?_⟩; clear h; go_simp) (ak (fun γ => ⟨rfl, fun w' h => ⟨30, #[.slice (some ⟨gk, ok, none⟩) 32 ck, .slice (some ⟨gn, on, none⟩) 12 cn, .bool false], exec_call rfl call30 rfl (mpn rfl), wrong_ok _ _ 32 12 _ _ rfl rfl w'⟩⟩) (ak (fun _ => ⟨rfl, fun _ _ => rfl⟩) trivial)))))))))))
  intro _ w2 H2
  clear H1
  refine rest0 rfl (then_normal (wp_seq (wp_seq ?_)))
  refine walk_seqB 2 [.quiet (.int .i64 0), .quiet (.bool false)] H2 ?ho3 ?he3
  case ho3 => exact ak (fun _ => ⟨rfl, fun _ _ => rfl⟩) (ak (by refine fun γ => ⟨rfl, fun w' h => ?_⟩; clear h; go_simp <;> omega) trivial)
  intro _ w3 H3
  clear H2
  refine rest0 rfl (then_normal (wp_cond_false rfl ?_))
  refine wp_skip (then_normal ?_)
  refine wp_seq (wp_seq ?_)
  refine walk_seqB 3 [.quiet (.slice (some ⟨gb, ob, none⟩) n cb), .quiet (.int .i64 ((n : Nat) : Int)), .quiet (.bool false)] H3 ?ho4 ?he4
  case ho4 => exact ak (fun _ => ⟨rfl, fun _ _ => rfl⟩) (ak (by refine fun γ => ⟨rfl, fun w' h => ?_⟩; clear h; go_simp) (ak (by refine fun γ => ⟨rfl, fun w' h => ?_⟩; clear h; go_simp <;> omega) trivial))
  intro _ w4 H4
  clear H3
  refine rest0 rfl (then_normal (wp_cond_false rfl ?_))
  refine wp_skip (then_normal (wp_seq ?_))
  refine walk_seqB 4 [.quiet (.slice (some ⟨gb, ob, none⟩) n cb), .quiet (.int .i64 ((n : Nat) : Int)), .quiet (.int .i64 ((n - 16 : Nat) : Int)), .quiet (.int .i64 ((n - 16 : Nat) : Int))] H4 ?ho5 ?he5
  case ho5 => exact ak (fun _ => ⟨rfl, fun _ _ => rfl⟩) (ak (by refine fun γ => ⟨rfl, fun w' h => ?_⟩; clear h; go_simp) (ak (by refine fun γ => ⟨rfl, fun w' h => ?_⟩; clear h; go_simp; rw [IntKind.wrap_i64]; omega) (ak (fun _ => ⟨rfl, fun _ _ => rfl⟩) trivial)))
  intro _ w5 H5
  clear H4
  refine rest0 rfl (then_normal (wp_seq (wp_seq ?_)))
  refine walk_free (b := ?fz6) (by kernel_rfl) [0, 1, 2, 3, 4, 5, 8, 9, 10, 11] [6, 7, 12] [(32, .slice (some ⟨gk, ok, none⟩) 32 ck), (33, .slice (some ⟨gn, on, none⟩) 12 cn), (34, .slice (some ⟨gb, ob, none⟩) n cb), (35, .int .i64 ((n - 16 : Nat) : Int)), (36, .slice (some ⟨gb, ob, none⟩) (n - 16) cb), (37, .slice mo.p mo.n mo.cp), (40, .slice (some ⟨gb, ob, none⟩) n cb), (41, .int .i64 ((n - 16 : Nat) : Int)), (42, .slice (some ⟨gb, (ob + (n - 16)), none⟩) (n - (n - 16)) (cb - (n - 16))), (43, .string (st (fun j => P ((n - 16) + j)) (n - (n - 16))))] (fun u => Rs gb ob n P u) ?fb6 (by kernel_rfl) ?fok6 (RB.out.below (H5.out.2.trans ((Below.refl _ _).drew.mono H5.out.2.size))) ?fch6
  case fb6 =>
    simp only [fillv, Act.put, List.setIfInBounds_toArray, List.set_cons_zero, List.set_cons_succ]
    exact rfl
  case fok6 => exact ⟨⟨_, rfl, rfl, rfl, fun w' _ => rfl⟩, ⟨_, rfl, rfl, rfl, fun w' _ => rfl⟩, ⟨_, rfl, rfl, rfl, fun w' _ => rfl⟩, ⟨_, rfl, rfl, rfl, fun w' _ => rfl⟩, ⟨_, rfl, rfl, rfl, fun w' _ => ex_slH22 (l := n - 16) rfl rfl rfl (by omega)⟩, ⟨_, rfl, rfl, rfl, fun w' _ => rfl⟩, ⟨_, rfl, rfl, rfl, fun w' _ => rfl⟩, ⟨_, rfl, rfl, rfl, fun w' _ => rfl⟩, ⟨_, rfl, rfl, rfl, fun w' _ => ex_slT (l := n - 16) rfl rfl rfl (by omega) (by omega)⟩, ⟨_, rfl, rfl, rfl, fun w' hS => ex_strO (hS.part (n - 16)) rfl rfl⟩, trivial⟩
  have H6 : Hid (Mm w5.drew [] ∧ Below w.heap.size w w5.drew) := ⟨H5.out.1.drew, H5.out.2.trans ((Below.refl _ _).drew.mono H5.out.2.size)⟩
  clear H5
  generalize w5.drew = w6 at H6 ⊢
  refine ch_enter (d := 38) (R := fun vv w' => Below w6.heap.size w6 w' ∧ ∃ g x, vv = .slice (some ⟨g, 0, none⟩) 16 (16 + x) ∧ w6.heap.size ≤ g ∧ g < w'.heap.size ∧ Blk w' g (ints .u8 (mrk K N mo.f mo.n P (n - 16)) 16)) rfl rfl trivial (exec_call (args := #[.slice (some ⟨gk, ok, none⟩) 32 ck, .slice (some ⟨gn, on, none⟩) 12 cn, .slice (some ⟨gb, ob, none⟩) (n - 16) cb, .slice mo.p mo.n mo.cp]) rfl call41 rfl (mpn rfl)) (Calls.mono (mark_anyB K N P mo.f gk ok ck gn on cn gb ob (n - 16) cb mo.gb mo.o mo.n mo.cp (some ⟨gb, ob, none⟩) mo.p hP hfmo (fun _ => rfl) hmo.at (fun e => by cases e) hNmo.out (by omega) (by omega) w6 (RK.out.below H6.out.2) (RN.out.below H6.out.2) (Rs.head (RB.out.below H6.out.2) (Nat.sub_le _ _)) (RM.out.below H6.out.2)) (fun _ _ ⟨hb, g, x, _, he, h1, h2, h3, _⟩ => ⟨_, he, hb, g, x, rfl, h1, h2, h3⟩)) (fun _ _ hR => RB.out.below (H6.out.2.trans (hR.1.mono H6.out.2.size))) ?_
  rintro _ w7 ⟨hb, γt7, ξt7, rfl, hg1, hg2, hg3⟩
  simp only [Act.put, sa, sz, ss]
  have o_γt7 : Hid (w.heap.size ≤ γt7) := Nat.le_trans H6.out.2.size hg1
  have H7 : Hid (Mm w7 [(γt7, ints .u8 (mrk K N mo.f mo.n P (n - 16)) 16)] ∧ Below w.heap.size w w7) := ⟨Mm.over H6.out.1 hg1 (H6.out.1.below hb) hg3 hg2, H6.out.2.trans (hb.mono H6.out.2.size)⟩
  clear hb hg1 hg2 hg3 H6
  refine ch_set (d := 39) (v := .string (st (mrk K N mo.f mo.n P (n - 16)) 16)) (w' := w7) rfl rfl trivial (ex_strO (H7.out.1.rs 0 rfl (Nat.le_refl _)) rfl rfl) (RB.out.below H7.out.2) ?_
  simp only [Act.put, sa, sz, ss]
  refine ch_set (d := 44) (v := .bool true) (w' := w7) rfl rfl trivial (ex_neS (t := false) (st_beq (fun j => Nat.mod_lt _ (by decide)) (fun j => hP _) _ (⟨fun h => Bool.noConfusion h, fun h => absurd h.2 hT⟩)) rfl rfl rfl) (RB.out.below H7.out.2) ?_
  simp only [Act.put, sa, sz, ss]
  refine ch_nil ?_
  refine then_normal (wp_cond_true rfl (wp_seq ?_))
  refine walk_seqB 2 [.quiet (.slice none 0 0), .quiet (.int .i64 200)] H7 ?ho7 ?he7
  case ho7 => exact ak (fun _ => ⟨rfl, fun _ _ => rfl⟩) (ak (fun _ => ⟨rfl, fun _ _ => rfl⟩) trivial)
  intro _ w8 H8
  clear H7
  refine rest0 rfl (then_normal (wp_ret ?_))
  repeat (first | refine then_ret ?_ | refine block_ret ?_)
  refine bodyPost_ret (v := .tuple #[.slice none 0 0, .int .i64 200]) (by simp [results, Try.results21, go_sem, *]) rfl ?_
  exact ⟨rfl, H8.out.2⟩
set_option maxHeartbeats 4000000 in
set_option maxRecDepth 100000 in
theorem Open_ok (K N : Nat → Nat) (gk ok ck gn on cn : Nat) (_hck : 32 ≤ ck) (_hcn : 12 ≤ cn) (P : Nat → Nat) (gb ob n cb : Nat) (mo : Pt8) (hmo : Pok mo) (hNmo0 : mo.p = none → mo.cp = 0) (hP : ∀ j, P j < 256) (hfmo : ∀ j, mo.f j < 256) (h16 : 16 ≤ n) (hcb : n ≤ cb) (hl : n ≤ 1048592) (hm : mo.n ≤ 100000) (hT : ∀ j, j < 16 → mrk K N mo.f mo.n P (n - 16) j = P ((n - 16) + j)) (w : World) (hRk : Rs gk ok 32 K w) (hRn : Rs gn on 12 N w) (hRb : Rs gb ob n P w) (hRm : mo.rs w) :
    Calls Try.prog 21 #[.slice (some ⟨gk, ok, none⟩) 32 ck, .slice (some ⟨gn, on, none⟩) 12 cn, .slice (some ⟨gb, ob, none⟩) n cb, .slice mo.p mo.n mo.cp] w fun e w' => Below w.heap.size w w' ∧ ∃ v, e = .returned (.tuple #[v, .int .i64 0]) ∧ w'.ownsRow w.heap.size 5 1 v (n - 16) (ints .u8 (so K N 1 P) (n - 16)) := by
  have H0 : Hid (_ ∧ _) := ⟨Mm.nil w, Below.refl w.heap.size w⟩
  have RK : Hid (Rs gk ok 32 K w) := hRk
  have RN : Hid (Rs gn on 12 N w) := hRn
  have RB : Hid (Rs gb ob n P w) := hRb
  have RM : Hid (mo.rs w) := hRm
  clear hRk hRn hRb hRm
  have hNmo : Hid (mo.p = none → mo.cp = 0) := hNmo0
  clear hNmo0
  go_enter Try.func21, Try.ntmps21
  refine wp_seq ?_
  refine walk_seqB 2 [.quiet (.slice none 0 0), .quiet (.int .i64 0)] H0 ?ho1 ?he1
  case ho1 => exact ak (fun _ => ⟨rfl, fun _ _ => rfl⟩) (ak (fun _ => ⟨rfl, fun _ _ => rfl⟩) trivial)
  intro _ w1 H1
  refine rest0 rfl (then_normal (wp_seq ?_))
  refine walk_seqB 12 [.quiet (.slice (some ⟨gk, ok, none⟩) 32 ck), .quiet (.slice (some ⟨gn, on, none⟩) 12 cn), .quiet (.slice (some ⟨gb, ob, none⟩) n cb), .quiet (.int .i64 ((n : Nat) : Int)), .quiet (.bool false), .quiet (.bool false), .quiet (.slice mo.p mo.n mo.cp), .quiet (.int .i64 ((mo.n : Nat) : Int)), .quiet (.bool false), .quiet (.bool false), .call (.int .i64 0), .quiet (.int .i64 0)] H1 ?ho2 ?he2
  case ho2 => exact ak (fun _ => ⟨rfl, fun _ _ => rfl⟩) (ak (fun _ => ⟨rfl, fun _ _ => rfl⟩) (ak (fun _ => ⟨rfl, fun _ _ => rfl⟩) (ak (by refine fun γ => ⟨rfl, fun w' h => ?_⟩; clear h; go_simp) (ak (by refine fun γ => ⟨rfl, fun w' h => ?_⟩; clear h; go_simp <;> omega) (ak (fun _ => ⟨rfl, fun _ _ => rfl⟩) (ak (fun _ => ⟨rfl, fun _ _ => rfl⟩) (ak (by refine fun γ => ⟨rfl, fun w' h => ?_⟩; clear h; go_simp) (ak (by refine fun γ => ⟨rfl, fun w' h => ?_⟩; clear h; go_simp <;> omega) (ak (by refine fun γ => ⟨rfl, fun w' h => ?_⟩; clear h; go_simp) (ak (fun γ => ⟨rfl, fun w' h => ⟨30, #[.slice (some ⟨gk, ok, none⟩) 32 ck, .slice (some ⟨gn, on, none⟩) 12 cn, .bool false], exec_call rfl call30 rfl (mpn rfl), wrong_ok _ _ 32 12 _ _ rfl rfl w'⟩⟩) (ak (fun _ => ⟨rfl, fun _ _ => rfl⟩) trivial)))))))))))
  intro _ w2 H2
  clear H1
  refine rest0 rfl (then_normal (wp_seq (wp_seq ?_)))
  refine walk_seqB 2 [.quiet (.int .i64 0), .quiet (.bool false)] H2 ?ho3 ?he3
  case ho3 => exact ak (fun _ => ⟨rfl, fun _ _ => rfl⟩) (ak (by refine fun γ => ⟨rfl, fun w' h => ?_⟩; clear h; go_simp <;> omega) trivial)
  intro _ w3 H3
  clear H2
  refine rest0 rfl (then_normal (wp_cond_false rfl ?_))
  refine wp_skip (then_normal ?_)
  refine wp_seq (wp_seq ?_)
  refine walk_seqB 3 [.quiet (.slice (some ⟨gb, ob, none⟩) n cb), .quiet (.int .i64 ((n : Nat) : Int)), .quiet (.bool false)] H3 ?ho4 ?he4
  case ho4 => exact ak (fun _ => ⟨rfl, fun _ _ => rfl⟩) (ak (by refine fun γ => ⟨rfl, fun w' h => ?_⟩; clear h; go_simp) (ak (by refine fun γ => ⟨rfl, fun w' h => ?_⟩; clear h; go_simp <;> omega) trivial))
  intro _ w4 H4
  clear H3
  refine rest0 rfl (then_normal (wp_cond_false rfl ?_))
  refine wp_skip (then_normal (wp_seq ?_))
  refine walk_seqB 4 [.quiet (.slice (some ⟨gb, ob, none⟩) n cb), .quiet (.int .i64 ((n : Nat) : Int)), .quiet (.int .i64 ((n - 16 : Nat) : Int)), .quiet (.int .i64 ((n - 16 : Nat) : Int))] H4 ?ho5 ?he5
  case ho5 => exact ak (fun _ => ⟨rfl, fun _ _ => rfl⟩) (ak (by refine fun γ => ⟨rfl, fun w' h => ?_⟩; clear h; go_simp) (ak (by refine fun γ => ⟨rfl, fun w' h => ?_⟩; clear h; go_simp; rw [IntKind.wrap_i64]; omega) (ak (fun _ => ⟨rfl, fun _ _ => rfl⟩) trivial)))
  intro _ w5 H5
  clear H4
  refine rest0 rfl (then_normal (wp_seq (wp_seq ?_)))
  refine walk_free (b := ?fz6) (by kernel_rfl) [0, 1, 2, 3, 4, 5, 8, 9, 10, 11] [6, 7, 12] [(32, .slice (some ⟨gk, ok, none⟩) 32 ck), (33, .slice (some ⟨gn, on, none⟩) 12 cn), (34, .slice (some ⟨gb, ob, none⟩) n cb), (35, .int .i64 ((n - 16 : Nat) : Int)), (36, .slice (some ⟨gb, ob, none⟩) (n - 16) cb), (37, .slice mo.p mo.n mo.cp), (40, .slice (some ⟨gb, ob, none⟩) n cb), (41, .int .i64 ((n - 16 : Nat) : Int)), (42, .slice (some ⟨gb, (ob + (n - 16)), none⟩) (n - (n - 16)) (cb - (n - 16))), (43, .string (st (fun j => P ((n - 16) + j)) (n - (n - 16))))] (fun u => Rs gb ob n P u) ?fb6 (by kernel_rfl) ?fok6 (RB.out.below (H5.out.2.trans ((Below.refl _ _).drew.mono H5.out.2.size))) ?fch6
  case fb6 =>
    simp only [fillv, Act.put, List.setIfInBounds_toArray, List.set_cons_zero, List.set_cons_succ]
    exact rfl
  case fok6 => exact ⟨⟨_, rfl, rfl, rfl, fun w' _ => rfl⟩, ⟨_, rfl, rfl, rfl, fun w' _ => rfl⟩, ⟨_, rfl, rfl, rfl, fun w' _ => rfl⟩, ⟨_, rfl, rfl, rfl, fun w' _ => rfl⟩, ⟨_, rfl, rfl, rfl, fun w' _ => ex_slH22 (l := n - 16) rfl rfl rfl (by omega)⟩, ⟨_, rfl, rfl, rfl, fun w' _ => rfl⟩, ⟨_, rfl, rfl, rfl, fun w' _ => rfl⟩, ⟨_, rfl, rfl, rfl, fun w' _ => rfl⟩, ⟨_, rfl, rfl, rfl, fun w' _ => ex_slT (l := n - 16) rfl rfl rfl (by omega) (by omega)⟩, ⟨_, rfl, rfl, rfl, fun w' hS => ex_strO (hS.part (n - 16)) rfl rfl⟩, trivial⟩
  have H6 : Hid (Mm w5.drew [] ∧ Below w.heap.size w w5.drew) := ⟨H5.out.1.drew, H5.out.2.trans ((Below.refl _ _).drew.mono H5.out.2.size)⟩
  clear H5
  generalize w5.drew = w6 at H6 ⊢
  refine ch_enter (d := 38) (R := fun vv w' => Below w6.heap.size w6 w' ∧ ∃ g x, vv = .slice (some ⟨g, 0, none⟩) 16 (16 + x) ∧ w6.heap.size ≤ g ∧ g < w'.heap.size ∧ Blk w' g (ints .u8 (mrk K N mo.f mo.n P (n - 16)) 16)) rfl rfl trivial (exec_call (args := #[.slice (some ⟨gk, ok, none⟩) 32 ck, .slice (some ⟨gn, on, none⟩) 12 cn, .slice (some ⟨gb, ob, none⟩) (n - 16) cb, .slice mo.p mo.n mo.cp]) rfl call41 rfl (mpn rfl)) (Calls.mono (mark_anyB K N P mo.f gk ok ck gn on cn gb ob (n - 16) cb mo.gb mo.o mo.n mo.cp (some ⟨gb, ob, none⟩) mo.p hP hfmo (fun _ => rfl) hmo.at (fun e => by cases e) hNmo.out (by omega) (by omega) w6 (RK.out.below H6.out.2) (RN.out.below H6.out.2) (Rs.head (RB.out.below H6.out.2) (Nat.sub_le _ _)) (RM.out.below H6.out.2)) (fun _ _ ⟨hb, g, x, _, he, h1, h2, h3, _⟩ => ⟨_, he, hb, g, x, rfl, h1, h2, h3⟩)) (fun _ _ hR => RB.out.below (H6.out.2.trans (hR.1.mono H6.out.2.size))) ?_
  rintro _ w7 ⟨hb, γt7, ξt7, rfl, hg1, hg2, hg3⟩
  simp only [Act.put, sa, sz, ss]
  have o_γt7 : Hid (w.heap.size ≤ γt7) := Nat.le_trans H6.out.2.size hg1
  have H7 : Hid (Mm w7 [(γt7, ints .u8 (mrk K N mo.f mo.n P (n - 16)) 16)] ∧ Below w.heap.size w w7) := ⟨Mm.over H6.out.1 hg1 (H6.out.1.below hb) hg3 hg2, H6.out.2.trans (hb.mono H6.out.2.size)⟩
  clear hb hg1 hg2 hg3 H6
  refine ch_set (d := 39) (v := .string (st (mrk K N mo.f mo.n P (n - 16)) 16)) (w' := w7) rfl rfl trivial (ex_strO (H7.out.1.rs 0 rfl (Nat.le_refl _)) rfl rfl) (RB.out.below H7.out.2) ?_
  simp only [Act.put, sa, sz, ss]
  refine ch_set (d := 44) (v := .bool false) (w' := w7) rfl rfl trivial (ex_neS (t := true) (st_beq (fun j => Nat.mod_lt _ (by decide)) (fun j => hP _) _ (⟨fun _ => ⟨by omega, hT⟩, fun _ => rfl⟩)) rfl rfl rfl) (RB.out.below H7.out.2) ?_
  simp only [Act.put, sa, sz, ss]
  refine ch_nil ?_
  refine then_normal (wp_cond_false rfl ?_)
  refine wp_skip (then_normal (wp_seq ?_))
  refine walk_seqB 5 [.quiet (.slice (some ⟨gk, ok, none⟩) 32 ck), .quiet (.slice (some ⟨gn, on, none⟩) 12 cn), .quiet (.slice (some ⟨gb, ob, none⟩) n cb), .quiet (.int .i64 ((n - 16 : Nat) : Int)), .quiet (.slice (some ⟨gb, ob, none⟩) (n - 16) cb)] H7 ?ho7 ?he7
  case ho7 => exact ak (fun _ => ⟨rfl, fun _ _ => rfl⟩) (ak (fun _ => ⟨rfl, fun _ _ => rfl⟩) (ak (fun _ => ⟨rfl, fun _ _ => rfl⟩) (ak (fun _ => ⟨rfl, fun _ _ => rfl⟩) (ak (fun γ => ⟨rfl, fun w' _ => ex_slH22 (l := n - 16) rfl rfl rfl (by omega)⟩) trivial))))
  intro _ w8 H8
  clear H7
  refine rest_at (l := [5, 6, 7]) rfl ?_
  refine rest_enter (d := 50) (R := fun vv w' => Below w8.heap.size w8 w' ∧ w'.ownsRow w8.heap.size 5 1 vv (n - 16) (ints .u8 (so K N 1 P) (n - 16))) rfl rfl rfl (exec_call (args := #[.slice (some ⟨gk, ok, none⟩) 32 ck, .slice (some ⟨gn, on, none⟩) 12 cn, .int .u32 1, .slice (some ⟨gb, ob, none⟩) (n - 16) cb]) rfl call33 rfl (mpn rfl)) (Calls.mono (stream_any K N P gk ok ck gn on cn 1 gb ob (n - 16) cb (some ⟨gb, ob, none⟩) hP (fun _ => rfl) (by omega) w8 (RK.out.below H8.out.2) (RN.out.below H8.out.2) (Rs.head (RB.out.below H8.out.2) (Nat.sub_le _ _))) (fun e w2 ⟨hb, v, he, ho⟩ => ⟨v, he, hb, ho⟩)) ?_
  intro v9 w9 hR
  simp only [Act.put, sa, sz, ss]
  have HO : Hid (w9.ownsRow w.heap.size 5 1 v9 (n - 16) (ints .u8 (so K N 1 P) (n - 16))) := own_mono hR.2 H8.out.2.size
  have H9 : Hid (Mm w9 [(γt7, ints .u8 (mrk K N mo.f mo.n P (n - 16)) 16)] ∧ Below w.heap.size w w9) := ⟨H8.out.1.below hR.1, H8.out.2.trans (hR.1.mono H8.out.2.size)⟩
  clear hR H8
  refine rest_set (d := 8) (v := v9) (w' := w9) rfl rfl rfl rfl ?_
  simp only [Act.put, sa, sz, ss]
  refine rest_set (d := 9) (v := .int .i64 0) (w' := w9) rfl rfl rfl rfl ?_
  simp only [Act.put, sa, sz, ss]
  refine rest_nil (then_normal (wp_ret ?_))
  repeat (first | refine then_ret ?_ | refine block_ret ?_)
  refine bodyPost_ret (v := .tuple #[v9, .int .i64 0]) (by simp [results, Try.results21, go_sem, *]) rfl ?_
  exact ⟨H9.out.2, _, rfl, HO.out⟩
end Rg
end Go.Proofs.Ytkkippfikfjdpaa
end
section
namespace Go.Proofs.Ytkkippfikfjdpaa
open Go.RowKit
namespace Rg
set_option maxRecDepth 100000
def l2 (x n m : Nat) : Bool := decide (x < n ∨ 1048576 < m)
theorem l2_t {x n m : Nat} (h : x < n ∨ 1048576 < m) : l2 x n m = true := decide_eq_true h
theorem l2_f {x n m : Nat} (h : n ≤ x) (h2 : m ≤ 1048576) : l2 x n m = false := decide_eq_false (by omega)
theorem we_true (k n : Nat) : we k n true ≠ 0 := by
  by_cases h : k ≠ 32 ∨ n ≠ 12
  · rw [we_arg true h]; decide
  · rw [show k = 32 by omega, show n = 12 by omega]; decide
/-- The tag holds. -/
def Tg (K N M : Nat → Nat) (m : Nat) (P : Nat → Nat) (n : Nat) : Prop := ∀ j, j < 16 → mt K N M m P (n - 16) j = P ((n - 16) + j)
def tgb (K N M : Nat → Nat) (m : Nat) (P : Nat → Nat) (n : Nat) : Bool := (List.range 16).all fun j => decide (mt K N M m P (n - 16) j = P ((n - 16) + j))
theorem tgb_iff {K N M : Nat → Nat} {m : Nat} {P : Nat → Nat} {n : Nat} : tgb K N M m P n = true ↔ Tg K N M m P n := by
  unfold tgb Tg
  rw [List.all_eq_true]
  exact ⟨fun h j hj => of_decide_eq_true (h j (List.mem_range.2 hj)), fun h j hj => decide_eq_true (h j (List.mem_range.1 hj))⟩
/-- Which error the opening has. -/
def oe (e s : Nat) (t : Bool) : Nat := if e ≠ 0 then e else if 16 ≤ s ∧ t = true then 0 else 200
theorem oe_err {e : Nat} (s : Nat) (t : Bool) (h : e ≠ 0) : oe e s t = e := by unfold oe; rw [if_pos h]
theorem oe_ok {s : Nat} {t : Bool} (h : 16 ≤ s) (hT : t = true) : oe 0 s t = 0 := by unfold oe; rw [if_neg (by decide), if_pos ⟨h, hT⟩]
theorem oe_no {s : Nat} {t : Bool} (h : ¬ (16 ≤ s ∧ t = true)) : oe 0 s t = 200 := by unfold oe; rw [if_neg (by decide), if_neg h]
theorem seal_doc {K N P M : Nat → Nat} (hM : ∀ j, M j < 256) (n m : Nat) {j : Nat} (hj : j < n + 16) : sl0 K N P n M m j = ct (so K N 1 P) n (mrk K N M m (so K N 1 P) n) j := by
  unfold sl0 ct
  by_cases e : j < n
  · rw [if_pos e, if_pos e]
  · rw [if_neg e, if_neg e]
    exact mt_mrk K N hM (so_256 K N 1 P) m n (by omega)
theorem tg_doc {K N P M : Nat → Nat} (hM : ∀ j, M j < 256) (hP : ∀ j, P j < 256) (n m : Nat) : Tg K N M m P n ↔ ∀ j, j < 16 → mrk K N M m P (n - 16) j = P ((n - 16) + j) := by
  unfold Tg
  constructor
  · intro h j hj
    rw [← mt_mrk K N hM hP m (n - 16) hj]
    exact h j hj
  · intro h j hj
    rw [mt_mrk K N hM hP m (n - 16) hj]
    exact h j hj
theorem sealP (a d q m : Pt8) (ha : Pok a) (hd : Pok d) (hq : Pok q) (hm : Pok m) (hfm : ∀ j, m.f j < 256) (hF : Few q.n) (_hG : Few m.n) (w : World) (Ra : a.rs w) (Rd : d.rs w) (Rq : q.rs w) (Rm : m.rs w) : Calls Try.prog 18 #[.slice a.p a.n a.cp, .slice d.p d.n d.cp, .slice q.p q.n q.cp, .slice m.p m.n m.cp] w fun e w' => ∃ r : Ap, e = .returned (.tuple #[.slice r.p r.n r.c, .int .i64 ((we a.n d.n (l2 1048576 q.n m.n) : Nat) : Int)]) ∧ Rz r (az (we a.n d.n (l2 1048576 q.n m.n)) (q.n + 16)) (sl0 a.f d.f q.f q.n m.f m.n) w w' := by
  unfold Few at hF
  by_cases h : a.n ≠ 32 ∨ d.n ≠ 12
  · rw [we_arg _ h]
    exact Calls.mono (PSeal_err _ _ _ _ _ _ _ _ h w) (fun e w' hh => ⟨apn, hh.1, rz_nil hh.2⟩)
  · have e0 := ha.at (by omega)
    have la := ha.le
    have h0 : a.n = 32 := by omega
    have Ra' : Rs a.gb a.o 32 a.f w := by rw [← h0]; exact Ra
    have e1 := hd.at (by omega)
    have ld := hd.le
    have h1 : d.n = 12 := by omega
    have Rd' : Rs d.gb d.o 12 d.f w := by rw [← h1]; exact Rd
    rw [e0, e1, h0, h1]
    by_cases hl : q.n ≤ 1048576
    · by_cases hm2 : m.n ≤ 1048576
      · rw [l2_f hl hm2, we_ok]
        exact Calls.mono (PSeal_ok a.f d.f a.gb a.o a.cp d.gb d.o d.cp (by omega) (by omega) q m hq hm hfm hl hm2 w Ra' Rd' Rq Rm) (fun e w' hh => by obtain ⟨hb, g, he, g1, g2, g3⟩ := hh; exact ⟨ap g (q.n + 16) (q.n + 16) _, he, rz_some (by omega) (sl0_256 _ _ _ _ _ _) hb g1 g2 g3⟩)
      · rw [l2_t (.inr (by omega)), we_long]
        exact Calls.mono (PSeal_longB _ _ _ _ q m hl (by omega) w) (fun e w' hh => ⟨apn, hh.1, rz_nil hh.2⟩)
    · rw [l2_t (.inl (by omega)), we_long]
      exact Calls.mono (PSeal_longA _ _ _ _ q _ (by omega) w) (fun e w' hh => ⟨apn, hh.1, rz_nil hh.2⟩)
theorem sealD (a d q m : Pt8) (ha : Pok a) (hd : Pok d) (hq : Pok q) (hm : Pok m) (hN : m.p = none → m.cp = 0) (hfq : ∀ j, q.f j < 256) (hfm : ∀ j, m.f j < 256) (hF : Few q.n) (hG : Few m.n) (w : World) (Ra : a.rs w) (Rd : d.rs w) (Rq : q.rs w) (Rm : m.rs w) : Calls Try.prog 19 #[.slice a.p a.n a.cp, .slice d.p d.n d.cp, .slice q.p q.n q.cp, .slice m.p m.n m.cp] w fun e w' => ∃ t : Pt8, e = .returned (.tuple #[.slice t.p t.n t.cp, .int .i64 ((we a.n d.n (l2 1048576 q.n m.n) : Nat) : Int)]) ∧ Dz t (az (we a.n d.n (l2 1048576 q.n m.n)) (q.n + 16)) (ct (so a.f d.f 1 q.f) q.n (mrk a.f d.f m.f m.n (so a.f d.f 1 q.f) q.n)) w w' := by
  unfold Few at hF hG
  by_cases hl : q.n ≤ 1048576
  · by_cases hm2 : m.n ≤ 1048576
    · rw [l2_f hl hm2]
      by_cases h : a.n ≠ 32 ∨ d.n ≠ 12
      · have h2 : we a.n d.n false ≠ 0 := by rw [we_arg false h]; decide
        rw [az_no _ h2]
        exact Calls.mono (Seal_errA _ _ _ _ _ _ _ _ _ _ _ _ hl hm2 h2 w) (fun e w' hh => ⟨pno, hh.1, dz_nil hh.2⟩)
      · have e0 := ha.at (by omega)
        have la := ha.le
        have h0 : a.n = 32 := by omega
        have Ra' : Rs a.gb a.o 32 a.f w := by rw [← h0]; exact Ra
        have e1 := hd.at (by omega)
        have ld := hd.le
        have h1 : d.n = 12 := by omega
        have Rd' : Rs d.gb d.o 12 d.f w := by rw [← h1]; exact Rd
        rw [e0, e1, h0, h1, we_ok]
        exact Calls.mono (Seal_ok a.f d.f q.f m.f a.gb a.o a.cp d.gb d.o d.cp q.gb q.o q.n q.cp m.gb m.o m.n m.cp q.p m.p hfq hfm hq.at hm.at hN (by omega) (by omega) w Ra' Rd' Rq Rm) (fun e w' hh => by obtain ⟨hb, v, he, ho⟩ := hh; obtain ⟨t, rfl, ht⟩ := dz_own (ct_lt (so_256 _ _ _ _) (fun j => Nat.mod_lt _ (by decide))) hb ho; exact ⟨t, he, ht⟩)
    · rw [l2_t (.inr (by omega)), az_no _ (we_true _ _)]
      exact Calls.mono (Seal_errC _ _ _ _ _ _ _ _ _ _ _ _ hl (by omega) (we_true _ _) w) (fun e w' hh => ⟨pno, hh.1, dz_nil hh.2⟩)
  · rw [l2_t (.inl (by omega)), az_no _ (we_true _ _)]
    exact Calls.mono (Seal_errB _ _ _ _ _ _ _ _ _ _ _ _ (by omega) (we_true _ _) w) (fun e w' hh => ⟨pno, hh.1, dz_nil hh.2⟩)
theorem openP (a d s m : Pt8) (ha : Pok a) (hd : Pok d) (hs : Pok s) (hm : Pok m) (hfs : ∀ j, s.f j < 256) (hfm : ∀ j, m.f j < 256) (w : World) (Ra : a.rs w) (Rd : d.rs w) (Rs_ : s.rs w) (Rm : m.rs w) : Calls Try.prog 20 #[.slice a.p a.n a.cp, .slice d.p d.n d.cp, .slice s.p s.n s.cp, .slice m.p m.n m.cp] w fun e w' => ∃ r : Ap, e = .returned (.tuple #[.slice r.p r.n r.c, .int .i64 ((oe (we a.n d.n (l2 1048592 s.n m.n)) s.n (tgb a.f d.f m.f m.n s.f s.n) : Nat) : Int)]) ∧ Rz r (az (oe (we a.n d.n (l2 1048592 s.n m.n)) s.n (tgb a.f d.f m.f m.n s.f s.n)) (s.n - 16)) (so a.f d.f 1 s.f) w w' := by
  by_cases h : a.n ≠ 32 ∨ d.n ≠ 12
  · rw [we_arg _ h, oe_err _ _ (by decide)]
    exact Calls.mono (POpen_err _ _ _ _ _ _ _ _ h w) (fun e w' hh => ⟨apn, hh.1, rz_nil hh.2⟩)
  · have e0 := ha.at (by omega)
    have la := ha.le
    have h0 : a.n = 32 := by omega
    have Ra' : Rs a.gb a.o 32 a.f w := by rw [← h0]; exact Ra
    have e1 := hd.at (by omega)
    have ld := hd.le
    have h1 : d.n = 12 := by omega
    have Rd' : Rs d.gb d.o 12 d.f w := by rw [← h1]; exact Rd
    rw [e0, e1, h0, h1]
    by_cases hl : s.n ≤ 1048592
    · by_cases hm2 : m.n ≤ 1048576
      · rw [l2_f hl hm2, we_ok]
        by_cases h16 : 16 ≤ s.n
        · have e2 := hs.at (by omega)
          have ls := hs.le
          rw [e2]
          by_cases hT : Tg a.f d.f m.f m.n s.f s.n
          · rw [oe_ok h16 (tgb_iff.2 hT)]
            exact Calls.mono (POpen_ok a.f d.f a.gb a.o a.cp d.gb d.o d.cp (by omega) (by omega) s.f s.gb s.o s.n s.cp m hm hfs hfm h16 ls hl hm2 hT w Ra' Rd' Rs_ Rm) (fun e w' hh => by obtain ⟨hb, g, he, g1, g2, g3⟩ := hh; exact ⟨ap g (s.n - 16) (s.n - 16) _, he, rz_some (by omega) (so_256 _ _ _ _) hb g1 g2 g3⟩)
          · rw [oe_no (fun h => hT (tgb_iff.1 h.2))]
            exact Calls.mono (POpen_bad a.f d.f a.gb a.o a.cp d.gb d.o d.cp (by omega) (by omega) s.f s.gb s.o s.n s.cp m hm hfs hfm h16 ls hl hm2 hT w Ra' Rd' Rs_ Rm) (fun e w' hh => ⟨apn, hh.1, rz_nil hh.2⟩)
        · rw [oe_no (fun h => h16 h.1)]
          exact Calls.mono (POpen_short _ _ _ _ s m (by omega) hm2 w) (fun e w' hh => ⟨apn, hh.1, rz_nil hh.2⟩)
      · rw [l2_t (.inr (by omega)), we_long, oe_err _ _ (by decide)]
        exact Calls.mono (POpen_longB _ _ _ _ s m hl (by omega) w) (fun e w' hh => ⟨apn, hh.1, rz_nil hh.2⟩)
    · rw [l2_t (.inl (by omega)), we_long, oe_err _ _ (by decide)]
      exact Calls.mono (POpen_longA _ _ _ _ s _ (by omega) w) (fun e w' hh => ⟨apn, hh.1, rz_nil hh.2⟩)
theorem openD (a d s m : Pt8) (ha : Pok a) (hd : Pok d) (hs : Pok s) (hm : Pok m) (hN : m.p = none → m.cp = 0) (hfs : ∀ j, s.f j < 256) (hfm : ∀ j, m.f j < 256) (hG : Few m.n) (A D S M : Nat → Nat) (eA : a.f = A) (eD : d.f = D) (eS : s.f = S) (eM : m.f = M) (w : World) (Ra : a.rs w) (Rd : d.rs w) (Rs_ : s.rs w) (Rm : m.rs w) : Calls Try.prog 21 #[.slice a.p a.n a.cp, .slice d.p d.n d.cp, .slice s.p s.n s.cp, .slice m.p m.n m.cp] w fun e w' => ∃ t : Pt8, e = .returned (.tuple #[.slice t.p t.n t.cp, .int .i64 ((oe (we a.n d.n (l2 1048592 s.n m.n)) s.n (tgb A D M m.n S s.n) : Nat) : Int)]) ∧ Dz t (az (oe (we a.n d.n (l2 1048592 s.n m.n)) s.n (tgb A D M m.n S s.n)) (s.n - 16)) (so A D 1 S) w w' := by
  subst eA eD eS eM
  unfold Few at hG
  by_cases hl : s.n ≤ 1048592
  · by_cases hm2 : m.n ≤ 1048576
    · rw [l2_f hl hm2]
      by_cases h : a.n ≠ 32 ∨ d.n ≠ 12
      · have h2 : we a.n d.n false ≠ 0 := by rw [we_arg false h]; decide
        rw [oe_err _ _ h2, az_no _ h2]
        exact Calls.mono (Open_errA _ _ _ _ _ _ _ _ _ _ _ _ hl hm2 h2 w) (fun e w' hh => ⟨pno, hh.1, dz_nil hh.2⟩)
      · have e0 := ha.at (by omega)
        have la := ha.le
        have h0 : a.n = 32 := by omega
        have Ra' : Rs a.gb a.o 32 a.f w := by rw [← h0]; exact Ra
        have e1 := hd.at (by omega)
        have ld := hd.le
        have h1 : d.n = 12 := by omega
        have Rd' : Rs d.gb d.o 12 d.f w := by rw [← h1]; exact Rd
        rw [e0, e1, h0, h1, we_ok]
        by_cases h16 : 16 ≤ s.n
        · have e2 := hs.at (by omega)
          have ls := hs.le
          rw [e2]
          by_cases hT : Tg a.f d.f m.f m.n s.f s.n
          · rw [oe_ok h16 (tgb_iff.2 hT)]
            exact Calls.mono (Open_ok a.f d.f a.gb a.o a.cp d.gb d.o d.cp (by omega) (by omega) s.f s.gb s.o s.n s.cp m hm hN hfs hfm h16 ls hl (by omega) ((tg_doc hfm hfs _ _).1 hT) w Ra' Rd' Rs_ Rm) (fun e w' hh => by obtain ⟨hb, v, he, ho⟩ := hh; obtain ⟨t, rfl, ht⟩ := dz_own (so_256 _ _ _ _) hb ho; exact ⟨t, he, ht⟩)
          · rw [oe_no (fun h => hT (tgb_iff.1 h.2))]
            exact Calls.mono (Open_bad a.f d.f a.gb a.o a.cp d.gb d.o d.cp (by omega) (by omega) s.f s.gb s.o s.n s.cp m hm hN hfs hfm h16 ls hl (by omega) (fun h => hT ((tg_doc hfm hfs _ _).2 h)) w Ra' Rd' Rs_ Rm) (fun e w' hh => ⟨pno, hh.1, dz_nil hh.2⟩)
        · rw [oe_no (fun h => h16 h.1)]
          exact Calls.mono (Open_short _ _ 32 12 _ _ _ _ _ _ _ _ we_ok (by omega) hm2 w) (fun e w' hh => ⟨pno, hh.1, dz_nil hh.2⟩)
    · rw [l2_t (.inr (by omega)), oe_err _ _ (we_true _ _), az_no _ (we_true _ _)]
      exact Calls.mono (Open_errC _ _ _ _ _ _ _ _ _ _ _ _ hl (by omega) (we_true _ _) w) (fun e w' hh => ⟨pno, hh.1, dz_nil hh.2⟩)
  · rw [l2_t (.inl (by omega)), oe_err _ _ (we_true _ _), az_no _ (we_true _ _)]
    exact Calls.mono (Open_errB _ _ _ _ _ _ _ _ _ _ _ _ (by omega) (we_true _ _) w) (fun e w' hh => ⟨pno, hh.1, dz_nil hh.2⟩)
end Rg
end Go.Proofs.Ytkkippfikfjdpaa
end
section
namespace Go.Proofs.Ytkkippfikfjdpaa
open Go.RowKit
namespace Rg
set_option maxRecDepth 100000
theorem az_lt {e n j : Nat} (h : j < az e n) : j < n := by
  unfold az at h
  split at h
  · exact h
  · exact absurd h (Nat.not_lt_zero _)
theorem ap_ok {g n c : Nat} {f : Nat → Nat} (h1 : n ≤ c) (h2 : c ≤ 1048576) (h3 : ∀ j, f j < 256) : (ap g n c f).Ok := ⟨.inl rfl, h1, h2, h3⟩
theorem bsl_ar {w : World} {xs : List Int} {c : Nat} {v : Value} (hx : ∀ x ∈ xs, 0 ≤ x ∧ x < 256) (h : BSl w xs c v) (h0 : v = .slice none 0 0 ∨ ∃ a k c', v = .slice (some a) k c') :
    ∃ q : Pt8, v = .slice q.p q.n q.cp ∧ Ar xs q ∧ q.bs xs w := by
  obtain ⟨q, e, h1, h2, h3, h4, h5, h6⟩ := bsl_part hx h h0
  subst e
  exact ⟨q, rfl, ⟨h1, h2, h4, h5, hx⟩, by rw [h6]; rw [h6] at h; exact h, h3⟩
theorem call7 : ∀ args w, (callFunc 7 args).run Try.prog w = .ok (.enter 7 args) w := by intro args w; go_simp
theorem call8 : ∀ args w, (callFunc 8 args).run Try.prog w = .ok (.enter 8 args) w := by intro args w; go_simp
theorem call16 : ∀ args w, (callFunc 16 args).run Try.prog w = .ok (.enter 16 args) w := by intro args w; go_simp
theorem call17 : ∀ args w, (callFunc 17 args).run Try.prog w = .ok (.enter 17 args) w := by intro args w; go_simp
end Rg
end Go.Proofs.Ytkkippfikfjdpaa
end
section
namespace Go.Proofs.Ytkkippfikfjdpaa
open Go.RowKit
namespace Rg
set_option maxRecDepth 100000
theorem ex_bsL4 {ρ : Operand → Value} {o : Oper} {x0 x1 x2 x3 : Operand} {w : World} {p0 p1 p2 p3 : Option Addr} {n0 c0 n1 c1 n2 c2 n3 c3 : Nat} (ho : o.op = .buildSlice 37 4 #[(0, x0), (1, x1), (2, x2), (3, x3)]) (h0 : ρ x0 = .slice p0 n0 c0) (h1 : ρ x1 = .slice p1 n1 c1) (h2 : ρ x2 = .slice p2 n2 c2) (h3 : ρ x3 = .slice p3 n3 c3) : (execOp ρ o).run Try.prog w = .ok (.value (.slice (some ⟨w.heap.size, 0, none⟩) 4 4)) (w.alloc (.cells ([.slice p0 n0 c0, .slice p1 n1 c1, .slice p2 n2 c2, .slice p3 n3 c3] : List Value).toArray 22)) := by
  simp only [execOp, ho, List.map_toArray, List.map_cons, List.map_nil, h0, h1, h2, h3]
  kernel_rfl
theorem call18 : ∀ args w, (callFunc 18 args).run Try.prog w = .ok (.enter 18 args) w := by intro args w; go_simp
theorem call19 : ∀ args w, (callFunc 19 args).run Try.prog w = .ok (.enter 19 args) w := by intro args w; go_simp
theorem call20 : ∀ args w, (callFunc 20 args).run Try.prog w = .ok (.enter 20 args) w := by intro args w; go_simp
theorem call21 : ∀ args w, (callFunc 21 args).run Try.prog w = .ok (.enter 21 args) w := by intro args w; go_simp
set_option maxHeartbeats 8000000 in
set_option maxRecDepth 100000 in
theorem seals_fq (xs ys zs us vs : List Int) (a d q m s : Pt8) (hfq : ¬ Few q.n) (w : World) (hRa : a.bs xs w) (hRd : d.bs ys w) (hRq : q.bs zs w) (hRm : m.bs us w) (hRs : s.bs vs w) :
    Calls Try.prog 4 #[.slice a.p a.n a.cp, .slice d.p d.n d.cp, .slice q.p q.n q.cp, .slice m.p m.n m.cp, .slice s.p s.n s.cp] w fun e w' => e = .returned (.bool true) ∧ Below w.heap.size w w' := by
  have H0 : Hid (_ ∧ _) := ⟨Mm.nil w, Below.refl w.heap.size w⟩
  have RA : Hid (a.bs xs w) := hRa
  have RD : Hid (d.bs ys w) := hRd
  have RQ : Hid (q.bs zs w) := hRq
  have RM : Hid (m.bs us w) := hRm
  have RS : Hid (s.bs vs w) := hRs
  clear hRa hRd hRq hRm hRs
  go_enter Try.func4, Try.ntmps4
  refine wp_seq ?_
  refine walk_seqB 1 [.quiet (.bool false)] H0 ?ho1 ?he1
  case ho1 => exact ak (fun _ => ⟨rfl, fun _ _ => rfl⟩) trivial
  intro _ w1 H1
  refine rest0 rfl (then_normal (wp_seq (wp_seq ?_)))
  refine walk_seqB 23 [.quiet (.slice q.p q.n q.cp), .call (.bool false), .quiet (.bool true), .quiet (.bool true), .gone, .gone, .gone, .quiet (.bool true), .quiet (.bool true), .gone, .gone, .gone, .quiet (.bool true), .quiet (.bool true), .gone, .gone, .gone, .quiet (.bool true), .quiet (.bool true), .gone, .gone, .gone, .quiet (.bool true)] H1 ?ho2 ?he2
  case ho2 => exact ak (fun _ => ⟨rfl, fun _ _ => rfl⟩) (ak (fun γ => ⟨rfl, fun w' h => ⟨7, #[.slice q.p q.n q.cp], exec_call rfl call7 rfl (mpn rfl), few_no q hfq w'⟩⟩) (ak (by refine fun γ => ⟨rfl, fun w' h => ?_⟩; clear h; go_simp) (ak (fun _ => ⟨rfl, fun _ _ => rfl⟩) (ak (fun γ => rfl) (ak (fun γ => rfl) (ak (fun γ => rfl) (ak (by refine fun γ => ⟨rfl, fun w' h => ?_⟩; clear h; go_simp) (ak (fun _ => ⟨rfl, fun _ _ => rfl⟩) (ak (fun γ => rfl) (ak (fun γ => rfl) (ak (fun γ => rfl) (ak (by refine fun γ => ⟨rfl, fun w' h => ?_⟩; clear h; go_simp) (ak (fun _ => ⟨rfl, fun _ _ => rfl⟩) (ak (fun γ => rfl) (ak (fun γ => rfl) (ak (fun γ => rfl) (ak (by refine fun γ => ⟨rfl, fun w' h => ?_⟩; clear h; go_simp) (ak (fun _ => ⟨rfl, fun _ _ => rfl⟩) (ak (fun γ => rfl) (ak (fun γ => rfl) (ak (fun γ => rfl) (ak (by refine fun γ => ⟨rfl, fun w' h => ?_⟩; clear h; go_simp) trivial))))))))))))))))))))))
  intro _ w2 H2
  clear H1
  refine rest0 rfl (then_normal (wp_cond_true rfl (wp_seq ?_)))
  refine walk_seqB 1 [.quiet (.bool true)] H2 ?ho3 ?he3
  case ho3 => exact ak (fun _ => ⟨rfl, fun _ _ => rfl⟩) trivial
  intro _ w3 H3
  clear H2
  refine rest0 rfl (then_normal (wp_ret ?_))
  repeat (first | refine then_ret ?_ | refine block_ret ?_)
  refine bodyPost_ret (v := .bool true) (by simp [results, Try.results4, go_sem, *]) rfl ?_
  exact ⟨rfl, H3.out.2⟩
set_option maxHeartbeats 8000000 in
set_option maxRecDepth 100000 in
theorem seals_fm (xs ys zs us vs : List Int) (a d q m s : Pt8) (hfq : Few q.n) (hfm : ¬ Few m.n) (w : World) (hRa : a.bs xs w) (hRd : d.bs ys w) (hRq : q.bs zs w) (hRm : m.bs us w) (hRs : s.bs vs w) :
    Calls Try.prog 4 #[.slice a.p a.n a.cp, .slice d.p d.n d.cp, .slice q.p q.n q.cp, .slice m.p m.n m.cp, .slice s.p s.n s.cp] w fun e w' => e = .returned (.bool true) ∧ Below w.heap.size w w' := by
  have H0 : Hid (_ ∧ _) := ⟨Mm.nil w, Below.refl w.heap.size w⟩
  have RA : Hid (a.bs xs w) := hRa
  have RD : Hid (d.bs ys w) := hRd
  have RQ : Hid (q.bs zs w) := hRq
  have RM : Hid (m.bs us w) := hRm
  have RS : Hid (s.bs vs w) := hRs
  clear hRa hRd hRq hRm hRs
  go_enter Try.func4, Try.ntmps4
  refine wp_seq ?_
  refine walk_seqB 1 [.quiet (.bool false)] H0 ?ho1 ?he1
  case ho1 => exact ak (fun _ => ⟨rfl, fun _ _ => rfl⟩) trivial
  intro _ w1 H1
  refine rest0 rfl (then_normal (wp_seq (wp_seq ?_)))
  refine walk_seqB 23 [.quiet (.slice q.p q.n q.cp), .call (.bool true), .quiet (.bool false), .quiet (.bool false), .quiet (.slice m.p m.n m.cp), .call (.bool false), .quiet (.bool true), .quiet (.bool true), .quiet (.bool true), .gone, .gone, .gone, .quiet (.bool true), .quiet (.bool true), .gone, .gone, .gone, .quiet (.bool true), .quiet (.bool true), .gone, .gone, .gone, .quiet (.bool true)] H1 ?ho2 ?he2
  case ho2 => exact ak (fun _ => ⟨rfl, fun _ _ => rfl⟩) (ak (fun γ => ⟨rfl, fun w' h => ⟨7, #[.slice q.p q.n q.cp], exec_call rfl call7 rfl (mpn rfl), few_yes q hfq w'⟩⟩) (ak (by refine fun γ => ⟨rfl, fun w' h => ?_⟩; clear h; go_simp) (ak (fun _ => ⟨rfl, fun _ _ => rfl⟩) (ak (fun _ => ⟨rfl, fun _ _ => rfl⟩) (ak (fun γ => ⟨rfl, fun w' h => ⟨7, #[.slice m.p m.n m.cp], exec_call rfl call7 rfl (mpn rfl), few_no m hfm w'⟩⟩) (ak (by refine fun γ => ⟨rfl, fun w' h => ?_⟩; clear h; go_simp) (ak (by refine fun γ => ⟨rfl, fun w' h => ?_⟩; clear h; go_simp) (ak (fun _ => ⟨rfl, fun _ _ => rfl⟩) (ak (fun γ => rfl) (ak (fun γ => rfl) (ak (fun γ => rfl) (ak (by refine fun γ => ⟨rfl, fun w' h => ?_⟩; clear h; go_simp) (ak (fun _ => ⟨rfl, fun _ _ => rfl⟩) (ak (fun γ => rfl) (ak (fun γ => rfl) (ak (fun γ => rfl) (ak (by refine fun γ => ⟨rfl, fun w' h => ?_⟩; clear h; go_simp) (ak (fun _ => ⟨rfl, fun _ _ => rfl⟩) (ak (fun γ => rfl) (ak (fun γ => rfl) (ak (fun γ => rfl) (ak (by refine fun γ => ⟨rfl, fun w' h => ?_⟩; clear h; go_simp) trivial))))))))))))))))))))))
  intro _ w2 H2
  clear H1
  refine rest0 rfl (then_normal (wp_cond_true rfl (wp_seq ?_)))
  refine walk_seqB 1 [.quiet (.bool true)] H2 ?ho3 ?he3
  case ho3 => exact ak (fun _ => ⟨rfl, fun _ _ => rfl⟩) trivial
  intro _ w3 H3
  clear H2
  refine rest0 rfl (then_normal (wp_ret ?_))
  repeat (first | refine then_ret ?_ | refine block_ret ?_)
  refine bodyPost_ret (v := .bool true) (by simp [results, Try.results4, go_sem, *]) rfl ?_
  exact ⟨rfl, H3.out.2⟩
set_option maxHeartbeats 8000000 in
set_option maxRecDepth 100000 in
theorem seals_fs (xs ys zs us vs : List Int) (a d q m s : Pt8) (hfq : Few q.n) (hfm : Few m.n) (hfs : ¬ Few s.n) (w : World) (hRa : a.bs xs w) (hRd : d.bs ys w) (hRq : q.bs zs w) (hRm : m.bs us w) (hRs : s.bs vs w) :
    Calls Try.prog 4 #[.slice a.p a.n a.cp, .slice d.p d.n d.cp, .slice q.p q.n q.cp, .slice m.p m.n m.cp, .slice s.p s.n s.cp] w fun e w' => e = .returned (.bool true) ∧ Below w.heap.size w w' := by
  have H0 : Hid (_ ∧ _) := ⟨Mm.nil w, Below.refl w.heap.size w⟩
  have RA : Hid (a.bs xs w) := hRa
  have RD : Hid (d.bs ys w) := hRd
  have RQ : Hid (q.bs zs w) := hRq
  have RM : Hid (m.bs us w) := hRm
  have RS : Hid (s.bs vs w) := hRs
  clear hRa hRd hRq hRm hRs
  go_enter Try.func4, Try.ntmps4
  refine wp_seq ?_
  refine walk_seqB 1 [.quiet (.bool false)] H0 ?ho1 ?he1
  case ho1 => exact ak (fun _ => ⟨rfl, fun _ _ => rfl⟩) trivial
  intro _ w1 H1
  refine rest0 rfl (then_normal (wp_seq (wp_seq ?_)))
  refine walk_seqB 23 [.quiet (.slice q.p q.n q.cp), .call (.bool true), .quiet (.bool false), .quiet (.bool false), .quiet (.slice m.p m.n m.cp), .call (.bool true), .quiet (.bool false), .quiet (.bool false), .quiet (.bool false), .quiet (.slice s.p s.n s.cp), .call (.bool false), .quiet (.bool true), .quiet (.bool true), .quiet (.bool true), .gone, .gone, .gone, .quiet (.bool true), .quiet (.bool true), .gone, .gone, .gone, .quiet (.bool true)] H1 ?ho2 ?he2
  case ho2 => exact ak (fun _ => ⟨rfl, fun _ _ => rfl⟩) (ak (fun γ => ⟨rfl, fun w' h => ⟨7, #[.slice q.p q.n q.cp], exec_call rfl call7 rfl (mpn rfl), few_yes q hfq w'⟩⟩) (ak (by refine fun γ => ⟨rfl, fun w' h => ?_⟩; clear h; go_simp) (ak (fun _ => ⟨rfl, fun _ _ => rfl⟩) (ak (fun _ => ⟨rfl, fun _ _ => rfl⟩) (ak (fun γ => ⟨rfl, fun w' h => ⟨7, #[.slice m.p m.n m.cp], exec_call rfl call7 rfl (mpn rfl), few_yes m hfm w'⟩⟩) (ak (by refine fun γ => ⟨rfl, fun w' h => ?_⟩; clear h; go_simp) (ak (by refine fun γ => ⟨rfl, fun w' h => ?_⟩; clear h; go_simp) (ak (fun _ => ⟨rfl, fun _ _ => rfl⟩) (ak (fun _ => ⟨rfl, fun _ _ => rfl⟩) (ak (fun γ => ⟨rfl, fun w' h => ⟨7, #[.slice s.p s.n s.cp], exec_call rfl call7 rfl (mpn rfl), few_no s hfs w'⟩⟩) (ak (by refine fun γ => ⟨rfl, fun w' h => ?_⟩; clear h; go_simp) (ak (by refine fun γ => ⟨rfl, fun w' h => ?_⟩; clear h; go_simp) (ak (fun _ => ⟨rfl, fun _ _ => rfl⟩) (ak (fun γ => rfl) (ak (fun γ => rfl) (ak (fun γ => rfl) (ak (by refine fun γ => ⟨rfl, fun w' h => ?_⟩; clear h; go_simp) (ak (fun _ => ⟨rfl, fun _ _ => rfl⟩) (ak (fun γ => rfl) (ak (fun γ => rfl) (ak (fun γ => rfl) (ak (by refine fun γ => ⟨rfl, fun w' h => ?_⟩; clear h; go_simp) trivial))))))))))))))))))))))
  intro _ w2 H2
  clear H1
  refine rest0 rfl (then_normal (wp_cond_true rfl (wp_seq ?_)))
  refine walk_seqB 1 [.quiet (.bool true)] H2 ?ho3 ?he3
  case ho3 => exact ak (fun _ => ⟨rfl, fun _ _ => rfl⟩) trivial
  intro _ w3 H3
  clear H2
  refine rest0 rfl (then_normal (wp_ret ?_))
  repeat (first | refine then_ret ?_ | refine block_ret ?_)
  refine bodyPost_ret (v := .bool true) (by simp [results, Try.results4, go_sem, *]) rfl ?_
  exact ⟨rfl, H3.out.2⟩
set_option maxHeartbeats 8000000 in
set_option maxRecDepth 100000 in
theorem seals_a (xs ys zs us vs : List Int) (a d q m s : Pt8) (hfq : Few q.n) (hfm : Few m.n) (hfs : Few s.n) (hk : 2000 < a.n) (w : World) (hRa : a.bs xs w) (hRd : d.bs ys w) (hRq : q.bs zs w) (hRm : m.bs us w) (hRs : s.bs vs w) :
    Calls Try.prog 4 #[.slice a.p a.n a.cp, .slice d.p d.n d.cp, .slice q.p q.n q.cp, .slice m.p m.n m.cp, .slice s.p s.n s.cp] w fun e w' => e = .returned (.bool true) ∧ Below w.heap.size w w' := by
  have H0 : Hid (_ ∧ _) := ⟨Mm.nil w, Below.refl w.heap.size w⟩
  have RA : Hid (a.bs xs w) := hRa
  have RD : Hid (d.bs ys w) := hRd
  have RQ : Hid (q.bs zs w) := hRq
  have RM : Hid (m.bs us w) := hRm
  have RS : Hid (s.bs vs w) := hRs
  clear hRa hRd hRq hRm hRs
  go_enter Try.func4, Try.ntmps4
  refine wp_seq ?_
  refine walk_seqB 1 [.quiet (.bool false)] H0 ?ho1 ?he1
  case ho1 => exact ak (fun _ => ⟨rfl, fun _ _ => rfl⟩) trivial
  intro _ w1 H1
  refine rest0 rfl (then_normal (wp_seq (wp_seq ?_)))
  refine walk_seqB 23 [.quiet (.slice q.p q.n q.cp), .call (.bool true), .quiet (.bool false), .quiet (.bool false), .quiet (.slice m.p m.n m.cp), .call (.bool true), .quiet (.bool false), .quiet (.bool false), .quiet (.bool false), .quiet (.slice s.p s.n s.cp), .call (.bool true), .quiet (.bool false), .quiet (.bool false), .quiet (.bool false), .quiet (.slice a.p a.n a.cp), .quiet (.int .i64 ((a.n : Nat) : Int)), .quiet (.bool true), .quiet (.bool true), .quiet (.bool true), .gone, .gone, .gone, .quiet (.bool true)] H1 ?ho2 ?he2
  case ho2 => exact ak (fun _ => ⟨rfl, fun _ _ => rfl⟩) (ak (fun γ => ⟨rfl, fun w' h => ⟨7, #[.slice q.p q.n q.cp], exec_call rfl call7 rfl (mpn rfl), few_yes q hfq w'⟩⟩) (ak (by refine fun γ => ⟨rfl, fun w' h => ?_⟩; clear h; go_simp) (ak (fun _ => ⟨rfl, fun _ _ => rfl⟩) (ak (fun _ => ⟨rfl, fun _ _ => rfl⟩) (ak (fun γ => ⟨rfl, fun w' h => ⟨7, #[.slice m.p m.n m.cp], exec_call rfl call7 rfl (mpn rfl), few_yes m hfm w'⟩⟩) (ak (by refine fun γ => ⟨rfl, fun w' h => ?_⟩; clear h; go_simp) (ak (by refine fun γ => ⟨rfl, fun w' h => ?_⟩; clear h; go_simp) (ak (fun _ => ⟨rfl, fun _ _ => rfl⟩) (ak (fun _ => ⟨rfl, fun _ _ => rfl⟩) (ak (fun γ => ⟨rfl, fun w' h => ⟨7, #[.slice s.p s.n s.cp], exec_call rfl call7 rfl (mpn rfl), few_yes s hfs w'⟩⟩) (ak (by refine fun γ => ⟨rfl, fun w' h => ?_⟩; clear h; go_simp) (ak (by refine fun γ => ⟨rfl, fun w' h => ?_⟩; clear h; go_simp) (ak (fun _ => ⟨rfl, fun _ _ => rfl⟩) (ak (fun _ => ⟨rfl, fun _ _ => rfl⟩) (ak (by refine fun γ => ⟨rfl, fun w' h => ?_⟩; clear h; go_simp) (ak (by refine fun γ => ⟨rfl, fun w' h => ?_⟩; clear h; go_simp <;> omega) (ak (by refine fun γ => ⟨rfl, fun w' h => ?_⟩; clear h; go_simp) (ak (fun _ => ⟨rfl, fun _ _ => rfl⟩) (ak (fun γ => rfl) (ak (fun γ => rfl) (ak (fun γ => rfl) (ak (by refine fun γ => ⟨rfl, fun w' h => ?_⟩; clear h; go_simp) trivial))))))))))))))))))))))
  intro _ w2 H2
  clear H1
  refine rest0 rfl (then_normal (wp_cond_true rfl (wp_seq ?_)))
  refine walk_seqB 1 [.quiet (.bool true)] H2 ?ho3 ?he3
  case ho3 => exact ak (fun _ => ⟨rfl, fun _ _ => rfl⟩) trivial
  intro _ w3 H3
  clear H2
  refine rest0 rfl (then_normal (wp_ret ?_))
  repeat (first | refine then_ret ?_ | refine block_ret ?_)
  refine bodyPost_ret (v := .bool true) (by simp [results, Try.results4, go_sem, *]) rfl ?_
  exact ⟨rfl, H3.out.2⟩
set_option maxHeartbeats 8000000 in
set_option maxRecDepth 100000 in
theorem seals_d (xs ys zs us vs : List Int) (a d q m s : Pt8) (hfq : Few q.n) (hfm : Few m.n) (hfs : Few s.n) (hk : a.n ≤ 2000) (hl : 2000 < d.n) (w : World) (hRa : a.bs xs w) (hRd : d.bs ys w) (hRq : q.bs zs w) (hRm : m.bs us w) (hRs : s.bs vs w) :
    Calls Try.prog 4 #[.slice a.p a.n a.cp, .slice d.p d.n d.cp, .slice q.p q.n q.cp, .slice m.p m.n m.cp, .slice s.p s.n s.cp] w fun e w' => e = .returned (.bool true) ∧ Below w.heap.size w w' := by
  have H0 : Hid (_ ∧ _) := ⟨Mm.nil w, Below.refl w.heap.size w⟩
  have RA : Hid (a.bs xs w) := hRa
  have RD : Hid (d.bs ys w) := hRd
  have RQ : Hid (q.bs zs w) := hRq
  have RM : Hid (m.bs us w) := hRm
  have RS : Hid (s.bs vs w) := hRs
  clear hRa hRd hRq hRm hRs
  go_enter Try.func4, Try.ntmps4
  refine wp_seq ?_
  refine walk_seqB 1 [.quiet (.bool false)] H0 ?ho1 ?he1
  case ho1 => exact ak (fun _ => ⟨rfl, fun _ _ => rfl⟩) trivial
  intro _ w1 H1
  refine rest0 rfl (then_normal (wp_seq (wp_seq ?_)))
  refine walk_seqB 23 [.quiet (.slice q.p q.n q.cp), .call (.bool true), .quiet (.bool false), .quiet (.bool false), .quiet (.slice m.p m.n m.cp), .call (.bool true), .quiet (.bool false), .quiet (.bool false), .quiet (.bool false), .quiet (.slice s.p s.n s.cp), .call (.bool true), .quiet (.bool false), .quiet (.bool false), .quiet (.bool false), .quiet (.slice a.p a.n a.cp), .quiet (.int .i64 ((a.n : Nat) : Int)), .quiet (.bool false), .quiet (.bool false), .quiet (.bool false), .quiet (.slice d.p d.n d.cp), .quiet (.int .i64 ((d.n : Nat) : Int)), .quiet (.bool true), .quiet (.bool true)] H1 ?ho2 ?he2
  case ho2 => exact ak (fun _ => ⟨rfl, fun _ _ => rfl⟩) (ak (fun γ => ⟨rfl, fun w' h => ⟨7, #[.slice q.p q.n q.cp], exec_call rfl call7 rfl (mpn rfl), few_yes q hfq w'⟩⟩) (ak (by refine fun γ => ⟨rfl, fun w' h => ?_⟩; clear h; go_simp) (ak (fun _ => ⟨rfl, fun _ _ => rfl⟩) (ak (fun _ => ⟨rfl, fun _ _ => rfl⟩) (ak (fun γ => ⟨rfl, fun w' h => ⟨7, #[.slice m.p m.n m.cp], exec_call rfl call7 rfl (mpn rfl), few_yes m hfm w'⟩⟩) (ak (by refine fun γ => ⟨rfl, fun w' h => ?_⟩; clear h; go_simp) (ak (by refine fun γ => ⟨rfl, fun w' h => ?_⟩; clear h; go_simp) (ak (fun _ => ⟨rfl, fun _ _ => rfl⟩) (ak (fun _ => ⟨rfl, fun _ _ => rfl⟩) (ak (fun γ => ⟨rfl, fun w' h => ⟨7, #[.slice s.p s.n s.cp], exec_call rfl call7 rfl (mpn rfl), few_yes s hfs w'⟩⟩) (ak (by refine fun γ => ⟨rfl, fun w' h => ?_⟩; clear h; go_simp) (ak (by refine fun γ => ⟨rfl, fun w' h => ?_⟩; clear h; go_simp) (ak (fun _ => ⟨rfl, fun _ _ => rfl⟩) (ak (fun _ => ⟨rfl, fun _ _ => rfl⟩) (ak (by refine fun γ => ⟨rfl, fun w' h => ?_⟩; clear h; go_simp) (ak (by refine fun γ => ⟨rfl, fun w' h => ?_⟩; clear h; go_simp <;> omega) (ak (by refine fun γ => ⟨rfl, fun w' h => ?_⟩; clear h; go_simp) (ak (fun _ => ⟨rfl, fun _ _ => rfl⟩) (ak (fun _ => ⟨rfl, fun _ _ => rfl⟩) (ak (by refine fun γ => ⟨rfl, fun w' h => ?_⟩; clear h; go_simp) (ak (by refine fun γ => ⟨rfl, fun w' h => ?_⟩; clear h; go_simp <;> omega) (ak (by refine fun γ => ⟨rfl, fun w' h => ?_⟩; clear h; go_simp) trivial))))))))))))))))))))))
  intro _ w2 H2
  clear H1
  refine rest0 rfl (then_normal (wp_cond_true rfl (wp_seq ?_)))
  refine walk_seqB 1 [.quiet (.bool true)] H2 ?ho3 ?he3
  case ho3 => exact ak (fun _ => ⟨rfl, fun _ _ => rfl⟩) trivial
  intro _ w3 H3
  clear H2
  refine rest0 rfl (then_normal (wp_ret ?_))
  repeat (first | refine then_ret ?_ | refine block_ret ?_)
  refine bodyPost_ret (v := .bool true) (by simp [results, Try.results4, go_sem, *]) rfl ?_
  exact ⟨rfl, H3.out.2⟩
set_option maxHeartbeats 8000000 in
set_option maxRecDepth 100000 in
theorem seals_ok (xs ys zs us vs : List Int) (a d q m s : Pt8) (ha : Ar xs a) (hd : Ar ys d) (hq : Ar zs q) (hm : Ar us m) (hs : Ar vs s) (hfq : Few q.n) (hfm : Few m.n) (hfs : Few s.n) (hk : a.n ≤ 2000) (hl : d.n ≤ 2000) (w : World) (hRa : a.bs xs w) (hRd : d.bs ys w) (hRq : q.bs zs w) (hRm : m.bs us w) (hRs : s.bs vs w) :
    Calls Try.prog 4 #[.slice a.p a.n a.cp, .slice d.p d.n d.cp, .slice q.p q.n q.cp, .slice m.p m.n m.cp, .slice s.p s.n s.cp] w fun e w' => e = .returned (.bool true) ∧ Below w.heap.size w w' := by
  have H0 : Hid (_ ∧ _) := ⟨Mm.nil w, Below.refl w.heap.size w⟩
  have RA : Hid (a.bs xs w) := hRa
  have RD : Hid (d.bs ys w) := hRd
  have RQ : Hid (q.bs zs w) := hRq
  have RM : Hid (m.bs us w) := hRm
  have RS : Hid (s.bs vs w) := hRs
  clear hRa hRd hRq hRm hRs
  have hnq : q.n ≤ 1048616 := by unfold Few at hfq; omega
  have hnm : m.n ≤ 1048616 := by unfold Few at hfm; omega
  have hns : s.n ≤ 1048616 := by unfold Few at hfs; omega
  go_enter Try.func4, Try.ntmps4
  refine wp_seq ?_
  refine walk_seqB 1 [.quiet (.bool false)] H0 ?ho1 ?he1
  case ho1 => exact ak (fun _ => ⟨rfl, fun _ _ => rfl⟩) trivial
  intro _ w1 H1
  refine rest0 rfl (then_normal (wp_seq (wp_seq ?_)))
  refine walk_seqB 23 [.quiet (.slice q.p q.n q.cp), .call (.bool true), .quiet (.bool false), .quiet (.bool false), .quiet (.slice m.p m.n m.cp), .call (.bool true), .quiet (.bool false), .quiet (.bool false), .quiet (.bool false), .quiet (.slice s.p s.n s.cp), .call (.bool true), .quiet (.bool false), .quiet (.bool false), .quiet (.bool false), .quiet (.slice a.p a.n a.cp), .quiet (.int .i64 ((a.n : Nat) : Int)), .quiet (.bool false), .quiet (.bool false), .quiet (.bool false), .quiet (.slice d.p d.n d.cp), .quiet (.int .i64 ((d.n : Nat) : Int)), .quiet (.bool false), .quiet (.bool false)] H1 ?ho2 ?he2
  case ho2 => exact ak (fun _ => ⟨rfl, fun _ _ => rfl⟩) (ak (fun γ => ⟨rfl, fun w' h => ⟨7, #[.slice q.p q.n q.cp], exec_call rfl call7 rfl (mpn rfl), few_yes q hfq w'⟩⟩) (ak (by refine fun γ => ⟨rfl, fun w' h => ?_⟩; clear h; go_simp) (ak (fun _ => ⟨rfl, fun _ _ => rfl⟩) (ak (fun _ => ⟨rfl, fun _ _ => rfl⟩) (ak (fun γ => ⟨rfl, fun w' h => ⟨7, #[.slice m.p m.n m.cp], exec_call rfl call7 rfl (mpn rfl), few_yes m hfm w'⟩⟩) (ak (by refine fun γ => ⟨rfl, fun w' h => ?_⟩; clear h; go_simp) (ak (by refine fun γ => ⟨rfl, fun w' h => ?_⟩; clear h; go_simp) (ak (fun _ => ⟨rfl, fun _ _ => rfl⟩) (ak (fun _ => ⟨rfl, fun _ _ => rfl⟩) (ak (fun γ => ⟨rfl, fun w' h => ⟨7, #[.slice s.p s.n s.cp], exec_call rfl call7 rfl (mpn rfl), few_yes s hfs w'⟩⟩) (ak (by refine fun γ => ⟨rfl, fun w' h => ?_⟩; clear h; go_simp) (ak (by refine fun γ => ⟨rfl, fun w' h => ?_⟩; clear h; go_simp) (ak (fun _ => ⟨rfl, fun _ _ => rfl⟩) (ak (fun _ => ⟨rfl, fun _ _ => rfl⟩) (ak (by refine fun γ => ⟨rfl, fun w' h => ?_⟩; clear h; go_simp) (ak (by refine fun γ => ⟨rfl, fun w' h => ?_⟩; clear h; go_simp <;> omega) (ak (by refine fun γ => ⟨rfl, fun w' h => ?_⟩; clear h; go_simp) (ak (fun _ => ⟨rfl, fun _ _ => rfl⟩) (ak (fun _ => ⟨rfl, fun _ _ => rfl⟩) (ak (by refine fun γ => ⟨rfl, fun w' h => ?_⟩; clear h; go_simp) (ak (by refine fun γ => ⟨rfl, fun w' h => ?_⟩; clear h; go_simp <;> omega) (ak (by refine fun γ => ⟨rfl, fun w' h => ?_⟩; clear h; go_simp) trivial))))))))))))))))))))))
  intro _ w2 H2
  clear H1
  refine rest0 rfl (then_normal (wp_cond_false rfl ?_))
  refine wp_skip (then_normal (wp_seq ?_))
  refine (walk_seq) 10 [.quiet (.slice a.p a.n a.cp), .born (fun g => .slice (some ⟨g, 0, none⟩) a.n (a.n + 3)) (ints .u8 (lf xs) (a.n + 3)), .quiet (.slice d.p d.n d.cp), .born (fun g => .slice (some ⟨g, 0, none⟩) d.n (d.n + 3)) (ints .u8 (lf ys) (d.n + 3)), .quiet (.slice q.p q.n q.cp), .born (fun g => .slice (some ⟨g, 0, none⟩) q.n (q.n + 3)) (ints .u8 (lf zs) (q.n + 3)), .quiet (.slice m.p m.n m.cp), .born (fun g => .slice (some ⟨g, 0, none⟩) m.n (m.n + 3)) (ints .u8 (lf us) (m.n + 3)), .quiet (.slice s.p s.n s.cp), .born (fun g => .slice (some ⟨g, 0, none⟩) s.n (s.n + 3)) (ints .u8 (lf vs) (s.n + 3))] (fun u' => Mm u' [] ∧ (a.bs xs u' ∧ d.bs ys u' ∧ q.bs zs u' ∧ m.bs us u' ∧ s.bs vs u')) ?pre3 ?F3 ?hpre3 (fun γ => ?hF3) (by kernel_rfl) ?hL3 ?hS3 ?ho3 ?he3
  case hpre3 => simp only [tk, tz]; rfl
  case hF3 => simp only [fill, Kind.val, Act.put, sa, sz, ss]; rfl
  case hL3 => exact trivial
  case hS3 => exact fun w' hb => ⟨H2.out.1.below hb, ⟨RA.out.below (H2.out.2.trans (hb.mono H2.out.2.size)), RD.out.below (H2.out.2.trans (hb.mono H2.out.2.size)), RQ.out.below (H2.out.2.trans (hb.mono H2.out.2.size)), RM.out.below (H2.out.2.trans (hb.mono H2.out.2.size)), RS.out.below (H2.out.2.trans (hb.mono H2.out.2.size))⟩⟩
  case ho3 =>
    refine ak (fun _ => ⟨rfl, fun _ _ => rfl⟩) ?_
    refine ak (fun γ => ⟨rfl, fun w' hX => ⟨8, #[.slice a.p a.n a.cp], exec_call rfl call8 rfl (mpn rfl), lent_partB ha (by omega) w' hX.2.1⟩⟩) ?_
    refine ak (fun _ => ⟨rfl, fun _ _ => rfl⟩) ?_
    refine ak (fun γ => ⟨rfl, fun w' hX => ⟨8, #[.slice d.p d.n d.cp], exec_call rfl call8 rfl (mpn rfl), lent_partB hd (by omega) w' hX.2.2.1⟩⟩) ?_
    refine ak (fun _ => ⟨rfl, fun _ _ => rfl⟩) ?_
    refine ak (fun γ => ⟨rfl, fun w' hX => ⟨8, #[.slice q.p q.n q.cp], exec_call rfl call8 rfl (mpn rfl), lent_partB hq (by omega) w' hX.2.2.2.1⟩⟩) ?_
    refine ak (fun _ => ⟨rfl, fun _ _ => rfl⟩) ?_
    refine ak (fun γ => ⟨rfl, fun w' hX => ⟨8, #[.slice m.p m.n m.cp], exec_call rfl call8 rfl (mpn rfl), lent_partB hm (by omega) w' hX.2.2.2.2.1⟩⟩) ?_
    refine ak (fun _ => ⟨rfl, fun _ _ => rfl⟩) ?_
    refine ak (fun γ => ⟨rfl, fun w' hX => ⟨8, #[.slice s.p s.n s.cp], exec_call rfl call8 rfl (mpn rfl), lent_partB hs (by omega) w' hX.2.2.2.2.2⟩⟩) ?_
    exact trivial
  intro γ w3 l hM hl
  have H3 : Hid (Mm w3 [(γ 1, ints .u8 (lf xs) (a.n + 3)), (γ 3, ints .u8 (lf ys) (d.n + 3)), (γ 5, ints .u8 (lf zs) (q.n + 3)), (γ 7, ints .u8 (lf us) (m.n + 3)), (γ 9, ints .u8 (lf vs) (s.n + 3))] ∧ _) := growB H2 hM (Nat.le_refl _) hl [1, 3, 5, 7, 9] rfl (by decide)
  have o3_1 := ownB H2 hM (Nat.le_refl _) hl (i := 1) rfl
  have o3_3 := ownB H2 hM (Nat.le_refl _) hl (i := 3) rfl
  have o3_5 := ownB H2 hM (Nat.le_refl _) hl (i := 5) rfl
  have o3_7 := ownB H2 hM (Nat.le_refl _) hl (i := 7) rfl
  have o3_9 := ownB H2 hM (Nat.le_refl _) hl (i := 9) rfl
  clear hM hl l H2
  generalize γ 1 = γ3_1 at H3 o3_1 ⊢
  generalize γ 3 = γ3_3 at H3 o3_3 ⊢
  generalize γ 5 = γ3_5 at H3 o3_5 ⊢
  generalize γ 7 = γ3_7 at H3 o3_7 ⊢
  generalize γ 9 = γ3_9 at H3 o3_9 ⊢
  clear γ
  refine rest_at (l := [10, 11, 12, 13, 14]) rfl ?_
  refine rest_set (d := 11) (v := .slice (some ⟨γ3_1, 0, none⟩) a.n (a.n + 3)) (w' := w3) rfl rfl rfl rfl ?_
  simp only [Act.put, sa, sz, ss]
  refine rest_set (d := 12) (v := .slice (some ⟨γ3_3, 0, none⟩) d.n (d.n + 3)) (w' := w3) rfl rfl rfl rfl ?_
  simp only [Act.put, sa, sz, ss]
  refine rest_set (d := 13) (v := .slice (some ⟨γ3_5, 0, none⟩) q.n (q.n + 3)) (w' := w3) rfl rfl rfl rfl ?_
  simp only [Act.put, sa, sz, ss]
  refine rest_set (d := 14) (v := .slice (some ⟨γ3_7, 0, none⟩) m.n (m.n + 3)) (w' := w3) rfl rfl rfl rfl ?_
  simp only [Act.put, sa, sz, ss]
  refine rest_set (d := 15) (v := .slice (some ⟨γ3_9, 0, none⟩) s.n (s.n + 3)) (w' := w3) rfl rfl rfl rfl ?_
  simp only [Act.put, sa, sz, ss]
  refine rest_nil (then_normal (wp_seq ?_))
  refine walk_seqB 4 [.quiet (.slice (some ⟨γ3_1, 0, none⟩) a.n (a.n + 3)), .quiet (.slice (some ⟨γ3_3, 0, none⟩) d.n (d.n + 3)), .quiet (.slice (some ⟨γ3_5, 0, none⟩) q.n (q.n + 3)), .quiet (.slice (some ⟨γ3_7, 0, none⟩) m.n (m.n + 3))] H3 ?ho4 ?he4
  case ho4 => exact ak (fun _ => ⟨rfl, fun _ _ => rfl⟩) (ak (fun _ => ⟨rfl, fun _ _ => rfl⟩) (ak (fun _ => ⟨rfl, fun _ _ => rfl⟩) (ak (fun _ => ⟨rfl, fun _ _ => rfl⟩) trivial)))
  intro _ w4 H4
  clear H3
  refine rest_at (l := [4, 5, 6, 7, 8, 9]) rfl ?_
  refine rest_enter (d := 62) rfl rfl rfl (exec_call (args := #[.slice (some ⟨γ3_1, 0, none⟩) a.n (a.n + 3), .slice (some ⟨γ3_3, 0, none⟩) d.n (d.n + 3), .slice (some ⟨γ3_5, 0, none⟩) q.n (q.n + 3), .slice (some ⟨γ3_7, 0, none⟩) m.n (m.n + 3)]) rfl call18 rfl (mpn rfl)) ((Calls.mono (sealP (pc γ3_1 a.n (a.n + 3) (lf xs)) (pc γ3_3 d.n (d.n + 3) (lf ys)) (pc γ3_5 q.n (q.n + 3) (lf zs)) (pc γ3_7 m.n (m.n + 3) (lf us)) (pc_ok _ _ _ _) (pc_ok _ _ _ _) (pc_ok _ _ _ _) (pc_ok _ _ _ _) (lf_lt hm.by_) hfq hfm w4 (H4.out.1.rs 0 rfl (Nat.le_add_right _ _)) (H4.out.1.rs 1 rfl (Nat.le_add_right _ _)) (H4.out.1.rs 2 rfl (Nat.le_add_right _ _)) (H4.out.1.rs 3 rfl (Nat.le_add_right _ _))) (fun e w2 hh => by obtain ⟨r, he, hr⟩ := hh; exact ⟨_, he, r, rfl, hr⟩) : Calls Try.prog 18 #[.slice (some ⟨γ3_1, 0, none⟩) a.n (a.n + 3), .slice (some ⟨γ3_3, 0, none⟩) d.n (d.n + 3), .slice (some ⟨γ3_5, 0, none⟩) q.n (q.n + 3), .slice (some ⟨γ3_7, 0, none⟩) m.n (m.n + 3)] w4 (fun e w' => ∃ v, e = .returned v ∧ (∃ r : Ap, v = .tuple #[.slice r.p r.n r.c, .int .i64 ((we a.n d.n (l2 1048576 q.n m.n) : Nat) : Int)] ∧ Rz r (az (we a.n d.n (l2 1048576 q.n m.n)) (q.n + 16)) (sl0 (lf xs) (lf ys) (lf zs) q.n (lf us) m.n) w4 w')))) ?_
  rintro _ w5 ⟨rp_, rfl, hr⟩
  have Krp_ : Hid (rp_.Ok ∧ rp_.n = az (we a.n d.n (l2 1048576 q.n m.n)) (q.n + 16) ∧ ∀ j, j < az (we a.n d.n (l2 1048576 q.n m.n)) (q.n + 16) → rp_.f j = (sl0 (lf xs) (lf ys) (lf zs) q.n (lf us) m.n) j) := ⟨hr.ok, hr.len, hr.eq⟩
  have Mxsrp_ : Hid (rp_.p ≠ none → rp_.g ≠ γ3_1) := fun h2 => by have a1 := (H4.out.1.blk (γ3_1, ints .u8 (lf xs) (a.n + 3)) (List.mem_of_getElem? (i := 0) rfl)).1; have a2 := (hr.at_ h2).1; dsimp only at a1; omega
  have Mysrp_ : Hid (rp_.p ≠ none → rp_.g ≠ γ3_3) := fun h2 => by have a1 := (H4.out.1.blk (γ3_3, ints .u8 (lf ys) (d.n + 3)) (List.mem_of_getElem? (i := 1) rfl)).1; have a2 := (hr.at_ h2).1; dsimp only at a1; omega
  have Mzsrp_ : Hid (rp_.p ≠ none → rp_.g ≠ γ3_5) := fun h2 => by have a1 := (H4.out.1.blk (γ3_5, ints .u8 (lf zs) (q.n + 3)) (List.mem_of_getElem? (i := 2) rfl)).1; have a2 := (hr.at_ h2).1; dsimp only at a1; omega
  have Musrp_ : Hid (rp_.p ≠ none → rp_.g ≠ γ3_7) := fun h2 => by have a1 := (H4.out.1.blk (γ3_7, ints .u8 (lf us) (m.n + 3)) (List.mem_of_getElem? (i := 3) rfl)).1; have a2 := (hr.at_ h2).1; dsimp only at a1; omega
  have Mvsrp_ : Hid (rp_.p ≠ none → rp_.g ≠ γ3_9) := fun h2 => by have a1 := (H4.out.1.blk (γ3_9, ints .u8 (lf vs) (s.n + 3)) (List.mem_of_getElem? (i := 4) rfl)).1; have a2 := (hr.at_ h2).1; dsimp only at a1; omega
  have hb := hr.b
  have hR : Rw rp_ w5 := ⟨hr.row, fun h => (hr.at_ h).2⟩
  clear hr
  have H5 : Hid (Mm w5 [(γ3_1, ints .u8 (lf xs) (a.n + 3)), (γ3_3, ints .u8 (lf ys) (d.n + 3)), (γ3_5, ints .u8 (lf zs) (q.n + 3)), (γ3_7, ints .u8 (lf us) (m.n + 3)), (γ3_9, ints .u8 (lf vs) (s.n + 3))] ∧ Bk w (fun u => Rw rp_ u) w5) := ⟨H4.out.1.below hb, Bk.of2 H4.out.2 hb (fun hb h => Rw.below hb h) (hR)⟩
  clear hb hR H4
  simp only [Act.put, sa, sz, ss]
  refine rest_set (d := 57) (v := .tuple #[.slice rp_.p rp_.n rp_.c, .int .i64 ((we a.n d.n (l2 1048576 q.n m.n) : Nat) : Int)]) (w' := w5) rfl rfl rfl rfl ?_
  simp only [Act.put, sa, sz, ss]
  refine rest_set (d := 63) (v := .slice rp_.p rp_.n rp_.c) (w' := w5) rfl rfl rfl (by go_simp) ?_
  simp only [Act.put, sa, sz, ss]
  refine rest_set (d := 64) (v := .int .i64 ((we a.n d.n (l2 1048576 q.n m.n) : Nat) : Int)) (w' := w5) rfl rfl rfl (by go_simp) ?_
  simp only [Act.put, sa, sz, ss]
  refine rest_set (d := 16) (v := .slice rp_.p rp_.n rp_.c) (w' := w5) rfl rfl rfl rfl ?_
  simp only [Act.put, sa, sz, ss]
  refine rest_set (d := 17) (v := .int .i64 ((we a.n d.n (l2 1048576 q.n m.n) : Nat) : Int)) (w' := w5) rfl rfl rfl rfl ?_
  simp only [Act.put, sa, sz, ss]
  refine rest_nil (then_normal (wp_seq ?_))
  refine walk_seqA 4 [.quiet (.slice a.p a.n a.cp), .quiet (.slice d.p d.n d.cp), .quiet (.slice q.p q.n q.cp), .quiet (.slice m.p m.n m.cp)] (sB H5) ?ho5 ?he5
  case ho5 => exact ak (fun _ => ⟨rfl, fun _ _ => rfl⟩) (ak (fun _ => ⟨rfl, fun _ _ => rfl⟩) (ak (fun _ => ⟨rfl, fun _ _ => rfl⟩) (ak (fun _ => ⟨rfl, fun _ _ => rfl⟩) trivial)))
  intro γ w6 l hM hl
  have M6 : Mm w6 [(γ3_1, ints .u8 (lf xs) (a.n + 3)), (γ3_3, ints .u8 (lf ys) (d.n + 3)), (γ3_5, ints .u8 (lf zs) (q.n + 3)), (γ3_7, ints .u8 (lf us) (m.n + 3)), (γ3_9, ints .u8 (lf vs) (s.n + 3))] := H5.out.1.grow hM (Nat.le_refl _) hl [] rfl (by decide)
  have B6 : Bk w (fun u => Rw rp_ u) w6 := Bk.step H5.out.2 (hM.below)
  clear hM hl l H5
  clear γ
  have H6 : Hid (_ ∧ _) := ⟨M6, B6⟩
  clear M6 B6
  refine rest_at (l := [4, 5, 6, 7, 8, 9]) rfl ?_
  refine rest_enter (d := 70) rfl rfl rfl (exec_call (args := #[.slice a.p a.n a.cp, .slice d.p d.n d.cp, .slice q.p q.n q.cp, .slice m.p m.n m.cp]) rfl call19 rfl (mpn rfl)) ((Calls.mono (sealD a d q m ha.ok hd.ok hq.ok hm.ok hm.nn (fun j => by rw [hq.f]; exact lf_lt hq.by_ j) (fun j => by rw [hm.f]; exact lf_lt hm.by_ j) hfq hfm w6 (RA.out.below H6.out.2.b).2 (RD.out.below H6.out.2.b).2 (RQ.out.below H6.out.2.b).2 (RM.out.below H6.out.2.b).2) (fun e w2 hh => by obtain ⟨r, he, hr⟩ := hh; exact ⟨_, he, r, rfl, hr⟩) : Calls Try.prog 19 #[.slice a.p a.n a.cp, .slice d.p d.n d.cp, .slice q.p q.n q.cp, .slice m.p m.n m.cp] w6 (fun e w' => ∃ v, e = .returned v ∧ (∃ r : Pt8, v = .tuple #[.slice r.p r.n r.cp, .int .i64 ((we a.n d.n (l2 1048576 q.n m.n) : Nat) : Int)] ∧ Dz r (az (we a.n d.n (l2 1048576 q.n m.n)) (q.n + 16)) (ct (so a.f d.f 1 q.f) q.n (mrk a.f d.f m.f m.n (so a.f d.f 1 q.f) q.n)) w6 w')))) ?_
  rintro _ w7 ⟨tp_, rfl, hr⟩
  have Ktp_ : Hid (Pok tp_ ∧ (∀ j, tp_.f j < 256) ∧ tp_.n = az (we a.n d.n (l2 1048576 q.n m.n)) (q.n + 16) ∧ ∀ j, j < az (we a.n d.n (l2 1048576 q.n m.n)) (q.n + 16) → tp_.f j = (ct (so a.f d.f 1 q.f) q.n (mrk a.f d.f m.f m.n (so a.f d.f 1 q.f) q.n)) j) := ⟨hr.ok, hr.by_, hr.len, hr.eq⟩
  have hb := hr.b
  have hR : tp_.rs w7 := hr.rs
  clear hr
  have H7 : Hid (Mm w7 [(γ3_1, ints .u8 (lf xs) (a.n + 3)), (γ3_3, ints .u8 (lf ys) (d.n + 3)), (γ3_5, ints .u8 (lf zs) (q.n + 3)), (γ3_7, ints .u8 (lf us) (m.n + 3)), (γ3_9, ints .u8 (lf vs) (s.n + 3))] ∧ Bk w (fun u => (Rw rp_ u ∧ tp_.rs u)) w7) := ⟨H6.out.1.below hb, Bk.and2 H6.out.2 hb (fun hb h => Rs.below h hb) (hR)⟩
  clear hb hR H6
  simp only [Act.put, sa, sz, ss]
  refine rest_set (d := 65) (v := .tuple #[.slice tp_.p tp_.n tp_.cp, .int .i64 ((we a.n d.n (l2 1048576 q.n m.n) : Nat) : Int)]) (w' := w7) rfl rfl rfl rfl ?_
  simp only [Act.put, sa, sz, ss]
  refine rest_set (d := 71) (v := .slice tp_.p tp_.n tp_.cp) (w' := w7) rfl rfl rfl (by go_simp) ?_
  simp only [Act.put, sa, sz, ss]
  refine rest_set (d := 72) (v := .int .i64 ((we a.n d.n (l2 1048576 q.n m.n) : Nat) : Int)) (w' := w7) rfl rfl rfl (by go_simp) ?_
  simp only [Act.put, sa, sz, ss]
  refine rest_set (d := 18) (v := .slice tp_.p tp_.n tp_.cp) (w' := w7) rfl rfl rfl rfl ?_
  simp only [Act.put, sa, sz, ss]
  refine rest_set (d := 19) (v := .int .i64 ((we a.n d.n (l2 1048576 q.n m.n) : Nat) : Int)) (w' := w7) rfl rfl rfl rfl ?_
  simp only [Act.put, sa, sz, ss]
  refine rest_nil (then_normal (wp_seq ?_))
  refine walk_seqA 4 [.quiet (.slice (some ⟨γ3_1, 0, none⟩) a.n (a.n + 3)), .quiet (.slice (some ⟨γ3_3, 0, none⟩) d.n (d.n + 3)), .quiet (.slice (some ⟨γ3_9, 0, none⟩) s.n (s.n + 3)), .quiet (.slice (some ⟨γ3_7, 0, none⟩) m.n (m.n + 3))] (sB H7) ?ho6 ?he6
  case ho6 => exact ak (fun _ => ⟨rfl, fun _ _ => rfl⟩) (ak (fun _ => ⟨rfl, fun _ _ => rfl⟩) (ak (fun _ => ⟨rfl, fun _ _ => rfl⟩) (ak (fun _ => ⟨rfl, fun _ _ => rfl⟩) trivial)))
  intro γ w8 l hM hl
  have M8 : Mm w8 [(γ3_1, ints .u8 (lf xs) (a.n + 3)), (γ3_3, ints .u8 (lf ys) (d.n + 3)), (γ3_5, ints .u8 (lf zs) (q.n + 3)), (γ3_7, ints .u8 (lf us) (m.n + 3)), (γ3_9, ints .u8 (lf vs) (s.n + 3))] := H7.out.1.grow hM (Nat.le_refl _) hl [] rfl (by decide)
  have B8 : Bk w (fun u => (Rw rp_ u ∧ tp_.rs u)) w8 := Bk.step H7.out.2 (hM.below)
  clear hM hl l H7
  clear γ
  have H8 : Hid (_ ∧ _) := ⟨M8, B8⟩
  clear M8 B8
  refine rest_at (l := [4, 5, 6, 7, 8, 9]) rfl ?_
  refine rest_enter (d := 78) rfl rfl rfl (exec_call (args := #[.slice (some ⟨γ3_1, 0, none⟩) a.n (a.n + 3), .slice (some ⟨γ3_3, 0, none⟩) d.n (d.n + 3), .slice (some ⟨γ3_9, 0, none⟩) s.n (s.n + 3), .slice (some ⟨γ3_7, 0, none⟩) m.n (m.n + 3)]) rfl call20 rfl (mpn rfl)) ((Calls.mono (openP (pc γ3_1 a.n (a.n + 3) (lf xs)) (pc γ3_3 d.n (d.n + 3) (lf ys)) (pc γ3_9 s.n (s.n + 3) (lf vs)) (pc γ3_7 m.n (m.n + 3) (lf us)) (pc_ok _ _ _ _) (pc_ok _ _ _ _) (pc_ok _ _ _ _) (pc_ok _ _ _ _) (lf_lt hs.by_) (lf_lt hm.by_) w8 (H8.out.1.rs 0 rfl (Nat.le_add_right _ _)) (H8.out.1.rs 1 rfl (Nat.le_add_right _ _)) (H8.out.1.rs 4 rfl (Nat.le_add_right _ _)) (H8.out.1.rs 3 rfl (Nat.le_add_right _ _))) (fun e w2 hh => by obtain ⟨r, he, hr⟩ := hh; exact ⟨_, he, r, rfl, hr⟩) : Calls Try.prog 20 #[.slice (some ⟨γ3_1, 0, none⟩) a.n (a.n + 3), .slice (some ⟨γ3_3, 0, none⟩) d.n (d.n + 3), .slice (some ⟨γ3_9, 0, none⟩) s.n (s.n + 3), .slice (some ⟨γ3_7, 0, none⟩) m.n (m.n + 3)] w8 (fun e w' => ∃ v, e = .returned v ∧ (∃ r : Ap, v = .tuple #[.slice r.p r.n r.c, .int .i64 ((oe (we a.n d.n (l2 1048592 s.n m.n)) s.n (tgb (lf xs) (lf ys) (lf us) m.n (lf vs) s.n) : Nat) : Int)] ∧ Rz r (az (oe (we a.n d.n (l2 1048592 s.n m.n)) s.n (tgb (lf xs) (lf ys) (lf us) m.n (lf vs) s.n)) (s.n - 16)) (so (lf xs) (lf ys) 1 (lf vs)) w8 w')))) ?_
  rintro _ w9 ⟨ro_, rfl, hr⟩
  have Kro_ : Hid (ro_.Ok ∧ ro_.n = az (oe (we a.n d.n (l2 1048592 s.n m.n)) s.n (tgb (lf xs) (lf ys) (lf us) m.n (lf vs) s.n)) (s.n - 16) ∧ ∀ j, j < az (oe (we a.n d.n (l2 1048592 s.n m.n)) s.n (tgb (lf xs) (lf ys) (lf us) m.n (lf vs) s.n)) (s.n - 16) → ro_.f j = (so (lf xs) (lf ys) 1 (lf vs)) j) := ⟨hr.ok, hr.len, hr.eq⟩
  have Nrp_ro_ : Hid (rp_.p ≠ none → ro_.p ≠ none → rp_.g ≠ ro_.g) := fun h1 h2 => by have a1 := (H8.out.2.r.1).2 h1; have a2 := (hr.at_ h2).1; omega
  have Mxsro_ : Hid (ro_.p ≠ none → ro_.g ≠ γ3_1) := fun h2 => by have a1 := (H8.out.1.blk (γ3_1, ints .u8 (lf xs) (a.n + 3)) (List.mem_of_getElem? (i := 0) rfl)).1; have a2 := (hr.at_ h2).1; dsimp only at a1; omega
  have Mysro_ : Hid (ro_.p ≠ none → ro_.g ≠ γ3_3) := fun h2 => by have a1 := (H8.out.1.blk (γ3_3, ints .u8 (lf ys) (d.n + 3)) (List.mem_of_getElem? (i := 1) rfl)).1; have a2 := (hr.at_ h2).1; dsimp only at a1; omega
  have Mzsro_ : Hid (ro_.p ≠ none → ro_.g ≠ γ3_5) := fun h2 => by have a1 := (H8.out.1.blk (γ3_5, ints .u8 (lf zs) (q.n + 3)) (List.mem_of_getElem? (i := 2) rfl)).1; have a2 := (hr.at_ h2).1; dsimp only at a1; omega
  have Musro_ : Hid (ro_.p ≠ none → ro_.g ≠ γ3_7) := fun h2 => by have a1 := (H8.out.1.blk (γ3_7, ints .u8 (lf us) (m.n + 3)) (List.mem_of_getElem? (i := 3) rfl)).1; have a2 := (hr.at_ h2).1; dsimp only at a1; omega
  have Mvsro_ : Hid (ro_.p ≠ none → ro_.g ≠ γ3_9) := fun h2 => by have a1 := (H8.out.1.blk (γ3_9, ints .u8 (lf vs) (s.n + 3)) (List.mem_of_getElem? (i := 4) rfl)).1; have a2 := (hr.at_ h2).1; dsimp only at a1; omega
  have hb := hr.b
  have hR : Rw ro_ w9 := ⟨hr.row, fun h => (hr.at_ h).2⟩
  clear hr
  have H9 : Hid (Mm w9 [(γ3_1, ints .u8 (lf xs) (a.n + 3)), (γ3_3, ints .u8 (lf ys) (d.n + 3)), (γ3_5, ints .u8 (lf zs) (q.n + 3)), (γ3_7, ints .u8 (lf us) (m.n + 3)), (γ3_9, ints .u8 (lf vs) (s.n + 3))] ∧ Bk w (fun u => ((Rw rp_ u ∧ tp_.rs u) ∧ Rw ro_ u)) w9) := ⟨H8.out.1.below hb, Bk.and2 H8.out.2 hb (fun hb h => Rw.below hb h) (hR)⟩
  clear hb hR H8
  simp only [Act.put, sa, sz, ss]
  refine rest_set (d := 73) (v := .tuple #[.slice ro_.p ro_.n ro_.c, .int .i64 ((oe (we a.n d.n (l2 1048592 s.n m.n)) s.n (tgb (lf xs) (lf ys) (lf us) m.n (lf vs) s.n) : Nat) : Int)]) (w' := w9) rfl rfl rfl rfl ?_
  simp only [Act.put, sa, sz, ss]
  refine rest_set (d := 79) (v := .slice ro_.p ro_.n ro_.c) (w' := w9) rfl rfl rfl (by go_simp) ?_
  simp only [Act.put, sa, sz, ss]
  refine rest_set (d := 80) (v := .int .i64 ((oe (we a.n d.n (l2 1048592 s.n m.n)) s.n (tgb (lf xs) (lf ys) (lf us) m.n (lf vs) s.n) : Nat) : Int)) (w' := w9) rfl rfl rfl (by go_simp) ?_
  simp only [Act.put, sa, sz, ss]
  refine rest_set (d := 20) (v := .slice ro_.p ro_.n ro_.c) (w' := w9) rfl rfl rfl rfl ?_
  simp only [Act.put, sa, sz, ss]
  refine rest_set (d := 21) (v := .int .i64 ((oe (we a.n d.n (l2 1048592 s.n m.n)) s.n (tgb (lf xs) (lf ys) (lf us) m.n (lf vs) s.n) : Nat) : Int)) (w' := w9) rfl rfl rfl rfl ?_
  simp only [Act.put, sa, sz, ss]
  refine rest_nil (then_normal (wp_seq ?_))
  refine walk_seqA 4 [.quiet (.slice a.p a.n a.cp), .quiet (.slice d.p d.n d.cp), .quiet (.slice s.p s.n s.cp), .quiet (.slice m.p m.n m.cp)] (sB H9) ?ho7 ?he7
  case ho7 => exact ak (fun _ => ⟨rfl, fun _ _ => rfl⟩) (ak (fun _ => ⟨rfl, fun _ _ => rfl⟩) (ak (fun _ => ⟨rfl, fun _ _ => rfl⟩) (ak (fun _ => ⟨rfl, fun _ _ => rfl⟩) trivial)))
  intro γ w10 l hM hl
  have M10 : Mm w10 [(γ3_1, ints .u8 (lf xs) (a.n + 3)), (γ3_3, ints .u8 (lf ys) (d.n + 3)), (γ3_5, ints .u8 (lf zs) (q.n + 3)), (γ3_7, ints .u8 (lf us) (m.n + 3)), (γ3_9, ints .u8 (lf vs) (s.n + 3))] := H9.out.1.grow hM (Nat.le_refl _) hl [] rfl (by decide)
  have B10 : Bk w (fun u => ((Rw rp_ u ∧ tp_.rs u) ∧ Rw ro_ u)) w10 := Bk.step H9.out.2 (hM.below)
  clear hM hl l H9
  clear γ
  have H10 : Hid (_ ∧ _) := ⟨M10, B10⟩
  clear M10 B10
  refine rest_at (l := [4, 5, 6, 7, 8, 9]) rfl ?_
  refine rest_enter (d := 86) rfl rfl rfl (exec_call (args := #[.slice a.p a.n a.cp, .slice d.p d.n d.cp, .slice s.p s.n s.cp, .slice m.p m.n m.cp]) rfl call21 rfl (mpn rfl)) ((Calls.mono (openD a d s m ha.ok hd.ok hs.ok hm.ok hm.nn (fun j => by rw [hs.f]; exact lf_lt hs.by_ j) (fun j => by rw [hm.f]; exact lf_lt hm.by_ j) hfm (lf xs) (lf ys) (lf vs) (lf us) ha.f hd.f hs.f hm.f w10 (RA.out.below H10.out.2.b).2 (RD.out.below H10.out.2.b).2 (RS.out.below H10.out.2.b).2 (RM.out.below H10.out.2.b).2) (fun e w2 hh => by obtain ⟨r, he, hr⟩ := hh; exact ⟨_, he, r, rfl, hr⟩) : Calls Try.prog 21 #[.slice a.p a.n a.cp, .slice d.p d.n d.cp, .slice s.p s.n s.cp, .slice m.p m.n m.cp] w10 (fun e w' => ∃ v, e = .returned v ∧ (∃ r : Pt8, v = .tuple #[.slice r.p r.n r.cp, .int .i64 ((oe (we a.n d.n (l2 1048592 s.n m.n)) s.n (tgb (lf xs) (lf ys) (lf us) m.n (lf vs) s.n) : Nat) : Int)] ∧ Dz r (az (oe (we a.n d.n (l2 1048592 s.n m.n)) s.n (tgb (lf xs) (lf ys) (lf us) m.n (lf vs) s.n)) (s.n - 16)) (so (lf xs) (lf ys) 1 (lf vs)) w10 w')))) ?_
  rintro _ w11 ⟨to_, rfl, hr⟩
  have Kto_ : Hid (Pok to_ ∧ (∀ j, to_.f j < 256) ∧ to_.n = az (oe (we a.n d.n (l2 1048592 s.n m.n)) s.n (tgb (lf xs) (lf ys) (lf us) m.n (lf vs) s.n)) (s.n - 16) ∧ ∀ j, j < az (oe (we a.n d.n (l2 1048592 s.n m.n)) s.n (tgb (lf xs) (lf ys) (lf us) m.n (lf vs) s.n)) (s.n - 16) → to_.f j = (so (lf xs) (lf ys) 1 (lf vs)) j) := ⟨hr.ok, hr.by_, hr.len, hr.eq⟩
  have hb := hr.b
  have hR : to_.rs w11 := hr.rs
  clear hr
  have H11 : Hid (Mm w11 [(γ3_1, ints .u8 (lf xs) (a.n + 3)), (γ3_3, ints .u8 (lf ys) (d.n + 3)), (γ3_5, ints .u8 (lf zs) (q.n + 3)), (γ3_7, ints .u8 (lf us) (m.n + 3)), (γ3_9, ints .u8 (lf vs) (s.n + 3))] ∧ Bk w (fun u => (((Rw rp_ u ∧ tp_.rs u) ∧ Rw ro_ u) ∧ to_.rs u)) w11) := ⟨H10.out.1.below hb, Bk.and2 H10.out.2 hb (fun hb h => Rs.below h hb) (hR)⟩
  clear hb hR H10
  simp only [Act.put, sa, sz, ss]
  refine rest_set (d := 81) (v := .tuple #[.slice to_.p to_.n to_.cp, .int .i64 ((oe (we a.n d.n (l2 1048592 s.n m.n)) s.n (tgb (lf xs) (lf ys) (lf us) m.n (lf vs) s.n) : Nat) : Int)]) (w' := w11) rfl rfl rfl rfl ?_
  simp only [Act.put, sa, sz, ss]
  refine rest_set (d := 87) (v := .slice to_.p to_.n to_.cp) (w' := w11) rfl rfl rfl (by go_simp) ?_
  simp only [Act.put, sa, sz, ss]
  refine rest_set (d := 88) (v := .int .i64 ((oe (we a.n d.n (l2 1048592 s.n m.n)) s.n (tgb (lf xs) (lf ys) (lf us) m.n (lf vs) s.n) : Nat) : Int)) (w' := w11) rfl rfl rfl (by go_simp) ?_
  simp only [Act.put, sa, sz, ss]
  refine rest_set (d := 22) (v := .slice to_.p to_.n to_.cp) (w' := w11) rfl rfl rfl rfl ?_
  simp only [Act.put, sa, sz, ss]
  refine rest_set (d := 23) (v := .int .i64 ((oe (we a.n d.n (l2 1048592 s.n m.n)) s.n (tgb (lf xs) (lf ys) (lf us) m.n (lf vs) s.n) : Nat) : Int)) (w' := w11) rfl rfl rfl rfl ?_
  simp only [Act.put, sa, sz, ss]
  refine rest_nil (then_normal ?_)
  refine wp_seq (wp_seq ?_)
  refine (walk_seq) 20 [.quiet (.slice rp_.p rp_.n rp_.c), .quiet (.slice tp_.p tp_.n tp_.cp), .call (.bool true), .quiet (.bool false), .quiet (.bool false), .quiet (.int .i64 ((we a.n d.n (l2 1048576 q.n m.n) : Nat) : Int)), .quiet (.int .i64 ((we a.n d.n (l2 1048576 q.n m.n) : Nat) : Int)), .quiet (.bool false), .quiet (.bool false), .quiet (.bool false), .quiet (.slice ro_.p ro_.n ro_.c), .quiet (.slice to_.p to_.n to_.cp), .call (.bool true), .quiet (.bool false), .quiet (.bool false), .quiet (.bool false), .quiet (.int .i64 ((oe (we a.n d.n (l2 1048592 s.n m.n)) s.n (tgb (lf xs) (lf ys) (lf us) m.n (lf vs) s.n) : Nat) : Int)), .quiet (.int .i64 ((oe (we a.n d.n (l2 1048592 s.n m.n)) s.n (tgb (lf xs) (lf ys) (lf us) m.n (lf vs) s.n) : Nat) : Int)), .quiet (.bool false), .quiet (.bool false)] (fun u' => Mm u' [(γ3_1, ints .u8 (lf xs) (a.n + 3)), (γ3_3, ints .u8 (lf ys) (d.n + 3)), (γ3_5, ints .u8 (lf zs) (q.n + 3)), (γ3_7, ints .u8 (lf us) (m.n + 3)), (γ3_9, ints .u8 (lf vs) (s.n + 3))] ∧ (a.bs xs u' ∧ d.bs ys u' ∧ q.bs zs u' ∧ m.bs us u' ∧ s.bs vs u' ∧ (((Rw rp_ u'  ∧ tp_.rs u' ) ∧ Rw ro_ u' ) ∧ to_.rs u' ))) ?pre8 ?F8 ?hpre8 (fun γ => ?hF8) (by kernel_rfl) ?hL8 ?hS8 ?ho8 ?he8
  case hpre8 => simp only [tk, tz]; rfl
  case hF8 => simp only [fill, Kind.val, Act.put, sa, sz, ss]; rfl
  case hL8 => exact trivial
  case hS8 => exact fun w' hb => ⟨H11.out.1.below hb, ⟨RA.out.below (Bk.step H11.out.2 (hb)).b, RD.out.below (Bk.step H11.out.2 (hb)).b, RQ.out.below (Bk.step H11.out.2 (hb)).b, RM.out.below (Bk.step H11.out.2 (hb)).b, RS.out.below (Bk.step H11.out.2 (hb)).b, (Bk.step H11.out.2 (hb)).r⟩⟩
  case ho8 =>
    refine ak (fun _ => ⟨rfl, fun _ _ => rfl⟩) ?_
    refine ak (fun _ => ⟨rfl, fun _ _ => rfl⟩) ?_
    refine ak (fun γ => ⟨rfl, fun w' hX => ⟨15, #[.slice rp_.p rp_.n rp_.c, .slice tp_.p tp_.n tp_.cp], exec_call rfl call15 rfl (mpn rfl), same_rt Krp_.out Ktp_.out (fun j hj => by rw [ha.f, hd.f, hq.f, hm.f]; exact seal_doc (lf_lt hm.by_) _ _ (az_lt hj)) w' (hX.2.2.2.2.2.2.1.1.1).1 (hX.2.2.2.2.2.2.1.1.2)⟩⟩) ?_
    refine ak (by refine fun γ => ⟨rfl, fun w' h => ?_⟩; clear h; go_simp) ?_
    refine ak (fun _ => ⟨rfl, fun _ _ => rfl⟩) ?_
    refine ak (fun _ => ⟨rfl, fun _ _ => rfl⟩) ?_
    refine ak (fun _ => ⟨rfl, fun _ _ => rfl⟩) ?_
    refine ak (by refine fun γ => ⟨rfl, fun w' h => ?_⟩; clear h; go_simp <;> omega) ?_
    refine ak (by refine fun γ => ⟨rfl, fun w' h => ?_⟩; clear h; go_simp) ?_
    refine ak (fun _ => ⟨rfl, fun _ _ => rfl⟩) ?_
    refine ak (fun _ => ⟨rfl, fun _ _ => rfl⟩) ?_
    refine ak (fun _ => ⟨rfl, fun _ _ => rfl⟩) ?_
    refine ak (fun γ => ⟨rfl, fun w' hX => ⟨15, #[.slice ro_.p ro_.n ro_.c, .slice to_.p to_.n to_.cp], exec_call rfl call15 rfl (mpn rfl), same_rt Kro_.out Kto_.out (fun j _ => rfl) w' (hX.2.2.2.2.2.2.1.2).1 (hX.2.2.2.2.2.2.2)⟩⟩) ?_
    refine ak (by refine fun γ => ⟨rfl, fun w' h => ?_⟩; clear h; go_simp) ?_
    refine ak (by refine fun γ => ⟨rfl, fun w' h => ?_⟩; clear h; go_simp) ?_
    refine ak (fun _ => ⟨rfl, fun _ _ => rfl⟩) ?_
    refine ak (fun _ => ⟨rfl, fun _ _ => rfl⟩) ?_
    refine ak (fun _ => ⟨rfl, fun _ _ => rfl⟩) ?_
    refine ak (by refine fun γ => ⟨rfl, fun w' h => ?_⟩; clear h; go_simp <;> omega) ?_
    refine ak (by refine fun γ => ⟨rfl, fun w' h => ?_⟩; clear h; go_simp) ?_
    exact trivial
  intro γ w12 l hM hl
  have M12 : Mm w12 [(γ3_1, ints .u8 (lf xs) (a.n + 3)), (γ3_3, ints .u8 (lf ys) (d.n + 3)), (γ3_5, ints .u8 (lf zs) (q.n + 3)), (γ3_7, ints .u8 (lf us) (m.n + 3)), (γ3_9, ints .u8 (lf vs) (s.n + 3))] := H11.out.1.grow hM (Nat.le_refl _) hl [] rfl (by decide)
  have B12 : Bk w (fun u => (((Rw rp_ u ∧ tp_.rs u) ∧ Rw ro_ u) ∧ to_.rs u)) w12 := Bk.step H11.out.2 (hM.below)
  clear hM hl l H11
  clear γ
  have H12 : Hid (_ ∧ _) := ⟨M12, B12⟩
  clear M12 B12
  refine rest0 rfl (then_normal (wp_cond_false rfl ?_))
  refine wp_skip (then_normal (wp_seq ?_))
  refine (walk_seq) 28 [.quiet (.slice (some ⟨γ3_1, 0, none⟩) a.n (a.n + 3)), .quiet (.slice a.p a.n a.cp), .call (.bool true), .quiet (.bool true), .quiet (.slice (some ⟨γ3_3, 0, none⟩) d.n (d.n + 3)), .quiet (.slice d.p d.n d.cp), .call (.bool true), .quiet (.bool true), .quiet (.bool true), .quiet (.slice (some ⟨γ3_5, 0, none⟩) q.n (q.n + 3)), .quiet (.slice q.p q.n q.cp), .call (.bool true), .quiet (.bool true), .quiet (.bool true), .quiet (.slice (some ⟨γ3_7, 0, none⟩) m.n (m.n + 3)), .quiet (.slice m.p m.n m.cp), .call (.bool true), .quiet (.bool true), .quiet (.bool true), .quiet (.slice (some ⟨γ3_9, 0, none⟩) s.n (s.n + 3)), .quiet (.slice s.p s.n s.cp), .call (.bool true), .quiet (.bool true), .quiet (.bool true), .quiet (.slice rp_.p rp_.n rp_.c), .quiet (.slice ro_.p ro_.n ro_.c), .quiet (.slice (some ⟨γ3_1, 0, none⟩) a.n (a.n + 3)), .quiet (.slice (some ⟨γ3_3, 0, none⟩) d.n (d.n + 3))] (fun u' => Mm u' [(γ3_1, ints .u8 (lf xs) (a.n + 3)), (γ3_3, ints .u8 (lf ys) (d.n + 3)), (γ3_5, ints .u8 (lf zs) (q.n + 3)), (γ3_7, ints .u8 (lf us) (m.n + 3)), (γ3_9, ints .u8 (lf vs) (s.n + 3))] ∧ (a.bs xs u' ∧ d.bs ys u' ∧ q.bs zs u' ∧ m.bs us u' ∧ s.bs vs u' ∧ (((Rw rp_ u'  ∧ tp_.rs u' ) ∧ Rw ro_ u' ) ∧ to_.rs u' ))) ?pre9 ?F9 ?hpre9 (fun γ => ?hF9) (by kernel_rfl) ?hL9 ?hS9 ?ho9 ?he9
  case hpre9 => simp only [tk, tz]; rfl
  case hF9 => simp only [fill, Kind.val, Act.put, sa, sz, ss]; rfl
  case hL9 => exact trivial
  case hS9 => exact fun w' hb => ⟨H12.out.1.below hb, ⟨RA.out.below (Bk.step H12.out.2 (hb)).b, RD.out.below (Bk.step H12.out.2 (hb)).b, RQ.out.below (Bk.step H12.out.2 (hb)).b, RM.out.below (Bk.step H12.out.2 (hb)).b, RS.out.below (Bk.step H12.out.2 (hb)).b, (Bk.step H12.out.2 (hb)).r⟩⟩
  case ho9 =>
    refine ak (fun _ => ⟨rfl, fun _ _ => rfl⟩) ?_
    refine ak (fun _ => ⟨rfl, fun _ _ => rfl⟩) ?_
    refine ak (fun γ => ⟨rfl, fun w' hX => ⟨16, #[.slice (some ⟨γ3_1, 0, none⟩) a.n (a.n + 3), .slice a.p a.n a.cp], exec_call rfl call16 rfl (mpn rfl), kept_partB ha (by omega) hX.1 0 rfl hX.2.1⟩⟩) ?_
    refine ak (fun _ => ⟨rfl, fun _ _ => rfl⟩) ?_
    refine ak (fun _ => ⟨rfl, fun _ _ => rfl⟩) ?_
    refine ak (fun _ => ⟨rfl, fun _ _ => rfl⟩) ?_
    refine ak (fun γ => ⟨rfl, fun w' hX => ⟨16, #[.slice (some ⟨γ3_3, 0, none⟩) d.n (d.n + 3), .slice d.p d.n d.cp], exec_call rfl call16 rfl (mpn rfl), kept_partB hd (by omega) hX.1 1 rfl hX.2.2.1⟩⟩) ?_
    refine ak (by refine fun γ => ⟨rfl, fun w' h => ?_⟩; clear h; go_simp) ?_
    refine ak (fun _ => ⟨rfl, fun _ _ => rfl⟩) ?_
    refine ak (fun _ => ⟨rfl, fun _ _ => rfl⟩) ?_
    refine ak (fun _ => ⟨rfl, fun _ _ => rfl⟩) ?_
    refine ak (fun γ => ⟨rfl, fun w' hX => ⟨16, #[.slice (some ⟨γ3_5, 0, none⟩) q.n (q.n + 3), .slice q.p q.n q.cp], exec_call rfl call16 rfl (mpn rfl), kept_partB hq (by omega) hX.1 2 rfl hX.2.2.2.1⟩⟩) ?_
    refine ak (by refine fun γ => ⟨rfl, fun w' h => ?_⟩; clear h; go_simp) ?_
    refine ak (fun _ => ⟨rfl, fun _ _ => rfl⟩) ?_
    refine ak (fun _ => ⟨rfl, fun _ _ => rfl⟩) ?_
    refine ak (fun _ => ⟨rfl, fun _ _ => rfl⟩) ?_
    refine ak (fun γ => ⟨rfl, fun w' hX => ⟨16, #[.slice (some ⟨γ3_7, 0, none⟩) m.n (m.n + 3), .slice m.p m.n m.cp], exec_call rfl call16 rfl (mpn rfl), kept_partB hm (by omega) hX.1 3 rfl hX.2.2.2.2.1⟩⟩) ?_
    refine ak (by refine fun γ => ⟨rfl, fun w' h => ?_⟩; clear h; go_simp) ?_
    refine ak (fun _ => ⟨rfl, fun _ _ => rfl⟩) ?_
    refine ak (fun _ => ⟨rfl, fun _ _ => rfl⟩) ?_
    refine ak (fun _ => ⟨rfl, fun _ _ => rfl⟩) ?_
    refine ak (fun γ => ⟨rfl, fun w' hX => ⟨16, #[.slice (some ⟨γ3_9, 0, none⟩) s.n (s.n + 3), .slice s.p s.n s.cp], exec_call rfl call16 rfl (mpn rfl), kept_partB hs (by omega) hX.1 4 rfl hX.2.2.2.2.2.1⟩⟩) ?_
    refine ak (by refine fun γ => ⟨rfl, fun w' h => ?_⟩; clear h; go_simp) ?_
    refine ak (fun _ => ⟨rfl, fun _ _ => rfl⟩) ?_
    refine ak (fun _ => ⟨rfl, fun _ _ => rfl⟩) ?_
    refine ak (fun _ => ⟨rfl, fun _ _ => rfl⟩) ?_
    refine ak (fun _ => ⟨rfl, fun _ _ => rfl⟩) ?_
    refine ak (fun _ => ⟨rfl, fun _ _ => rfl⟩) ?_
    exact trivial
  intro γ w13 l hM hl
  have M13 : Mm w13 [(γ3_1, ints .u8 (lf xs) (a.n + 3)), (γ3_3, ints .u8 (lf ys) (d.n + 3)), (γ3_5, ints .u8 (lf zs) (q.n + 3)), (γ3_7, ints .u8 (lf us) (m.n + 3)), (γ3_9, ints .u8 (lf vs) (s.n + 3))] := H12.out.1.grow hM (Nat.le_refl _) hl [] rfl (by decide)
  have B13 : Bk w (fun u => (((Rw rp_ u ∧ tp_.rs u) ∧ Rw ro_ u) ∧ to_.rs u)) w13 := Bk.step H12.out.2 (hM.below)
  clear hM hl l H12
  clear γ
  have H13 : Hid (_ ∧ _) := ⟨M13, B13⟩
  clear M13 B13
  refine rest_at (l := [28, 29, 30, 31]) rfl ?_
  have Lrp_ : Hid (rp_.p ≠ none → rp_.g ≠ w13.heap.size) := fun h => by have a1 := (H13.out.2.r.1.1.1).2 h; omega
  have Lro_ : Hid (ro_.p ≠ none → ro_.g ≠ w13.heap.size) := fun h => by have a1 := (H13.out.2.r.1.2).2 h; omega
  refine rest_set (d := 137) (v := .slice (some ⟨w13.heap.size, 0, none⟩) 4 4) (w' := (w13.alloc (.cells ([Value.slice rp_.p rp_.n rp_.c, Value.slice ro_.p ro_.n ro_.c, Value.slice (some ⟨γ3_1, 0, none⟩) a.n (a.n + 3), Value.slice (some ⟨γ3_3, 0, none⟩) d.n (d.n + 3)] : List Value).toArray 22))) rfl rfl rfl (ex_bsL4 rfl rfl rfl rfl rfl) ?_
  simp only [Act.put, sa, sz, ss]
  have o_γs14 : Hid (w.heap.size ≤ w13.heap.size) := H13.out.2.size
  have H14 : Hid (Mm (w13.alloc (.cells ([Value.slice rp_.p rp_.n rp_.c, Value.slice ro_.p ro_.n ro_.c, Value.slice (some ⟨γ3_1, 0, none⟩) a.n (a.n + 3), Value.slice (some ⟨γ3_3, 0, none⟩) d.n (d.n + 3)] : List Value).toArray 22)) ((w13.heap.size, [Value.slice rp_.p rp_.n rp_.c, Value.slice ro_.p ro_.n ro_.c, Value.slice (some ⟨γ3_1, 0, none⟩) a.n (a.n + 3), Value.slice (some ⟨γ3_3, 0, none⟩) d.n (d.n + 3)]) :: [(γ3_1, ints .u8 (lf xs) (a.n + 3)), (γ3_3, ints .u8 (lf ys) (d.n + 3)), (γ3_5, ints .u8 (lf zs) (q.n + 3)), (γ3_7, ints .u8 (lf us) (m.n + 3)), (γ3_9, ints .u8 (lf vs) (s.n + 3))]) ∧ Bk w (fun u => (((Rw rp_ u ∧ tp_.rs u) ∧ Rw ro_ u) ∧ to_.rs u)) (w13.alloc (.cells ([Value.slice rp_.p rp_.n rp_.c, Value.slice ro_.p ro_.n ro_.c, Value.slice (some ⟨γ3_1, 0, none⟩) a.n (a.n + 3), Value.slice (some ⟨γ3_3, 0, none⟩) d.n (d.n + 3)] : List Value).toArray 22))) := ⟨H13.out.1.alloc _ 22 rfl, Bk.step H13.out.2 (((Below.refl _ _).alloc (Nat.le_refl _) _))⟩
  clear H13
  generalize hgw : (w13.alloc (.cells ([Value.slice rp_.p rp_.n rp_.c, Value.slice ro_.p ro_.n ro_.c, Value.slice (some ⟨γ3_1, 0, none⟩) a.n (a.n + 3), Value.slice (some ⟨γ3_3, 0, none⟩) d.n (d.n + 3)] : List Value).toArray 22)) = w14 at H14 ⊢
  clear hgw
  generalize w13.heap.size = γs14 at o_γs14 Lrp_ Lro_ H14 ⊢
  refine rest_enter (d := 138) (R := fun vv w' => vv = .bool true ∧ Below w14.heap.size w14 w') rfl rfl rfl (exec_call (args := #[.slice (some ⟨γs14, 0, none⟩) 4 4]) rfl call17 rfl (mpn rfl)) (Calls.mono (apart4g (A0 := rp_) (A1 := ro_) (A2 := ap γ3_1 a.n (a.n + 3) (lf xs)) (A3 := ap γ3_3 d.n (d.n + 3) (lf ys)) Krp_.out.1 Kro_.out.1 (ap_ok (Nat.le_add_right _ _) (by omega) (lf_lt ha.by_)) (ap_ok (Nat.le_add_right _ _) (by omega) (lf_lt hd.by_)) (H14.out.2.r.1.1.1).1 (H14.out.2.r.1.2).1 (.inr (H14.out.1.one 1 rfl)) (.inr (H14.out.1.one 2 rfl)) Nrp_ro_.out (fun h _ => Mxsrp_.out h) (fun h _ => Mysrp_.out h) (fun h _ => Mxsro_.out h) (fun h _ => Mysro_.out h) (fun _ _ => mm_ne H14.out.1 1 2 rfl rfl (by decide)) Lrp_.out Lro_.out (fun _ => mm_ne H14.out.1 1 0 rfl rfl (by decide)) (fun _ => mm_ne H14.out.1 2 0 rfl rfl (by decide)) (H14.out.1.one 0 rfl)) (fun e w2 hh => ⟨_, hh.1, rfl, hh.2⟩)) ?_
  rintro _ w15 ⟨rfl, hb⟩
  have H15 : Hid (_ ∧ _) := ⟨H14.out.1.below hb, Bk.step H14.out.2 (hb)⟩
  clear hb H14
  simp only [Act.put, sa, sz, ss]
  refine rest_set (d := 139) (v := .bool true) (w' := w15) rfl rfl rfl (by go_simp) ?_
  simp only [Act.put, sa, sz, ss]
  refine rest_set (d := 10) (v := .bool true) (w' := w15) rfl rfl rfl rfl ?_
  simp only [Act.put, sa, sz, ss]
  refine rest_nil (then_normal (wp_ret ?_))
  repeat (first | refine then_ret ?_ | refine block_ret ?_)
  refine bodyPost_ret (v := .bool true) (by simp [results, Try.results4, go_sem, *]) rfl ?_
  exact ⟨rfl, H15.out.2.b⟩
theorem seals_any (xs : List Int) (c0 : Nat) (v0 : Value) (hx0 : ∀ x ∈ xs, 0 ≤ x ∧ x < 256) (ys : List Int) (c1 : Nat) (v1 : Value) (hx1 : ∀ x ∈ ys, 0 ≤ x ∧ x < 256) (zs : List Int) (c2 : Nat) (v2 : Value) (hx2 : ∀ x ∈ zs, 0 ≤ x ∧ x < 256) (us : List Int) (c3 : Nat) (v3 : Value) (hx3 : ∀ x ∈ us, 0 ≤ x ∧ x < 256) (vs : List Int) (c4 : Nat) (v4 : Value) (hx4 : ∀ x ∈ vs, 0 ≤ x ∧ x < 256) (w : World) (h0 : BSl w xs c0 v0) (k0 : v0 = .slice none 0 0 ∨ ∃ a k c', v0 = .slice (some a) k c') (h1 : BSl w ys c1 v1) (k1 : v1 = .slice none 0 0 ∨ ∃ a k c', v1 = .slice (some a) k c') (h2 : BSl w zs c2 v2) (k2 : v2 = .slice none 0 0 ∨ ∃ a k c', v2 = .slice (some a) k c') (h3 : BSl w us c3 v3) (k3 : v3 = .slice none 0 0 ∨ ∃ a k c', v3 = .slice (some a) k c') (h4 : BSl w vs c4 v4) (k4 : v4 = .slice none 0 0 ∨ ∃ a k c', v4 = .slice (some a) k c') : Calls Try.prog 4 #[v0, v1, v2, v3, v4] w fun e w' => e = .returned (.bool true) ∧ Below w.heap.size w w' := by
  obtain ⟨a, rfl, ga, Ga⟩ := bsl_ar hx0 h0 k0
  obtain ⟨d, rfl, gd, Gd⟩ := bsl_ar hx1 h1 k1
  obtain ⟨q, rfl, gq, Gq⟩ := bsl_ar hx2 h2 k2
  obtain ⟨m, rfl, gm, Gm⟩ := bsl_ar hx3 h3 k3
  obtain ⟨s, rfl, gs, Gs⟩ := bsl_ar hx4 h4 k4
  by_cases fq : Few q.n
  · by_cases fm : Few m.n
    · by_cases fs : Few s.n
      · by_cases h1 : 2000 < a.n
        · exact seals_a xs ys zs us vs a d q m s fq fm fs h1 w Ga Gd Gq Gm Gs
        · by_cases h2 : 2000 < d.n
          · exact seals_d xs ys zs us vs a d q m s fq fm fs (by omega) h2 w Ga Gd Gq Gm Gs
          · exact seals_ok xs ys zs us vs a d q m s ga gd gq gm gs fq fm fs (by omega) (by omega) w Ga Gd Gq Gm Gs
      · exact seals_fs xs ys zs us vs a d q m s fq fm fs w Ga Gd Gq Gm Gs
    · exact seals_fm xs ys zs us vs a d q m s fq fm w Ga Gd Gq Gm Gs
  · exact seals_fq xs ys zs us vs a d q m s fq w Ga Gd Gq Gm Gs
end Rg
end Go.Proofs.Ytkkippfikfjdpaa
end
section
namespace Go.Proofs.Ytkkippfikfjdpaa
open Go.ChangeShapes Go.WideShapes Go.ChangeAt Go.RowKit
theorem Try.own : ownKnob Try.prog.godebug = none := by kernel_rfl
theorem Try.laidOut : laidOutB Try.prog = true := by kernel_rfl
theorem Try.cells5 : Try.prog.cellsOf 5 = 1 := by kernel_rfl
set_option maxRecDepth 100000 in
theorem open_bytes {H : Type} {enc : TypeId × Value → H} {w : World} {base : Nat} {sp : Nat → Bool} {held : Bool} {r : Reach} {b0 : Nat} {v : Value} {d : DataW H} {ps : List MemPlace}
    (hval : Value.okWide Try.prog w r b0 22 v) (hd : DataW.Trod enc Try.prog w base sp held 22 v d ps) :
    ∃ xs c, BSl w xs c v ∧ (∀ x ∈ xs, 0 ≤ x ∧ x < 256) ∧ (v = .slice none 0 0 ∨ ∃ a k c', v = .slice (some a) k c') ∧ ∀ x ∈ ps, x.block < w.heap.size := by
  obtain ⟨a0, len, cap, rfl⟩ := okWide_slice Try.underlying22 hval
  obtain ⟨fuel, hf⟩ := hd
  rcases open_ints Try.underlying22 Try.underlying5 Try.cells5 hf with ⟨hcs, hx⟩ | ⟨a, len', cap', zs, hcs, _, hl, hm, hz, hx, hcell, hwz⟩
  · simp [Value.cells] at hcs
    obtain ⟨rfl, rfl, rfl⟩ := hcs
    simp only [Prod.mk.injEq] at hx
    obtain ⟨_, rfl⟩ := hx
    exact ⟨[], 0, .void none rfl, by simp, .inl rfl, by simp⟩
  · simp [Value.cells] at hcs
    obtain ⟨rfl, rfl, rfl⟩ := hcs
    simp only [Prod.mk.injEq] at hx
    obtain ⟨_, rfl⟩ := hx
    have hlz : len ≤ zs.length := by rw [hz]; split <;> omega
    have hps : ∀ x ∈ MemPlace.row a zs.length, x.block < w.heap.size := fun x hx => by
      obtain ⟨i, hi, rfl⟩ := MemPlace.mem_row.1 hx
      have := World.block_lt_of_cell? w _ (hcell i hi)
      obtain ⟨b, off, rfl, _⟩ := ints_at hcell (by omega)
      exact World.block_lt_of_cell? w _ (hcell 0 (by omega))
    have hb : ∀ x ∈ zs, 0 ≤ x ∧ x < 256 := fun x hx => by
      have := bounds_u8 (hwz x hx)
      omega
    by_cases h0 : len = 0
    · subst h0
      exact ⟨[], cap, .void (some a) rfl, by simp, .inr ⟨_, _, _, rfl⟩, hps⟩
    · obtain ⟨b, off, rfl, hc⟩ := ints_at hcell (by omega)
      refine ⟨zs.take len, cap, ?_, fun x hx => hb x (List.mem_of_mem_take hx), .inr ⟨_, _, _, rfl⟩, hps⟩
      have hlen : (zs.take len).length = len := by simp; omega
      have hf : BSl w (zs.take len) cap (.slice (some ⟨b, off, none⟩) (zs.take len).length cap) := .full b off (World.block_lt_of_cell? w _ (hc 0 (by omega))) (by rw [hlen]; exact hl) (fun i hi => by
        rw [hlen] at hi
        rw [hc i (by omega)]
        simp [hi])
      rw [hlen] at hf
      exact hf
section
variable {H : Type} {enc : TypeId × Value → H} {w : World} {base : Nat} {sp : Nat → Bool} {held : Bool} {r : Reach} {b0 : Nat} {v : Value} {d : DataW H} {ps : List MemPlace}
end
section
variable {H : Type} {enc : TypeId × Value → H} {P : Program} {w : World} {base : Nat} {spare : Nat → Bool} {held : Bool}
theorem trodAll_five {t0 t1 t2 t3 t4 : TypeId} {args : Array Value} {ds : List (DataW H)} {ps : List MemPlace} (h : DataW.TrodAll enc P w base spare held [t0, t1, t2, t3, t4] args.toList ds ps) :
    ∃ v0 v1 v2 v3 v4 d0 d1 d2 d3 d4 p0 p1 p2 p3 p4, args = #[v0, v1, v2, v3, v4] ∧ ds = [d0, d1, d2, d3, d4] ∧ ps = p0 ++ p1 ++ p2 ++ p3 ++ p4 ∧ DataW.Trod enc P w base spare held t0 v0 d0 p0 ∧ DataW.Trod enc P w base spare held t1 v1 d1 p1 ∧ DataW.Trod enc P w base spare held t2 v2 d2 p2 ∧ DataW.Trod enc P w base spare held t3 v3 d3 p3 ∧ DataW.Trod enc P w base spare held t4 v4 d4 p4 := by
  obtain ⟨v0, vs, d0, ds', p0, q, hargs, rfl, rfl, h0, r0⟩ := trodAll_cons h
  obtain ⟨v1, vs', d1, ds'', p1, q', rfl, rfl, rfl, h1, r1⟩ := trodAll_cons r0
  obtain ⟨v2, vs'', d2, ds3, p2, q'', rfl, rfl, rfl, h2, r2⟩ := trodAll_cons r1
  obtain ⟨v3, vs3, d3, ds4, p3, q3, rfl, rfl, rfl, h3, r3⟩ := trodAll_cons r2
  obtain ⟨v4, vs4, d4, ds5, p4, q4, rfl, rfl, rfl, h4, r4⟩ := trodAll_cons r3
  obtain ⟨rfl, rfl, rfl⟩ := trodAll_nil r4
  exact ⟨v0, v1, v2, v3, v4, d0, d1, d2, d3, d4, p0, p1, p2, p3, p4, by cases args; simp_all, rfl, by simp, h0, h1, h2, h3, h4⟩
theorem trodAll_mk5 {t0 t1 t2 t3 t4 : TypeId} {v0 v1 v2 v3 v4 : Value} {d0 d1 d2 d3 d4 : DataW H} {p0 p1 p2 p3 p4 : List MemPlace} (h0 : DataW.Trod enc P w base spare held t0 v0 d0 p0) (h1 : DataW.Trod enc P w base spare held t1 v1 d1 p1) (h2 : DataW.Trod enc P w base spare held t2 v2 d2 p2) (h3 : DataW.Trod enc P w base spare held t3 v3 d3 p3) (h4 : DataW.Trod enc P w base spare held t4 v4 d4 p4) : DataW.TrodAll enc P w base spare held [t0, t1, t2, t3, t4] [v0, v1, v2, v3, v4] [d0, d1, d2, d3, d4] (p0 ++ (p1 ++ (p2 ++ (p3 ++ p4)))) :=
  ⟨p0, _, h0, trodAll_mk4 h1 h2 h3 h4, rfl⟩
end
end Go.Proofs.Ytkkippfikfjdpaa
end
