/- Texts of the proof, joined. -/
import Derived.Test.YtkkippfikfjdpaaP4
import Derived.ProofKit
import Derived.OpenShut
import Derived.ChangeSlices
import Derived.Test.YtkkippfikfjdpaaRows
section
namespace Go.Proofs.Ytkkippfikfjdpaa
open Go.RowKit
namespace Rg
set_option maxRecDepth 100000
/-- A sealed text: the stream, the tag behind it. -/
def sl0 (K N P : Nat → Nat) (n : Nat) (M : Nat → Nat) (m : Nat) : Nat → Nat := ct (so K N 1 P) n (mt K N M m (so K N 1 P) n)
theorem sl0_256 (K N P : Nat → Nat) (n : Nat) (M : Nat → Nat) (m : Nat) : ∀ j, sl0 K N P n M m j < 256 := ct_lt (so_256 K N 1 P) (mt_256 K N M m _ n)
theorem seal_eq (K N P M : Nat → Nat) (n m j : Nat) (_ : j < n + 16) : py (szr K N 1 P (fun _ => 0) n) (0 + n) 16 (mt K N M m (szr K N 1 P (fun _ => 0) n) n) j = sl0 K N P n M m j := by
  rw [mt_cg (S' := so K N 1 P) (szr_lt K N 1 P (fun _ => 0) n)]
  unfold py sl0 ct
  by_cases e : j < n
  · rw [if_neg (by omega), if_pos e, szr_lt K N 1 P _ n j e]
  · rw [if_pos (by omega), if_neg e, Nat.zero_add]
theorem call40 : ∀ args w, (callFunc 40 args).run Try.prog w = .ok (.enter 40 args) w := by intro args w; go_simp
theorem call42 : ∀ args w, (callFunc 42 args).run Try.prog w = .ok (.enter 42 args) w := by intro args w; go_simp
set_option maxHeartbeats 2000000 in
set_option maxRecDepth 100000 in
theorem PSeal_ok (K N : Nat → Nat) (gk ok ck gn on cn : Nat) (hck : 32 ≤ ck) (hcn : 12 ≤ cn) (q mo : Pt8) (hq : Pok q) (hmo : Pok mo) (hfmo : ∀ j, mo.f j < 256) (hl : q.n ≤ 1048576) (hm : mo.n ≤ 1048576) (w : World) (hRk : Rs gk ok 32 K w) (hRn : Rs gn on 12 N w) (hRb : q.rs w) (hRm : mo.rs w) :
    Calls Try.prog 18 #[.slice (some ⟨gk, ok, none⟩) 32 ck, .slice (some ⟨gn, on, none⟩) 12 cn, .slice q.p q.n q.cp, .slice mo.p mo.n mo.cp] w fun e w' => Below w.heap.size w w' ∧ ∃ g, e = .returned (.tuple #[.slice (some ⟨g, 0, none⟩) (q.n + 16) (q.n + 16), .int .i64 0]) ∧ w.heap.size ≤ g ∧ g < w'.heap.size ∧ Blk w' g (ints .u8 (sl0 K N q.f q.n mo.f mo.n) (q.n + 16)) := by
  have H0 : Hid (_ ∧ _) := ⟨Mm.nil w, Below.refl w.heap.size w⟩
  have RK : Hid (Rs gk ok 32 K w) := hRk
  have RN : Hid (Rs gn on 12 N w) := hRn
  have RB : Hid (q.rs w) := hRb
  have RM : Hid (mo.rs w) := hRm
  clear hRk hRn hRb hRm
  go_enter Try.func18, Try.ntmps18
  refine wp_seq ?_
  refine walk_seqB 2 [.quiet (.slice none 0 0), .quiet (.int .i64 0)] H0 ?ho1 ?he1
  case ho1 => exact ak (fun _ => ⟨rfl, fun _ _ => rfl⟩) (ak (fun _ => ⟨rfl, fun _ _ => rfl⟩) trivial)
  intro _ w1 H1
  refine rest0 rfl (then_normal (wp_seq (wp_seq ?_)))
  refine walk_seqB 4 [.quiet (.slice (some ⟨gk, ok, none⟩) 32 ck), .quiet (.slice (some ⟨gn, on, none⟩) 12 cn), .call (.bool true), .quiet (.bool false)] H1 ?ho2 ?he2
  case ho2 => exact ak (fun _ => ⟨rfl, fun _ _ => rfl⟩) (ak (fun _ => ⟨rfl, fun _ _ => rfl⟩) (ak (fun γ => ⟨rfl, fun w' h => ⟨27, #[.slice (some ⟨gk, ok, none⟩) 32 ck, .slice (some ⟨gn, on, none⟩) 12 cn], exec_call rfl call27 rfl (mpn rfl), fit_yes _ _ 32 12 _ _ rfl rfl w'⟩⟩) (ak (by refine fun γ => ⟨rfl, fun w' h => ?_⟩; clear h; go_simp) trivial)))
  intro _ w2 H2
  clear H1
  refine rest0 rfl (then_normal (wp_cond_false rfl ?_))
  refine wp_skip (then_normal ?_)
  refine wp_seq (wp_seq ?_)
  refine walk_seqB 8 [.quiet (.slice q.p q.n q.cp), .quiet (.int .i64 ((q.n : Nat) : Int)), .quiet (.bool false), .quiet (.bool false), .quiet (.slice mo.p mo.n mo.cp), .quiet (.int .i64 ((mo.n : Nat) : Int)), .quiet (.bool false), .quiet (.bool false)] H2 ?ho3 ?he3
  case ho3 => exact ak (fun _ => ⟨rfl, fun _ _ => rfl⟩) (ak (by refine fun γ => ⟨rfl, fun w' h => ?_⟩; clear h; go_simp) (ak (by refine fun γ => ⟨rfl, fun w' h => ?_⟩; clear h; go_simp <;> omega) (ak (fun _ => ⟨rfl, fun _ _ => rfl⟩) (ak (fun _ => ⟨rfl, fun _ _ => rfl⟩) (ak (by refine fun γ => ⟨rfl, fun w' h => ?_⟩; clear h; go_simp) (ak (by refine fun γ => ⟨rfl, fun w' h => ?_⟩; clear h; go_simp <;> omega) (ak (by refine fun γ => ⟨rfl, fun w' h => ?_⟩; clear h; go_simp) trivial)))))))
  intro _ w3 H3
  clear H2
  refine rest0 rfl (then_normal (wp_cond_false rfl ?_))
  refine wp_skip (then_normal (wp_seq ?_))
  refine walk_seqB 3 [.quiet (.slice q.p q.n q.cp), .quiet (.int .i64 ((q.n : Nat) : Int)), .quiet (.int .i64 ((q.n + 16 : Nat) : Int))] H3 ?ho4 ?he4
  case ho4 => exact ak (fun _ => ⟨rfl, fun _ _ => rfl⟩) (ak (by refine fun γ => ⟨rfl, fun w' h => ?_⟩; clear h; go_simp) (ak (by refine fun γ => ⟨rfl, fun w' h => ?_⟩; clear h; go_simp; rw [IntKind.wrap_i64]; omega) trivial))
  intro _ w4 H4
  clear H3
  refine rest_at (l := [3, 4]) rfl ?_
  refine rest_set (d := 28) (v := .slice (some ⟨w4.heap.size, 0, none⟩) (q.n + 16) (q.n + 16)) (w' := (w4.alloc (.cells (ints .u8 (fun _ => 0) (q.n + 16)).toArray 5))) rfl rfl rfl (ex_mkB (m := (q.n + 16)) (by omega) rfl rfl rfl) ?_
  simp only [Act.put, sa, sz, ss]
  have o_γs5 : Hid (w.heap.size ≤ w4.heap.size) := H4.out.2.size
  have H5 : Hid (Mm (w4.alloc (.cells (ints .u8 (fun _ => 0) (q.n + 16)).toArray 5)) ((w4.heap.size, ints .u8 (fun _ => 0) (q.n + 16)) :: []) ∧ Below w.heap.size w (w4.alloc (.cells (ints .u8 (fun _ => 0) (q.n + 16)).toArray 5))) := ⟨H4.out.1.alloc _ 5 rfl, H4.out.2.alloc H4.out.2.size _⟩
  clear H4
  generalize hgw : (w4.alloc (.cells (ints .u8 (fun _ => 0) (q.n + 16)).toArray 5)) = w5 at H5 ⊢
  clear hgw
  generalize w4.heap.size = γs5 at o_γs5 H5 ⊢
  refine rest_set (d := 10) (v := .slice (some ⟨γs5, 0, none⟩) (q.n + 16) (q.n + 16)) (w' := w5) rfl rfl rfl rfl ?_
  simp only [Act.put, sa, sz, ss]
  refine rest_nil (then_normal (wp_seq ?_))
  refine walk_seqB 5 [.quiet (.slice (some ⟨γs5, 0, none⟩) (q.n + 16) (q.n + 16)), .quiet (.slice q.p q.n q.cp), .quiet (.int .i64 ((q.n : Nat) : Int)), .quiet (.slice (some ⟨γs5, 0, none⟩) q.n (q.n + 16)), .quiet (.slice (some ⟨γs5, 0, none⟩) q.n (q.n + 16))] H5 ?ho5 ?he5
  case ho5 => exact ak (fun _ => ⟨rfl, fun _ _ => rfl⟩) (ak (fun _ => ⟨rfl, fun _ _ => rfl⟩) (ak (by refine fun γ => ⟨rfl, fun w' h => ?_⟩; clear h; go_simp) (ak (fun γ => ⟨rfl, fun w' _ => ex_slH22 (l := q.n) rfl rfl rfl (by omega)⟩) (ak (fun _ => ⟨rfl, fun _ _ => rfl⟩) trivial))))
  intro _ w6 H6
  clear H5
  refine rest0 rfl (then_normal (wp_seq ?_))
  refine (walk_seq) 5 [.quiet (.slice (some ⟨γs5, 0, none⟩) q.n (q.n + 16)), .quiet (.slice (some ⟨gk, ok, none⟩) 32 ck), .quiet (.slice (some ⟨gn, on, none⟩) 12 cn), .call (.agg (ints .u32 (k3 K N 1 3) 16).toArray), .quiet (.slice q.p q.n q.cp)] (fun u' => Mm u' [(γs5, ints .u8 (fun _ => 0) (q.n + 16))] ∧ (Rs gk ok 32 K u' ∧ Rs gn on 12 N u' ∧ q.rs u' ∧ mo.rs u')) ?pre6 ?F6 ?hpre6 (fun γ => ?hF6) (by kernel_rfl) ?hL6 ?hS6 ?ho6 ?he6
  case hpre6 => simp only [tk, tz]; rfl
  case hF6 => simp only [fill, Kind.val, Act.put, sa, sz, ss]; rfl
  case hL6 => exact trivial
  case hS6 => exact fun w' hb => ⟨H6.out.1.below hb, ⟨RK.out.below (H6.out.2.trans (hb.mono H6.out.2.size)), RN.out.below (H6.out.2.trans (hb.mono H6.out.2.size)), RB.out.below (H6.out.2.trans (hb.mono H6.out.2.size)), RM.out.below (H6.out.2.trans (hb.mono H6.out.2.size))⟩⟩
  case ho6 =>
    refine ak (fun _ => ⟨rfl, fun _ _ => rfl⟩) ?_
    refine ak (fun _ => ⟨rfl, fun _ _ => rfl⟩) ?_
    refine ak (fun _ => ⟨rfl, fun _ _ => rfl⟩) ?_
    refine ak (fun γ => ⟨rfl, fun w' hX => ⟨28, #[.slice (some ⟨gk, ok, none⟩) 32 ck, .slice (some ⟨gn, on, none⟩) 12 cn, .int .u32 1], exec_call rfl call28 rfl (mpn rfl), begun_any K N gk ok ck gn on cn 1 hck hcn w' hX.2.1 hX.2.2.1⟩⟩) ?_
    refine ak (fun _ => ⟨rfl, fun _ _ => rfl⟩) ?_
    exact trivial
  intro γ w7 l hM hl
  have H7 := keepB H6 hM.below
  clear hM hl l H6 γ
  refine rest_at (l := [5]) rfl ?_
  refine rest_enter (d := 38) (R := fun vv w' => vv = .tuple #[] ∧ Mm w' [(γs5, ints .u8 (szr K N 1 q.f (fun _ => 0) q.n) (q.n + 16))] ∧ Kp γs5 w7 w') rfl rfl rfl (exec_call (args := #[.slice (some ⟨γs5, 0, none⟩) q.n (q.n + 16), .agg (ints .u32 (k3 K N 1 3) 16).toArray, .slice q.p q.n q.cp]) rfl call32 rfl (mpn rfl)) (Calls.mono (pstream_any K N (fun _ => 0) 1 γs5 (q.n + 16) q (by decide) (hq) (fun hn => by have h1 := RB.out.lt hn; have h2 := o_γs5.out; omega) (by omega) (by omega) w7 (H7.out.1.one 0 rfl) (RB.out.below H7.out.2)) (fun e w2 hh => ⟨_, hh.1, rfl, hh.2⟩)) ?_
  rintro _ w8 ⟨rfl, hn, hp⟩
  have H8 : Hid (Mm w8 [(γs5, ints .u8 (szr K N 1 q.f (fun _ => 0) q.n) (q.n + 16))] ∧ Below w.heap.size w w8) := ⟨H7.out.1.change 0 rfl hp hn, Below.kp H7.out.2 hp o_γs5.out H7.out.2.size⟩
  clear hn hp H7
  simp only [Act.put, sa, sz, ss]
  refine rest_nil (then_normal (wp_seq ?_))
  refine (walk_seq) 7 [.quiet (.slice (some ⟨gk, ok, none⟩) 32 ck), .quiet (.slice (some ⟨gn, on, none⟩) 12 cn), .quiet (.slice (some ⟨γs5, 0, none⟩) q.n (q.n + 16)), .quiet (.slice mo.p mo.n mo.cp), .call (.agg (ints .u8 (mt K N mo.f mo.n (szr K N 1 q.f (fun _ => 0) q.n) q.n) 16).toArray), .made (ints .u8 (fun _ => 0) 16) 65, .laid 5 (ints .u8 (fun _ => 0) 16) (ints .u8 (mt K N mo.f mo.n (szr K N 1 q.f (fun _ => 0) q.n) q.n) 16)] (fun u' => Mm u' [(γs5, ints .u8 (szr K N 1 q.f (fun _ => 0) q.n) (q.n + 16))] ∧ (Rs gk ok 32 K u' ∧ Rs gn on 12 N u' ∧ q.rs u' ∧ mo.rs u')) ?pre7 ?F7 ?hpre7 (fun γ => ?hF7) (by kernel_rfl) ?hL7 ?hS7 ?ho7 ?he7
  case hpre7 => simp only [tk, tz]; rfl
  case hF7 => simp only [fill, Kind.val, Act.put, sa, sz, ss]; rfl
  case hL7 => exact ⟨⟨_, rfl⟩, trivial⟩
  case hS7 => exact fun w' hb => ⟨H8.out.1.below hb, ⟨RK.out.below (H8.out.2.trans (hb.mono H8.out.2.size)), RN.out.below (H8.out.2.trans (hb.mono H8.out.2.size)), RB.out.below (H8.out.2.trans (hb.mono H8.out.2.size)), RM.out.below (H8.out.2.trans (hb.mono H8.out.2.size))⟩⟩
  case ho7 =>
    refine ak (fun _ => ⟨rfl, fun _ _ => rfl⟩) ?_
    refine ak (fun _ => ⟨rfl, fun _ _ => rfl⟩) ?_
    refine ak (fun _ => ⟨rfl, fun _ _ => rfl⟩) ?_
    refine ak (fun _ => ⟨rfl, fun _ _ => rfl⟩) ?_
    refine ak (fun γ => ⟨rfl, fun w' hX => have h := hX.1; ⟨40, #[.slice (some ⟨gk, ok, none⟩) 32 ck, .slice (some ⟨gn, on, none⟩) 12 cn, .slice (some ⟨γs5, 0, none⟩) q.n (q.n + 16), .slice mo.p mo.n mo.cp], exec_call rfl call40 rfl (mpn rfl), sealTag_any K N gk ok ck gn on cn hck hcn (pc γs5 q.n (q.n + 16) (szr K N 1 q.f (fun _ => 0) q.n)) mo (pc_ok _ _ 16 _) hmo (szr_256 (fun _ => by decide)) hfmo (by show q.n ≤ 1048592; omega) (by omega) w' hX.2.1 hX.2.2.1 (h.rs 0 rfl (Nat.le_add_right _ _)) hX.2.2.2.2⟩⟩) ?_
    refine ak (fun γ => ⟨rfl, fun w' => ex_mk65 rfl⟩) ?_
    refine ak (fun γ => ⟨rfl, rfl, (ints_len _ _ _).trans (ints_len _ _ _).symm, fun w' h => ex_laidI h Try.sizeOf65 rfl rfl rfl⟩) ?_
    exact trivial
  intro γ w9 l hM hl
  have H9 : Hid (Mm w9 [(γ 5, ints .u8 (mt K N mo.f mo.n (szr K N 1 q.f (fun _ => 0) q.n) q.n) 16), (γs5, ints .u8 (szr K N 1 q.f (fun _ => 0) q.n) (q.n + 16))] ∧ _) := growB H8 hM (Nat.le_refl _) hl [5] rfl (by decide)
  have o7_5 := ownB H8 hM (Nat.le_refl _) hl (i := 5) rfl
  clear hM hl l H8
  generalize γ 5 = γ7_5 at H9 o7_5 ⊢
  clear γ
  refine rest0 rfl (then_normal (wp_seq ?_))
  refine walk_anyB 5 [.quiet (.slice (some ⟨γs5, 0, none⟩) (q.n + 16) (q.n + 16)), .quiet (.slice q.p q.n q.cp), .quiet (.int .i64 ((q.n : Nat) : Int)), .quiet (.slice (some ⟨γs5, (0 + q.n), none⟩) ((q.n + 16) - q.n) ((q.n + 16) - q.n)), .quiet (.slice (some ⟨γ7_5, 0, none⟩) 16 16)] H9 ?ho8 ?he8
  case ho8 => exact ak (fun _ => ⟨rfl, fun _ _ => rfl⟩) (ak (fun _ => ⟨rfl, fun _ _ => rfl⟩) (ak (by refine fun γ => ⟨rfl, fun w' h => ?_⟩; clear h; go_simp) (ak (fun γ => ⟨rfl, fun w' _ => ex_slT (l := q.n) rfl rfl rfl (by omega) (by omega)⟩) (ak (by refine fun γ => ⟨rfl, fun w' h => ?_⟩; clear h; go_simp) trivial))))
  intro _ w10 H10
  clear H9
  refine rest_at (l := [5]) rfl ?_
  refine rest_set (d := 49) (v := .int .i64 ((16 : Nat) : Int)) (w' := w10.setCells γs5 (0 + q.n) (ints .u8 (mt K N mo.f mo.n (szr K N 1 q.f (fun _ => 0) q.n) q.n) 16)) rfl rfl rfl (ex_copyR (mm := 16) H10.out.1 1 rfl ((H10.out.1.rs 0 rfl (Nat.le_refl _)).at_) (show 16 = min 16 (q.n + 16 - q.n) by omega) (by omega) rfl rfl rfl) ?_
  simp only [Act.put, sa, sz, ss]
  have H11 : Hid (Mm (w10.setCells γs5 (0 + q.n) (ints .u8 (mt K N mo.f mo.n (szr K N 1 q.f (fun _ => 0) q.n) q.n) 16)) [(γ7_5, ints .u8 (mt K N mo.f mo.n (szr K N 1 q.f (fun _ => 0) q.n) q.n) 16), (γs5, ints .u8 (py (szr K N 1 q.f (fun _ => 0) q.n) (0 + q.n) 16 (mt K N mo.f mo.n (szr K N 1 q.f (fun _ => 0) q.n) q.n)) (q.n + 16))] ∧ Below w.heap.size w (w10.setCells γs5 (0 + q.n) (ints .u8 (mt K N mo.f mo.n (szr K N 1 q.f (fun _ => 0) q.n) q.n) 16))) := ⟨by
    have h := H10.out.1.put 1 (off := (0 + q.n)) (vs := ints .u8 (mt K N mo.f mo.n (szr K N 1 q.f (fun _ => 0) q.n) q.n) 16) rfl (by rw [ints_len, ints_len]; omega)
    rw [ints_part _ _ (by omega)] at h
    exact h, below_setCells _ o_γs5.out _ _ _ H10.out.2⟩
  clear H10
  generalize hgw : World.setCells _ _ _ _ = w11 at H11 ⊢
  clear hgw
  refine rest_nil (then_normal (wp_seq ?_))
  refine walk_seqB 3 [.quiet (.slice (some ⟨γs5, 0, none⟩) (q.n + 16) (q.n + 16)), .quiet (.slice (some ⟨γs5, 0, none⟩) (q.n + 16) (q.n + 16)), .quiet (.int .i64 0)] H11 ?ho9 ?he9
  case ho9 => exact ak (fun _ => ⟨rfl, fun _ _ => rfl⟩) (ak (fun _ => ⟨rfl, fun _ _ => rfl⟩) (ak (fun _ => ⟨rfl, fun _ _ => rfl⟩) trivial))
  intro _ w12 H12
  clear H11
  refine rest0 rfl (then_normal (wp_ret ?_))
  repeat (first | refine then_ret ?_ | refine block_ret ?_)
  refine bodyPost_ret (v := .tuple #[.slice (some ⟨γs5, 0, none⟩) (q.n + 16) (q.n + 16), .int .i64 0]) (by simp [results, Try.results18, go_sem, *]) rfl ?_
  have hM := H12.out.1.one 1 rfl
  rw [ints_congr (seal_eq K N q.f mo.f q.n mo.n)] at hM
  exact ⟨H12.out.2, _, rfl, o_γs5.out, (hM.blk _ (List.mem_singleton.2 rfl)).1, (hM.blk _ (List.mem_singleton.2 rfl)).2⟩
theorem Rs.head {g o n m : Nat} {f : Nat → Nat} {w : World} (h : Rs g o n f w) (hm : m ≤ n) : Rs g o m f w := ⟨fun h0 => h.lt (by omega), fun i hi => h.at_ i (by omega)⟩
set_option maxHeartbeats 2000000 in
set_option maxRecDepth 100000 in
theorem POpen_bad (K N : Nat → Nat) (gk ok ck gn on cn : Nat) (hck : 32 ≤ ck) (hcn : 12 ≤ cn) (P : Nat → Nat) (gb ob n cb : Nat) (mo : Pt8) (hmo : Pok mo) (hP : ∀ j, P j < 256) (hfmo : ∀ j, mo.f j < 256) (h16 : 16 ≤ n) (hcb : n ≤ cb) (hl : n ≤ 1048592) (hm : mo.n ≤ 1048576) (hT : ¬ (∀ j, j < 16 → mt K N mo.f mo.n P (n - 16) j = P ((n - 16) + j))) (w : World) (hRk : Rs gk ok 32 K w) (hRn : Rs gn on 12 N w) (hRb : Rs gb ob n P w) (hRm : mo.rs w) :
    Calls Try.prog 20 #[.slice (some ⟨gk, ok, none⟩) 32 ck, .slice (some ⟨gn, on, none⟩) 12 cn, .slice (some ⟨gb, ob, none⟩) n cb, .slice mo.p mo.n mo.cp] w fun e w' => e = .returned (.tuple #[.slice none 0 0, .int .i64 200]) ∧ Below w.heap.size w w' := by
  have H0 : Hid (_ ∧ _) := ⟨Mm.nil w, Below.refl w.heap.size w⟩
  have RK : Hid (Rs gk ok 32 K w) := hRk
  have RN : Hid (Rs gn on 12 N w) := hRn
  have RB : Hid (Rs gb ob n P w) := hRb
  have RM : Hid (mo.rs w) := hRm
  clear hRk hRn hRb hRm
  go_enter Try.func20, Try.ntmps20
  refine wp_seq ?_
  refine walk_seqB 2 [.quiet (.slice none 0 0), .quiet (.int .i64 0)] H0 ?ho1 ?he1
  case ho1 => exact ak (fun _ => ⟨rfl, fun _ _ => rfl⟩) (ak (fun _ => ⟨rfl, fun _ _ => rfl⟩) trivial)
  intro _ w1 H1
  refine rest0 rfl (then_normal (wp_seq (wp_seq ?_)))
  refine walk_seqB 4 [.quiet (.slice (some ⟨gk, ok, none⟩) 32 ck), .quiet (.slice (some ⟨gn, on, none⟩) 12 cn), .call (.bool true), .quiet (.bool false)] H1 ?ho2 ?he2
  case ho2 => exact ak (fun _ => ⟨rfl, fun _ _ => rfl⟩) (ak (fun _ => ⟨rfl, fun _ _ => rfl⟩) (ak (fun γ => ⟨rfl, fun w' h => ⟨27, #[.slice (some ⟨gk, ok, none⟩) 32 ck, .slice (some ⟨gn, on, none⟩) 12 cn], exec_call rfl call27 rfl (mpn rfl), fit_yes _ _ 32 12 _ _ rfl rfl w'⟩⟩) (ak (by refine fun γ => ⟨rfl, fun w' h => ?_⟩; clear h; go_simp) trivial)))
  intro _ w2 H2
  clear H1
  refine rest0 rfl (then_normal (wp_cond_false rfl ?_))
  refine wp_skip (then_normal ?_)
  refine wp_seq (wp_seq ?_)
  refine walk_seqB 8 [.quiet (.slice (some ⟨gb, ob, none⟩) n cb), .quiet (.int .i64 ((n : Nat) : Int)), .quiet (.bool false), .quiet (.bool false), .quiet (.slice mo.p mo.n mo.cp), .quiet (.int .i64 ((mo.n : Nat) : Int)), .quiet (.bool false), .quiet (.bool false)] H2 ?ho3 ?he3
  case ho3 => exact ak (fun _ => ⟨rfl, fun _ _ => rfl⟩) (ak (by refine fun γ => ⟨rfl, fun w' h => ?_⟩; clear h; go_simp) (ak (by refine fun γ => ⟨rfl, fun w' h => ?_⟩; clear h; go_simp <;> omega) (ak (fun _ => ⟨rfl, fun _ _ => rfl⟩) (ak (fun _ => ⟨rfl, fun _ _ => rfl⟩) (ak (by refine fun γ => ⟨rfl, fun w' h => ?_⟩; clear h; go_simp) (ak (by refine fun γ => ⟨rfl, fun w' h => ?_⟩; clear h; go_simp <;> omega) (ak (by refine fun γ => ⟨rfl, fun w' h => ?_⟩; clear h; go_simp) trivial)))))))
  intro _ w3 H3
  clear H2
  refine rest0 rfl (then_normal (wp_cond_false rfl ?_))
  refine wp_skip (then_normal ?_)
  refine wp_seq (wp_seq ?_)
  refine walk_seqB 3 [.quiet (.slice (some ⟨gb, ob, none⟩) n cb), .quiet (.int .i64 ((n : Nat) : Int)), .quiet (.bool false)] H3 ?ho4 ?he4
  case ho4 => exact ak (fun _ => ⟨rfl, fun _ _ => rfl⟩) (ak (by refine fun γ => ⟨rfl, fun w' h => ?_⟩; clear h; go_simp) (ak (by refine fun γ => ⟨rfl, fun w' h => ?_⟩; clear h; go_simp <;> omega) trivial))
  intro _ w4 H4
  clear H3
  refine rest0 rfl (then_normal (wp_cond_false rfl ?_))
  refine wp_skip (then_normal (wp_seq ?_))
  refine walk_seqB 4 [.quiet (.slice (some ⟨gb, ob, none⟩) n cb), .quiet (.int .i64 ((n : Nat) : Int)), .quiet (.int .i64 ((n - 16 : Nat) : Int)), .quiet (.int .i64 ((n - 16 : Nat) : Int))] H4 ?ho5 ?he5
  case ho5 => exact ak (fun _ => ⟨rfl, fun _ _ => rfl⟩) (ak (by refine fun γ => ⟨rfl, fun w' h => ?_⟩; clear h; go_simp) (ak (by refine fun γ => ⟨rfl, fun w' h => ?_⟩; clear h; go_simp; rw [IntKind.wrap_i64]; omega) (ak (fun _ => ⟨rfl, fun _ _ => rfl⟩) trivial)))
  intro _ w5 H5
  clear H4
  refine rest0 rfl (then_normal (wp_seq ?_))
  refine walk_seqB 4 [.quiet (.slice (some ⟨gb, ob, none⟩) n cb), .quiet (.int .i64 ((n - 16 : Nat) : Int)), .quiet (.slice (some ⟨gb, ob, none⟩) (n - 16) cb), .quiet (.slice (some ⟨gb, ob, none⟩) (n - 16) cb)] H5 ?ho6 ?he6
  case ho6 => exact ak (fun _ => ⟨rfl, fun _ _ => rfl⟩) (ak (fun _ => ⟨rfl, fun _ _ => rfl⟩) (ak (fun γ => ⟨rfl, fun w' _ => ex_slH22 (l := n - 16) rfl rfl rfl (by omega)⟩) (ak (fun _ => ⟨rfl, fun _ _ => rfl⟩) trivial)))
  intro _ w6 H6
  clear H5
  refine rest0 rfl (then_normal (wp_seq (wp_seq ?_)))
  refine (walk_any) (by kernel_rfl) 12 [.quiet (.slice (some ⟨gk, ok, none⟩) 32 ck), .quiet (.slice (some ⟨gn, on, none⟩) 12 cn), .quiet (.slice (some ⟨gb, ob, none⟩) (n - 16) cb), .quiet (.slice mo.p mo.n mo.cp), .call (.agg (ints .u8 (mt K N mo.f mo.n P (n - 16)) 16).toArray), .quiet (.slice (some ⟨gb, ob, none⟩) n cb), .quiet (.int .i64 ((n - 16 : Nat) : Int)), .quiet (.slice (some ⟨gb, (ob + (n - 16)), none⟩) (n - (n - 16)) (cb - (n - 16))), .quiet (PT gb (ob + (n - 16))), .quiet (.agg (ints .u8 (fun j => P ((n - 16) + j)) 16).toArray), .call (.bool false), .quiet (.bool true)] (fun u' => Mm u' [] ∧ (Rs gk ok 32 K u' ∧ Rs gn on 12 N u' ∧ Rs gb ob n P u' ∧ mo.rs u')) ?pre7 ?F7 ?hpre7 (fun γ => ?hF7) (by kernel_rfl) ?hL7 ?hS7 ?ho7 ?he7
  case hpre7 => simp only [tk, tz]; rfl
  case hF7 => simp only [fill, Kind.val, Act.put, sa, sz, ss]; rfl
  case hL7 => exact trivial
  case hS7 => exact fun w' hb => ⟨H6.out.1.below hb, ⟨RK.out.below (H6.out.2.trans (hb.mono H6.out.2.size)), RN.out.below (H6.out.2.trans (hb.mono H6.out.2.size)), RB.out.below (H6.out.2.trans (hb.mono H6.out.2.size)), RM.out.below (H6.out.2.trans (hb.mono H6.out.2.size))⟩⟩
  case ho7 =>
    refine ak (fun _ => ⟨rfl, fun _ _ => rfl⟩) ?_
    refine ak (fun _ => ⟨rfl, fun _ _ => rfl⟩) ?_
    refine ak (fun _ => ⟨rfl, fun _ _ => rfl⟩) ?_
    refine ak (fun _ => ⟨rfl, fun _ _ => rfl⟩) ?_
    refine ak (fun γ => ⟨rfl, fun w' hX => ⟨40, #[.slice (some ⟨gk, ok, none⟩) 32 ck, .slice (some ⟨gn, on, none⟩) 12 cn, .slice (some ⟨gb, ob, none⟩) (n - 16) cb, .slice mo.p mo.n mo.cp], exec_call rfl call40 rfl (mpn rfl), sealTag_any K N gk ok ck gn on cn hck hcn (pa gb ob (n - 16) cb P) mo (pa_ok gb ob P (by omega)) hmo hP hfmo (by show n - 16 ≤ 1048592; omega) (by omega) w' hX.2.1 hX.2.2.1 (Rs.head hX.2.2.2.1 (Nat.sub_le _ _)) hX.2.2.2.2⟩⟩) ?_
    refine ak (fun _ => ⟨rfl, fun _ _ => rfl⟩) ?_
    refine ak (fun _ => ⟨rfl, fun _ _ => rfl⟩) ?_
    refine ak (fun γ => ⟨rfl, fun w' _ => ex_slT (l := n - 16) rfl rfl rfl (by omega) (by omega)⟩) ?_
    refine ak (fun γ => ⟨rfl, fun w' _ => ex_toArr rfl rfl (by omega)⟩) ?_
    refine ak (fun γ => ⟨rfl, fun w' hX => ex_ldA (hX.2.2.2.1.part (n - 16)) (by omega) rfl rfl⟩) ?_
    refine ak (fun γ => ⟨rfl, fun w' hX => ⟨42, #[.agg (ints .u8 (mt K N mo.f mo.n P (n - 16)) 16).toArray, .agg (ints .u8 (fun j => P ((n - 16) + j)) 16).toArray], exec_call rfl call42 rfl (mpn rfl), psame_any _ _ (mt_256 _ _ _ _ _ _) (fun j => hP _) false (by simpa using hT) w'⟩⟩) ?_
    refine ak (by refine fun γ => ⟨rfl, fun w' h => ?_⟩; clear h; go_simp) ?_
    exact trivial
  intro γ w7 l hM hl
  have H7 := keepB H6 hM.below
  clear hM hl l H6 γ
  refine rest0 rfl (then_normal (wp_cond_true rfl (wp_seq ?_)))
  refine walk_seqB 2 [.quiet (.slice none 0 0), .quiet (.int .i64 200)] H7 ?ho8 ?he8
  case ho8 => exact ak (fun _ => ⟨rfl, fun _ _ => rfl⟩) (ak (fun _ => ⟨rfl, fun _ _ => rfl⟩) trivial)
  intro _ w8 H8
  clear H7
  refine rest0 rfl (then_normal (wp_ret ?_))
  repeat (first | refine then_ret ?_ | refine block_ret ?_)
  refine bodyPost_ret (v := .tuple #[.slice none 0 0, .int .i64 200]) (by simp [results, Try.results20, go_sem, *]) rfl ?_
  exact ⟨rfl, H8.out.2⟩
set_option maxHeartbeats 2000000 in
set_option maxRecDepth 100000 in
theorem POpen_ok (K N : Nat → Nat) (gk ok ck gn on cn : Nat) (hck : 32 ≤ ck) (hcn : 12 ≤ cn) (P : Nat → Nat) (gb ob n cb : Nat) (mo : Pt8) (hmo : Pok mo) (hP : ∀ j, P j < 256) (hfmo : ∀ j, mo.f j < 256) (h16 : 16 ≤ n) (hcb : n ≤ cb) (hl : n ≤ 1048592) (hm : mo.n ≤ 1048576) (hT : ∀ j, j < 16 → mt K N mo.f mo.n P (n - 16) j = P ((n - 16) + j)) (w : World) (hRk : Rs gk ok 32 K w) (hRn : Rs gn on 12 N w) (hRb : Rs gb ob n P w) (hRm : mo.rs w) :
    Calls Try.prog 20 #[.slice (some ⟨gk, ok, none⟩) 32 ck, .slice (some ⟨gn, on, none⟩) 12 cn, .slice (some ⟨gb, ob, none⟩) n cb, .slice mo.p mo.n mo.cp] w fun e w' => Below w.heap.size w w' ∧ ∃ g, e = .returned (.tuple #[.slice (some ⟨g, 0, none⟩) (n - 16) (n - 16), .int .i64 0]) ∧ w.heap.size ≤ g ∧ g < w'.heap.size ∧ Blk w' g (ints .u8 (so K N 1 P) (n - 16)) := by
  have H0 : Hid (_ ∧ _) := ⟨Mm.nil w, Below.refl w.heap.size w⟩
  have RK : Hid (Rs gk ok 32 K w) := hRk
  have RN : Hid (Rs gn on 12 N w) := hRn
  have RB : Hid (Rs gb ob n P w) := hRb
  have RM : Hid (mo.rs w) := hRm
  clear hRk hRn hRb hRm
  go_enter Try.func20, Try.ntmps20
  refine wp_seq ?_
  refine walk_seqB 2 [.quiet (.slice none 0 0), .quiet (.int .i64 0)] H0 ?ho1 ?he1
  case ho1 => exact ak (fun _ => ⟨rfl, fun _ _ => rfl⟩) (ak (fun _ => ⟨rfl, fun _ _ => rfl⟩) trivial)
  intro _ w1 H1
  refine rest0 rfl (then_normal (wp_seq (wp_seq ?_)))
  refine walk_seqB 4 [.quiet (.slice (some ⟨gk, ok, none⟩) 32 ck), .quiet (.slice (some ⟨gn, on, none⟩) 12 cn), .call (.bool true), .quiet (.bool false)] H1 ?ho2 ?he2
  case ho2 => exact ak (fun _ => ⟨rfl, fun _ _ => rfl⟩) (ak (fun _ => ⟨rfl, fun _ _ => rfl⟩) (ak (fun γ => ⟨rfl, fun w' h => ⟨27, #[.slice (some ⟨gk, ok, none⟩) 32 ck, .slice (some ⟨gn, on, none⟩) 12 cn], exec_call rfl call27 rfl (mpn rfl), fit_yes _ _ 32 12 _ _ rfl rfl w'⟩⟩) (ak (by refine fun γ => ⟨rfl, fun w' h => ?_⟩; clear h; go_simp) trivial)))
  intro _ w2 H2
  clear H1
  refine rest0 rfl (then_normal (wp_cond_false rfl ?_))
  refine wp_skip (then_normal ?_)
  refine wp_seq (wp_seq ?_)
  refine walk_seqB 8 [.quiet (.slice (some ⟨gb, ob, none⟩) n cb), .quiet (.int .i64 ((n : Nat) : Int)), .quiet (.bool false), .quiet (.bool false), .quiet (.slice mo.p mo.n mo.cp), .quiet (.int .i64 ((mo.n : Nat) : Int)), .quiet (.bool false), .quiet (.bool false)] H2 ?ho3 ?he3
  case ho3 => exact ak (fun _ => ⟨rfl, fun _ _ => rfl⟩) (ak (by refine fun γ => ⟨rfl, fun w' h => ?_⟩; clear h; go_simp) (ak (by refine fun γ => ⟨rfl, fun w' h => ?_⟩; clear h; go_simp <;> omega) (ak (fun _ => ⟨rfl, fun _ _ => rfl⟩) (ak (fun _ => ⟨rfl, fun _ _ => rfl⟩) (ak (by refine fun γ => ⟨rfl, fun w' h => ?_⟩; clear h; go_simp) (ak (by refine fun γ => ⟨rfl, fun w' h => ?_⟩; clear h; go_simp <;> omega) (ak (by refine fun γ => ⟨rfl, fun w' h => ?_⟩; clear h; go_simp) trivial)))))))
  intro _ w3 H3
  clear H2
  refine rest0 rfl (then_normal (wp_cond_false rfl ?_))
  refine wp_skip (then_normal ?_)
  refine wp_seq (wp_seq ?_)
  refine walk_seqB 3 [.quiet (.slice (some ⟨gb, ob, none⟩) n cb), .quiet (.int .i64 ((n : Nat) : Int)), .quiet (.bool false)] H3 ?ho4 ?he4
  case ho4 => exact ak (fun _ => ⟨rfl, fun _ _ => rfl⟩) (ak (by refine fun γ => ⟨rfl, fun w' h => ?_⟩; clear h; go_simp) (ak (by refine fun γ => ⟨rfl, fun w' h => ?_⟩; clear h; go_simp <;> omega) trivial))
  intro _ w4 H4
  clear H3
  refine rest0 rfl (then_normal (wp_cond_false rfl ?_))
  refine wp_skip (then_normal (wp_seq ?_))
  refine walk_seqB 4 [.quiet (.slice (some ⟨gb, ob, none⟩) n cb), .quiet (.int .i64 ((n : Nat) : Int)), .quiet (.int .i64 ((n - 16 : Nat) : Int)), .quiet (.int .i64 ((n - 16 : Nat) : Int))] H4 ?ho5 ?he5
  case ho5 => exact ak (fun _ => ⟨rfl, fun _ _ => rfl⟩) (ak (by refine fun γ => ⟨rfl, fun w' h => ?_⟩; clear h; go_simp) (ak (by refine fun γ => ⟨rfl, fun w' h => ?_⟩; clear h; go_simp; rw [IntKind.wrap_i64]; omega) (ak (fun _ => ⟨rfl, fun _ _ => rfl⟩) trivial)))
  intro _ w5 H5
  clear H4
  refine rest0 rfl (then_normal (wp_seq ?_))
  refine walk_seqB 4 [.quiet (.slice (some ⟨gb, ob, none⟩) n cb), .quiet (.int .i64 ((n - 16 : Nat) : Int)), .quiet (.slice (some ⟨gb, ob, none⟩) (n - 16) cb), .quiet (.slice (some ⟨gb, ob, none⟩) (n - 16) cb)] H5 ?ho6 ?he6
  case ho6 => exact ak (fun _ => ⟨rfl, fun _ _ => rfl⟩) (ak (fun _ => ⟨rfl, fun _ _ => rfl⟩) (ak (fun γ => ⟨rfl, fun w' _ => ex_slH22 (l := n - 16) rfl rfl rfl (by omega)⟩) (ak (fun _ => ⟨rfl, fun _ _ => rfl⟩) trivial)))
  intro _ w6 H6
  clear H5
  refine rest0 rfl (then_normal (wp_seq (wp_seq ?_)))
  refine (walk_any) (by kernel_rfl) 12 [.quiet (.slice (some ⟨gk, ok, none⟩) 32 ck), .quiet (.slice (some ⟨gn, on, none⟩) 12 cn), .quiet (.slice (some ⟨gb, ob, none⟩) (n - 16) cb), .quiet (.slice mo.p mo.n mo.cp), .call (.agg (ints .u8 (mt K N mo.f mo.n P (n - 16)) 16).toArray), .quiet (.slice (some ⟨gb, ob, none⟩) n cb), .quiet (.int .i64 ((n - 16 : Nat) : Int)), .quiet (.slice (some ⟨gb, (ob + (n - 16)), none⟩) (n - (n - 16)) (cb - (n - 16))), .quiet (PT gb (ob + (n - 16))), .quiet (.agg (ints .u8 (fun j => P ((n - 16) + j)) 16).toArray), .call (.bool true), .quiet (.bool false)] (fun u' => Mm u' [] ∧ (Rs gk ok 32 K u' ∧ Rs gn on 12 N u' ∧ Rs gb ob n P u' ∧ mo.rs u')) ?pre7 ?F7 ?hpre7 (fun γ => ?hF7) (by kernel_rfl) ?hL7 ?hS7 ?ho7 ?he7
  case hpre7 => simp only [tk, tz]; rfl
  case hF7 => simp only [fill, Kind.val, Act.put, sa, sz, ss]; rfl
  case hL7 => exact trivial
  case hS7 => exact fun w' hb => ⟨H6.out.1.below hb, ⟨RK.out.below (H6.out.2.trans (hb.mono H6.out.2.size)), RN.out.below (H6.out.2.trans (hb.mono H6.out.2.size)), RB.out.below (H6.out.2.trans (hb.mono H6.out.2.size)), RM.out.below (H6.out.2.trans (hb.mono H6.out.2.size))⟩⟩
  case ho7 =>
    refine ak (fun _ => ⟨rfl, fun _ _ => rfl⟩) ?_
    refine ak (fun _ => ⟨rfl, fun _ _ => rfl⟩) ?_
    refine ak (fun _ => ⟨rfl, fun _ _ => rfl⟩) ?_
    refine ak (fun _ => ⟨rfl, fun _ _ => rfl⟩) ?_
    refine ak (fun γ => ⟨rfl, fun w' hX => ⟨40, #[.slice (some ⟨gk, ok, none⟩) 32 ck, .slice (some ⟨gn, on, none⟩) 12 cn, .slice (some ⟨gb, ob, none⟩) (n - 16) cb, .slice mo.p mo.n mo.cp], exec_call rfl call40 rfl (mpn rfl), sealTag_any K N gk ok ck gn on cn hck hcn (pa gb ob (n - 16) cb P) mo (pa_ok gb ob P (by omega)) hmo hP hfmo (by show n - 16 ≤ 1048592; omega) (by omega) w' hX.2.1 hX.2.2.1 (Rs.head hX.2.2.2.1 (Nat.sub_le _ _)) hX.2.2.2.2⟩⟩) ?_
    refine ak (fun _ => ⟨rfl, fun _ _ => rfl⟩) ?_
    refine ak (fun _ => ⟨rfl, fun _ _ => rfl⟩) ?_
    refine ak (fun γ => ⟨rfl, fun w' _ => ex_slT (l := n - 16) rfl rfl rfl (by omega) (by omega)⟩) ?_
    refine ak (fun γ => ⟨rfl, fun w' _ => ex_toArr rfl rfl (by omega)⟩) ?_
    refine ak (fun γ => ⟨rfl, fun w' hX => ex_ldA (hX.2.2.2.1.part (n - 16)) (by omega) rfl rfl⟩) ?_
    refine ak (fun γ => ⟨rfl, fun w' hX => ⟨42, #[.agg (ints .u8 (mt K N mo.f mo.n P (n - 16)) 16).toArray, .agg (ints .u8 (fun j => P ((n - 16) + j)) 16).toArray], exec_call rfl call42 rfl (mpn rfl), psame_any _ _ (mt_256 _ _ _ _ _ _) (fun j => hP _) true (⟨fun _ => hT, fun _ => rfl⟩) w'⟩⟩) ?_
    refine ak (by refine fun γ => ⟨rfl, fun w' h => ?_⟩; clear h; go_simp) ?_
    exact trivial
  intro γ w7 l hM hl
  have H7 := keepB H6 hM.below
  clear hM hl l H6 γ
  refine rest0 rfl (then_normal (wp_cond_false rfl ?_))
  refine wp_skip (then_normal (wp_seq ?_))
  refine walk_seqB 1 [.quiet (.int .i64 ((n - 16 : Nat) : Int))] H7 ?ho8 ?he8
  case ho8 => exact ak (fun _ => ⟨rfl, fun _ _ => rfl⟩) trivial
  intro _ w8 H8
  clear H7
  refine rest_at (l := [1, 2]) rfl ?_
  refine rest_set (d := 47) (v := .slice (some ⟨w8.heap.size, 0, none⟩) (n - 16) (n - 16)) (w' := (w8.alloc (.cells (ints .u8 (fun _ => 0) (n - 16)).toArray 5))) rfl rfl rfl (ex_mkB (m := (n - 16)) (by omega) rfl rfl rfl) ?_
  simp only [Act.put, sa, sz, ss]
  have o_γs9 : Hid (w.heap.size ≤ w8.heap.size) := H8.out.2.size
  have H9 : Hid (Mm (w8.alloc (.cells (ints .u8 (fun _ => 0) (n - 16)).toArray 5)) ((w8.heap.size, ints .u8 (fun _ => 0) (n - 16)) :: []) ∧ Below w.heap.size w (w8.alloc (.cells (ints .u8 (fun _ => 0) (n - 16)).toArray 5))) := ⟨H8.out.1.alloc _ 5 rfl, H8.out.2.alloc H8.out.2.size _⟩
  clear H8
  generalize hgw : (w8.alloc (.cells (ints .u8 (fun _ => 0) (n - 16)).toArray 5)) = w9 at H9 ⊢
  clear hgw
  generalize w8.heap.size = γs9 at o_γs9 H9 ⊢
  refine rest_set (d := 12) (v := .slice (some ⟨γs9, 0, none⟩) (n - 16) (n - 16)) (w' := w9) rfl rfl rfl rfl ?_
  simp only [Act.put, sa, sz, ss]
  refine rest_nil (then_normal (wp_seq ?_))
  refine (walk_seq) 5 [.quiet (.slice (some ⟨γs9, 0, none⟩) (n - 16) (n - 16)), .quiet (.slice (some ⟨gk, ok, none⟩) 32 ck), .quiet (.slice (some ⟨gn, on, none⟩) 12 cn), .call (.agg (ints .u32 (k3 K N 1 3) 16).toArray), .quiet (.slice (some ⟨gb, ob, none⟩) (n - 16) cb)] (fun u' => Mm u' [(γs9, ints .u8 (fun _ => 0) (n - 16))] ∧ (Rs gk ok 32 K u' ∧ Rs gn on 12 N u' ∧ Rs gb ob n P u' ∧ mo.rs u')) ?pre9 ?F9 ?hpre9 (fun γ => ?hF9) (by kernel_rfl) ?hL9 ?hS9 ?ho9 ?he9
  case hpre9 => simp only [tk, tz]; rfl
  case hF9 => simp only [fill, Kind.val, Act.put, sa, sz, ss]; rfl
  case hL9 => exact trivial
  case hS9 => exact fun w' hb => ⟨H9.out.1.below hb, ⟨RK.out.below (H9.out.2.trans (hb.mono H9.out.2.size)), RN.out.below (H9.out.2.trans (hb.mono H9.out.2.size)), RB.out.below (H9.out.2.trans (hb.mono H9.out.2.size)), RM.out.below (H9.out.2.trans (hb.mono H9.out.2.size))⟩⟩
  case ho9 =>
    refine ak (fun _ => ⟨rfl, fun _ _ => rfl⟩) ?_
    refine ak (fun _ => ⟨rfl, fun _ _ => rfl⟩) ?_
    refine ak (fun _ => ⟨rfl, fun _ _ => rfl⟩) ?_
    refine ak (fun γ => ⟨rfl, fun w' hX => ⟨28, #[.slice (some ⟨gk, ok, none⟩) 32 ck, .slice (some ⟨gn, on, none⟩) 12 cn, .int .u32 1], exec_call rfl call28 rfl (mpn rfl), begun_any K N gk ok ck gn on cn 1 hck hcn w' hX.2.1 hX.2.2.1⟩⟩) ?_
    refine ak (fun _ => ⟨rfl, fun _ _ => rfl⟩) ?_
    exact trivial
  intro γ w10 l hM hl
  have H10 := keepB H9 hM.below
  clear hM hl l H9 γ
  refine rest_at (l := [5]) rfl ?_
  refine rest_enter (d := 53) (R := fun vv w' => vv = .tuple #[] ∧ Mm w' [(γs9, ints .u8 (szr K N 1 P (fun _ => 0) (n - 16)) (n - 16))] ∧ Kp γs9 w10 w') rfl rfl rfl (exec_call (args := #[.slice (some ⟨γs9, 0, none⟩) (n - 16) (n - 16), .agg (ints .u32 (k3 K N 1 3) 16).toArray, .slice (some ⟨gb, ob, none⟩) (n - 16) cb]) rfl call32 rfl (mpn rfl)) (Calls.mono (pstream_any K N (fun _ => 0) 1 γs9 (n - 16) (pa gb ob (n - 16) cb P) (by decide) (pa_ok gb ob P (by omega)) (fun hn => by have h1 := RB.out.lt (by omega); have h2 := o_γs9.out; show gb ≠ γs9; omega) (by show n - 16 ≤ 1048592; omega) (Nat.le_refl _) w10 (H10.out.1.one 0 rfl) (Rs.head (RB.out.below H10.out.2) (Nat.sub_le _ _))) (fun e w2 hh => ⟨_, hh.1, rfl, hh.2⟩)) ?_
  rintro _ w11 ⟨rfl, hn, hp⟩
  have H11 : Hid (Mm w11 [(γs9, ints .u8 (szr K N 1 P (fun _ => 0) (n - 16)) (n - 16))] ∧ Below w.heap.size w w11) := ⟨H10.out.1.change 0 rfl hp hn, Below.kp H10.out.2 hp o_γs9.out H10.out.2.size⟩
  clear hn hp H10
  simp only [Act.put, sa, sz, ss]
  refine rest_nil (then_normal (wp_seq ?_))
  refine walk_seqB 3 [.quiet (.slice (some ⟨γs9, 0, none⟩) (n - 16) (n - 16)), .quiet (.slice (some ⟨γs9, 0, none⟩) (n - 16) (n - 16)), .quiet (.int .i64 0)] H11 ?ho10 ?he10
  case ho10 => exact ak (fun _ => ⟨rfl, fun _ _ => rfl⟩) (ak (fun _ => ⟨rfl, fun _ _ => rfl⟩) (ak (fun _ => ⟨rfl, fun _ _ => rfl⟩) trivial))
  intro _ w12 H12
  clear H11
  refine rest0 rfl (then_normal (wp_ret ?_))
  repeat (first | refine then_ret ?_ | refine block_ret ?_)
  refine bodyPost_ret (v := .tuple #[.slice (some ⟨γs9, 0, none⟩) (n - 16) (n - 16), .int .i64 0]) (by simp [results, Try.results20, go_sem, *]) rfl ?_
  have hM := H12.out.1.one 0 rfl
  rw [ints_congr (szr_lt K N 1 P _ (n - 16))] at hM
  exact ⟨H12.out.2, _, rfl, o_γs9.out, (hM.blk _ (List.mem_singleton.2 rfl)).1, (hM.blk _ (List.mem_singleton.2 rfl)).2⟩
end Rg
end Go.Proofs.Ytkkippfikfjdpaa
end
section
namespace Go.Proofs.Ytkkippfikfjdpaa
open Go.RowKit
namespace Rg
set_option maxRecDepth 100000
/-- The number of a text's pieces, the last one with a byte 1 behind it. -/
def tga (r : Nat) (f : Nat → Nat) (n : Nat) : Nat := if n % 16 = 0 then pgs r 0 f (n / 16) else ga r (pgs r 0 f (n / 16)) (lst (fun j => f (16 * (n / 16) + j)) (n % 16))
theorem call35 : ∀ args w, (callFunc 35 args).run Try.prog w = .ok (.enter 35 args) w := by intro args w; go_simp
set_option maxHeartbeats 1000000 in
set_option maxRecDepth 100000 in
theorem PTag_whole (K : Nat → Nat) (gk ok ck : Nat) (hck : 32 ≤ ck) (hK : ∀ j, K j < 256) (q : Pt8) (hq : Pok q) (hf : ∀ j, q.f j < 256) (hl : q.n ≤ 1048576) (hm : q.n % 16 = 0) (w : World) (hRk : Rs gk ok 32 K w) (hRb : q.rs w) :
    Calls Try.prog 13 #[.slice (some ⟨gk, ok, none⟩) 32 ck, .slice q.p q.n q.cp] w fun e w' => Below w.heap.size w w' ∧ ∃ g, e = .returned (.tuple #[.slice (some ⟨g, 0, none⟩) 16 16, .int .i64 0]) ∧ w.heap.size ≤ g ∧ g < w'.heap.size ∧ Blk w' g (ints .u8 (tt (pgs (rk K) 0 q.f (q.n / 16)) (sk K)) 16) := by
  have H0 : Hid (_ ∧ _) := ⟨Mm.nil w, Below.refl w.heap.size w⟩
  have RK : Hid (Rs gk ok 32 K w) := hRk
  have RB : Hid (q.rs w) := hRb
  clear hRk hRb
  go_enter Try.func13, Try.ntmps13
  refine wp_seq ?_
  refine walk_seqB 2 [.quiet (.slice none 0 0), .quiet (.int .i64 0)] H0 ?ho1 ?he1
  case ho1 => exact ak (fun _ => ⟨rfl, fun _ _ => rfl⟩) (ak (fun _ => ⟨rfl, fun _ _ => rfl⟩) trivial)
  intro _ w1 H1
  refine rest0 rfl (then_normal (wp_seq (wp_seq ?_)))
  refine walk_seqB 3 [.quiet (.slice (some ⟨gk, ok, none⟩) 32 ck), .quiet (.int .i64 ((32 : Nat) : Int)), .quiet (.bool false)] H1 ?ho2 ?he2
  case ho2 => exact ak (fun _ => ⟨rfl, fun _ _ => rfl⟩) (ak (by refine fun γ => ⟨rfl, fun w' h => ?_⟩; clear h; go_simp) (ak (by refine fun γ => ⟨rfl, fun w' h => ?_⟩; clear h; go_simp <;> omega) trivial))
  intro _ w2 H2
  clear H1
  refine rest0 rfl (then_normal (wp_cond_false rfl ?_))
  refine wp_skip (then_normal ?_)
  refine wp_seq (wp_seq ?_)
  refine walk_seqB 3 [.quiet (.slice q.p q.n q.cp), .quiet (.int .i64 ((q.n : Nat) : Int)), .quiet (.bool false)] H2 ?ho3 ?he3
  case ho3 => exact ak (fun _ => ⟨rfl, fun _ _ => rfl⟩) (ak (by refine fun γ => ⟨rfl, fun w' h => ?_⟩; clear h; go_simp) (ak (by refine fun γ => ⟨rfl, fun w' h => ?_⟩; clear h; go_simp <;> omega) trivial))
  intro _ w3 H3
  clear H2
  refine rest0 rfl (then_normal (wp_cond_false rfl ?_))
  refine wp_skip (then_normal (wp_seq ?_))
  refine (walk_seq) 4 [.quiet (.slice (some ⟨gk, ok, none⟩) 32 ck), .call (.agg (ints .u64 (wk9 0 (rk K) (sk K)) 9).toArray), .made (ints .u64 (fun _ => 0) 9) 61, .laid 2 (ints .u64 (fun _ => 0) 9) (ints .u64 (wk9 0 (rk K) (sk K)) 9)] (fun u' => Mm u' [] ∧ Rs gk ok 32 K u') ?pre4 ?F4 ?hpre4 (fun γ => ?hF4) (by kernel_rfl) ?hL4 ?hS4 ?ho4 ?he4
  case hpre4 => simp only [tk, tz]; rfl
  case hF4 => simp only [fill, Kind.val, Act.put, sa, sz, ss]; rfl
  case hL4 => exact ⟨⟨_, rfl⟩, trivial⟩
  case hS4 => exact fun w' hb => ⟨H3.out.1.below hb, RK.out.below (H3.out.2.trans (hb.mono H3.out.2.size))⟩
  case ho4 =>
    refine ak (fun _ => ⟨rfl, fun _ _ => rfl⟩) ?_
    refine ak (fun γ => ⟨rfl, fun w' hX => ⟨34, #[.slice (some ⟨gk, ok, none⟩) 32 ck], exec_call rfl call34 rfl (mpn rfl), under_any K gk ok ck hck hK w' hX.2⟩⟩) ?_
    refine ak (fun γ => ⟨rfl, fun w' => ex_mk61 rfl⟩) ?_
    refine ak (fun γ => ⟨rfl, rfl, (ints_len _ _ _).trans (ints_len _ _ _).symm, fun w' h => ex_laidI h Try.sizeOf61 rfl rfl rfl⟩) ?_
    exact trivial
  intro γ w4 l hM hl
  have H4 : Hid (Mm w4 [(γ 2, ints .u64 (wk9 0 (rk K) (sk K)) 9)] ∧ _) := growB H3 hM (Nat.le_refl _) hl [2] rfl (by decide)
  have o4_2 := ownB H3 hM (Nat.le_refl _) hl (i := 2) rfl
  clear hM hl l H3
  generalize γ 2 = γ4_2 at H4 o4_2 ⊢
  clear γ
  refine rest0 rfl (then_normal (wp_seq ?_))
  refine walk_seqB 1 [.quiet (.slice q.p q.n q.cp)] H4 ?ho5 ?he5
  case ho5 => exact ak (fun _ => ⟨rfl, fun _ _ => rfl⟩) trivial
  intro _ w5 H5
  clear H4
  refine rest_at (l := [1, 2]) rfl ?_
  refine rest_enter (d := 18) (R := fun vv w' => (∃ p c, vv = .slice p (q.n % 16) c ∧ (0 < q.n % 16 → p = some ⟨q.gb, q.o + 16 * (q.n / 16), none⟩ ∧ q.n % 16 ≤ c)) ∧ Mm w' [(γ4_2, ints .u64 (wk9 (pgs (rk K) 0 q.f (q.n / 16)) (rk K) (sk K)) 9)] ∧ Kp γ4_2 w5 w') rfl rfl rfl (exec_call (args := #[PT γ4_2 0, .slice q.p q.n q.cp]) rfl call36 rfl (mpn rfl)) (Calls.mono (whole_any γ4_2 0 (rk K) (sk K) q hq (rk_ok _) ab_zero hf (fun hn => by have h1 := RB.out.lt hn; have h2 := o4_2.out; omega) (by omega) w5 (H5.out.1.one 0 rfl) (RB.out.below H5.out.2)) (fun e w2 hh => by obtain ⟨⟨p, c, he, hp⟩, h2⟩ := hh; exact ⟨_, he, ⟨p, c, rfl, hp⟩, h2⟩)) ?_
  rintro _ w6 ⟨⟨pw1, cw1, rfl, hp1⟩, hn1, hk1⟩
  simp only [Act.put, sa, sz, ss]
  have H6 : Hid (Mm w6 [(γ4_2, ints .u64 (wk9 (pgs (rk K) 0 q.f (q.n / 16)) (rk K) (sk K)) 9)] ∧ Below w.heap.size w w6) := ⟨H5.out.1.change 0 rfl hk1 hn1, Below.kp H5.out.2 hk1 o4_2.out H5.out.2.size⟩
  clear hn1 hk1 H5
  rw [hm]
  clear hp1
  refine rest_enter (d := 19) (R := fun vv w' => vv = .tuple #[] ∧ Below w6.heap.size w6 w') rfl rfl rfl (exec_call (args := #[PT γ4_2 0, .slice pw1 0 cw1]) rfl call35 rfl (mpn rfl)) (Calls.mono (last_zero _ _ _ w6) (fun e w2 hh => ⟨_, hh.1, rfl, hh.2⟩)) ?_
  rintro _ w7 ⟨rfl, hb⟩
  have H7 : Hid (_ ∧ _) := ⟨H6.out.1.below hb, H6.out.2.trans (hb.mono H6.out.2.size)⟩
  clear hb H6
  simp only [Act.put, sa, sz, ss]
  refine rest_nil (then_normal (wp_seq ?_))
  refine walk_seqB 0 [] H7 ?ho6 ?he6
  case ho6 => exact trivial
  intro _ w8 H8
  clear H7
  refine rest_at (l := [0, 1]) rfl ?_
  refine rest_set (d := 20) (v := .slice (some ⟨w8.heap.size, 0, none⟩) 16 16) (w' := (w8.alloc (.cells (ints .u8 (fun _ => 0) 16).toArray 5))) rfl rfl rfl (ex_mkB (m := 16) (by decide) rfl rfl rfl) ?_
  simp only [Act.put, sa, sz, ss]
  have o_γs9 : Hid (w.heap.size ≤ w8.heap.size) := H8.out.2.size
  have H9 : Hid (Mm (w8.alloc (.cells (ints .u8 (fun _ => 0) 16).toArray 5)) ((w8.heap.size, ints .u8 (fun _ => 0) 16) :: [(γ4_2, ints .u64 (wk9 (pgs (rk K) 0 q.f (q.n / 16)) (rk K) (sk K)) 9)]) ∧ Below w.heap.size w (w8.alloc (.cells (ints .u8 (fun _ => 0) 16).toArray 5))) := ⟨H8.out.1.alloc _ 5 rfl, H8.out.2.alloc H8.out.2.size _⟩
  clear H8
  generalize hgw : (w8.alloc (.cells (ints .u8 (fun _ => 0) 16).toArray 5)) = w9 at H9 ⊢
  clear hgw
  generalize w8.heap.size = γs9 at o_γs9 H9 ⊢
  refine rest_set (d := 7) (v := .slice (some ⟨γs9, 0, none⟩) 16 16) (w' := w9) rfl rfl rfl rfl ?_
  simp only [Act.put, sa, sz, ss]
  refine rest_nil (then_normal (wp_seq ?_))
  refine walk_seqA 3 [.call (.agg (ints .u8 (tt (pgs (rk K) 0 q.f (q.n / 16)) (sk K)) 16).toArray), .made (ints .u8 (fun _ => 0) 16) 65, .laid 1 (ints .u8 (fun _ => 0) 16) (ints .u8 (tt (pgs (rk K) 0 q.f (q.n / 16)) (sk K)) 16)] (sB H9) ?ho7 ?he7 (hL := ?hL7)
  case hL7 => exact ⟨⟨_, rfl⟩, trivial⟩
  case ho7 => exact ak (fun γ => ⟨rfl, fun w' h => ⟨37, #[PT γ4_2 0], exec_call rfl call37 rfl (mpn rfl), wtag_any γ4_2 (pgs (rk K) 0 q.f (q.n / 16)) (rk K) (sk K) (pgs_ok (rk_ok _) ab_zero hf _) (sk_lt hK) w' (h.one 1 rfl)⟩⟩) (ak (fun γ => ⟨rfl, fun w' => ex_mk65 rfl⟩) (ak (fun γ => ⟨rfl, rfl, (ints_len _ _ _).trans (ints_len _ _ _).symm, fun w' h => ex_laidI h Try.sizeOf65 rfl rfl rfl⟩) trivial))
  intro γ w10 l hM hl
  have H10 : Hid (Mm w10 [(γ 1, ints .u8 (tt (pgs (rk K) 0 q.f (q.n / 16)) (sk K)) 16), (γs9, ints .u8 (fun _ => 0) 16), (γ4_2, ints .u64 (wk9 (pgs (rk K) 0 q.f (q.n / 16)) (rk K) (sk K)) 9)] ∧ _) := growB H9 hM (Nat.le_refl _) hl [1] rfl (by decide)
  have o7_1 := ownB H9 hM (Nat.le_refl _) hl (i := 1) rfl
  clear hM hl l H9
  generalize γ 1 = γ7_1 at H10 o7_1 ⊢
  clear γ
  refine rest0 rfl (then_normal (wp_seq ?_))
  refine walk_seqB 2 [.quiet (.slice (some ⟨γs9, 0, none⟩) 16 16), .quiet (.slice (some ⟨γ7_1, 0, none⟩) 16 16)] H10 ?ho8 ?he8
  case ho8 => exact ak (fun _ => ⟨rfl, fun _ _ => rfl⟩) (ak (by refine fun γ => ⟨rfl, fun w' h => ?_⟩; clear h; go_simp) trivial)
  intro _ w11 H11
  clear H10
  refine rest_at (l := [2]) rfl ?_
  refine rest_set (d := 24) (v := .int .i64 ((16 : Nat) : Int)) (w' := w11.setCells γs9 0 (ints .u8 (tt (pgs (rk K) 0 q.f (q.n / 16)) (sk K)) 16)) rfl rfl rfl (ex_copyR (mm := 16) H11.out.1 1 rfl ((H11.out.1.rs 0 rfl (Nat.le_refl _)).at_) (rfl) (by decide) rfl rfl rfl) ?_
  simp only [Act.put, sa, sz, ss]
  have H12 : Hid (Mm (w11.setCells γs9 0 (ints .u8 (tt (pgs (rk K) 0 q.f (q.n / 16)) (sk K)) 16)) [(γ7_1, ints .u8 (tt (pgs (rk K) 0 q.f (q.n / 16)) (sk K)) 16), (γs9, ints .u8 (py (fun _ => 0) 0 16 (tt (pgs (rk K) 0 q.f (q.n / 16)) (sk K))) 16), (γ4_2, ints .u64 (wk9 (pgs (rk K) 0 q.f (q.n / 16)) (rk K) (sk K)) 9)] ∧ Below w.heap.size w (w11.setCells γs9 0 (ints .u8 (tt (pgs (rk K) 0 q.f (q.n / 16)) (sk K)) 16))) := ⟨by
    have h := H11.out.1.put 1 (off := 0) (vs := ints .u8 (tt (pgs (rk K) 0 q.f (q.n / 16)) (sk K)) 16) rfl (by rw [ints_len, ints_len]; decide)
    rw [ints_part _ _ (by decide)] at h
    exact h, below_setCells _ o_γs9.out _ _ _ H11.out.2⟩
  clear H11
  generalize hgw : World.setCells _ _ _ _ = w12 at H12 ⊢
  clear hgw
  refine rest_nil (then_normal (wp_seq ?_))
  refine walk_seqB 3 [.quiet (.slice (some ⟨γs9, 0, none⟩) 16 16), .quiet (.slice (some ⟨γs9, 0, none⟩) 16 16), .quiet (.int .i64 0)] H12 ?ho9 ?he9
  case ho9 => exact ak (fun _ => ⟨rfl, fun _ _ => rfl⟩) (ak (fun _ => ⟨rfl, fun _ _ => rfl⟩) (ak (fun _ => ⟨rfl, fun _ _ => rfl⟩) trivial))
  intro _ w13 H13
  clear H12
  refine rest0 rfl (then_normal (wp_ret ?_))
  repeat (first | refine then_ret ?_ | refine block_ret ?_)
  refine bodyPost_ret (v := .tuple #[.slice (some ⟨γs9, 0, none⟩) 16 16, .int .i64 0]) (by simp [results, Try.results13, go_sem, *]) rfl ?_
  have hM := H13.out.1.one 1 rfl
  rw [ints_congr (py_all _ _ 16)] at hM
  exact ⟨H13.out.2, _, rfl, o_γs9.out, (hM.blk _ (List.mem_singleton.2 rfl)).1, (hM.blk _ (List.mem_singleton.2 rfl)).2⟩
set_option maxHeartbeats 1000000 in
set_option maxRecDepth 100000 in
theorem PTag_more (K : Nat → Nat) (gk ok ck : Nat) (hck : 32 ≤ ck) (hK : ∀ j, K j < 256) (q : Pt8) (hq : Pok q) (hf : ∀ j, q.f j < 256) (hl : q.n ≤ 1048576) (hm : 0 < q.n % 16) (w : World) (hRk : Rs gk ok 32 K w) (hRb : q.rs w) :
    Calls Try.prog 13 #[.slice (some ⟨gk, ok, none⟩) 32 ck, .slice q.p q.n q.cp] w fun e w' => Below w.heap.size w w' ∧ ∃ g, e = .returned (.tuple #[.slice (some ⟨g, 0, none⟩) 16 16, .int .i64 0]) ∧ w.heap.size ≤ g ∧ g < w'.heap.size ∧ Blk w' g (ints .u8 (tt (ga (rk K) (pgs (rk K) 0 q.f (q.n / 16)) (lst (fun j => q.f (16 * (q.n / 16) + j)) (q.n % 16))) (sk K)) 16) := by
  have H0 : Hid (_ ∧ _) := ⟨Mm.nil w, Below.refl w.heap.size w⟩
  have RK : Hid (Rs gk ok 32 K w) := hRk
  have RB : Hid (q.rs w) := hRb
  clear hRk hRb
  go_enter Try.func13, Try.ntmps13
  refine wp_seq ?_
  refine walk_seqB 2 [.quiet (.slice none 0 0), .quiet (.int .i64 0)] H0 ?ho1 ?he1
  case ho1 => exact ak (fun _ => ⟨rfl, fun _ _ => rfl⟩) (ak (fun _ => ⟨rfl, fun _ _ => rfl⟩) trivial)
  intro _ w1 H1
  refine rest0 rfl (then_normal (wp_seq (wp_seq ?_)))
  refine walk_seqB 3 [.quiet (.slice (some ⟨gk, ok, none⟩) 32 ck), .quiet (.int .i64 ((32 : Nat) : Int)), .quiet (.bool false)] H1 ?ho2 ?he2
  case ho2 => exact ak (fun _ => ⟨rfl, fun _ _ => rfl⟩) (ak (by refine fun γ => ⟨rfl, fun w' h => ?_⟩; clear h; go_simp) (ak (by refine fun γ => ⟨rfl, fun w' h => ?_⟩; clear h; go_simp <;> omega) trivial))
  intro _ w2 H2
  clear H1
  refine rest0 rfl (then_normal (wp_cond_false rfl ?_))
  refine wp_skip (then_normal ?_)
  refine wp_seq (wp_seq ?_)
  refine walk_seqB 3 [.quiet (.slice q.p q.n q.cp), .quiet (.int .i64 ((q.n : Nat) : Int)), .quiet (.bool false)] H2 ?ho3 ?he3
  case ho3 => exact ak (fun _ => ⟨rfl, fun _ _ => rfl⟩) (ak (by refine fun γ => ⟨rfl, fun w' h => ?_⟩; clear h; go_simp) (ak (by refine fun γ => ⟨rfl, fun w' h => ?_⟩; clear h; go_simp <;> omega) trivial))
  intro _ w3 H3
  clear H2
  refine rest0 rfl (then_normal (wp_cond_false rfl ?_))
  refine wp_skip (then_normal (wp_seq ?_))
  refine (walk_seq) 4 [.quiet (.slice (some ⟨gk, ok, none⟩) 32 ck), .call (.agg (ints .u64 (wk9 0 (rk K) (sk K)) 9).toArray), .made (ints .u64 (fun _ => 0) 9) 61, .laid 2 (ints .u64 (fun _ => 0) 9) (ints .u64 (wk9 0 (rk K) (sk K)) 9)] (fun u' => Mm u' [] ∧ Rs gk ok 32 K u') ?pre4 ?F4 ?hpre4 (fun γ => ?hF4) (by kernel_rfl) ?hL4 ?hS4 ?ho4 ?he4
  case hpre4 => simp only [tk, tz]; rfl
  case hF4 => simp only [fill, Kind.val, Act.put, sa, sz, ss]; rfl
  case hL4 => exact ⟨⟨_, rfl⟩, trivial⟩
  case hS4 => exact fun w' hb => ⟨H3.out.1.below hb, RK.out.below (H3.out.2.trans (hb.mono H3.out.2.size))⟩
  case ho4 =>
    refine ak (fun _ => ⟨rfl, fun _ _ => rfl⟩) ?_
    refine ak (fun γ => ⟨rfl, fun w' hX => ⟨34, #[.slice (some ⟨gk, ok, none⟩) 32 ck], exec_call rfl call34 rfl (mpn rfl), under_any K gk ok ck hck hK w' hX.2⟩⟩) ?_
    refine ak (fun γ => ⟨rfl, fun w' => ex_mk61 rfl⟩) ?_
    refine ak (fun γ => ⟨rfl, rfl, (ints_len _ _ _).trans (ints_len _ _ _).symm, fun w' h => ex_laidI h Try.sizeOf61 rfl rfl rfl⟩) ?_
    exact trivial
  intro γ w4 l hM hl
  have H4 : Hid (Mm w4 [(γ 2, ints .u64 (wk9 0 (rk K) (sk K)) 9)] ∧ _) := growB H3 hM (Nat.le_refl _) hl [2] rfl (by decide)
  have o4_2 := ownB H3 hM (Nat.le_refl _) hl (i := 2) rfl
  clear hM hl l H3
  generalize γ 2 = γ4_2 at H4 o4_2 ⊢
  clear γ
  refine rest0 rfl (then_normal (wp_seq ?_))
  refine walk_seqB 1 [.quiet (.slice q.p q.n q.cp)] H4 ?ho5 ?he5
  case ho5 => exact ak (fun _ => ⟨rfl, fun _ _ => rfl⟩) trivial
  intro _ w5 H5
  clear H4
  refine rest_at (l := [1, 2]) rfl ?_
  refine rest_enter (d := 18) (R := fun vv w' => (∃ p c, vv = .slice p (q.n % 16) c ∧ (0 < q.n % 16 → p = some ⟨q.gb, q.o + 16 * (q.n / 16), none⟩ ∧ q.n % 16 ≤ c)) ∧ Mm w' [(γ4_2, ints .u64 (wk9 (pgs (rk K) 0 q.f (q.n / 16)) (rk K) (sk K)) 9)] ∧ Kp γ4_2 w5 w') rfl rfl rfl (exec_call (args := #[PT γ4_2 0, .slice q.p q.n q.cp]) rfl call36 rfl (mpn rfl)) (Calls.mono (whole_any γ4_2 0 (rk K) (sk K) q hq (rk_ok _) ab_zero hf (fun hn => by have h1 := RB.out.lt hn; have h2 := o4_2.out; omega) (by omega) w5 (H5.out.1.one 0 rfl) (RB.out.below H5.out.2)) (fun e w2 hh => by obtain ⟨⟨p, c, he, hp⟩, h2⟩ := hh; exact ⟨_, he, ⟨p, c, rfl, hp⟩, h2⟩)) ?_
  rintro _ w6 ⟨⟨pw1, cw1, rfl, hp1⟩, hn1, hk1⟩
  simp only [Act.put, sa, sz, ss]
  have H6 : Hid (Mm w6 [(γ4_2, ints .u64 (wk9 (pgs (rk K) 0 q.f (q.n / 16)) (rk K) (sk K)) 9)] ∧ Below w.heap.size w w6) := ⟨H5.out.1.change 0 rfl hk1 hn1, Below.kp H5.out.2 hk1 o4_2.out H5.out.2.size⟩
  clear hn1 hk1 H5
  obtain ⟨rfl, hc1⟩ := hp1 hm
  refine rest_enter (d := 19) (R := fun vv w' => vv = .tuple #[] ∧ Mm w' [(γ4_2, ints .u64 (wk9 (ga (rk K) (pgs (rk K) 0 q.f (q.n / 16)) (lst (fun j => q.f (16 * (q.n / 16) + j)) (q.n % 16))) (rk K) (sk K)) 9)] ∧ Kp γ4_2 w6 w') rfl rfl rfl (exec_call (args := #[PT γ4_2 0, .slice (some ⟨q.gb, (q.o + 16 * (q.n / 16)), none⟩) (q.n % 16) cw1]) rfl call35 rfl (mpn rfl)) (Calls.mono (last_any γ4_2 (pgs (rk K) 0 q.f (q.n / 16)) (rk K) (sk K) q.gb (q.o + 16 * (q.n / 16)) (q.n % 16) cw1 (fun j => q.f (16 * (q.n / 16) + j)) (rk_ok _) (pgs_ok (rk_ok _) ab_zero hf _) (fun j => hf _) (by have h1 := RB.out.lt (by omega); have h2 := o4_2.out; omega) hm (by omega) w6 (H6.out.1.one 0 rfl) (by have h3 := (RB.out.below H6.out.2).part (16 * (q.n / 16)); exact ⟨fun _ => h3.lt (by omega), fun i hi => h3.at_ i (by omega)⟩)) (fun e w2 hh => ⟨_, hh.1, rfl, hh.2⟩)) ?_
  rintro _ w7 ⟨rfl, hn, hp⟩
  have H7 : Hid (Mm w7 [(γ4_2, ints .u64 (wk9 (ga (rk K) (pgs (rk K) 0 q.f (q.n / 16)) (lst (fun j => q.f (16 * (q.n / 16) + j)) (q.n % 16))) (rk K) (sk K)) 9)] ∧ Below w.heap.size w w7) := ⟨H6.out.1.change 0 rfl hp hn, Below.kp H6.out.2 hp o4_2.out H6.out.2.size⟩
  clear hn hp H6
  simp only [Act.put, sa, sz, ss]
  refine rest_nil (then_normal (wp_seq ?_))
  refine walk_seqB 0 [] H7 ?ho6 ?he6
  case ho6 => exact trivial
  intro _ w8 H8
  clear H7
  refine rest_at (l := [0, 1]) rfl ?_
  refine rest_set (d := 20) (v := .slice (some ⟨w8.heap.size, 0, none⟩) 16 16) (w' := (w8.alloc (.cells (ints .u8 (fun _ => 0) 16).toArray 5))) rfl rfl rfl (ex_mkB (m := 16) (by decide) rfl rfl rfl) ?_
  simp only [Act.put, sa, sz, ss]
  have o_γs9 : Hid (w.heap.size ≤ w8.heap.size) := H8.out.2.size
  have H9 : Hid (Mm (w8.alloc (.cells (ints .u8 (fun _ => 0) 16).toArray 5)) ((w8.heap.size, ints .u8 (fun _ => 0) 16) :: [(γ4_2, ints .u64 (wk9 (ga (rk K) (pgs (rk K) 0 q.f (q.n / 16)) (lst (fun j => q.f (16 * (q.n / 16) + j)) (q.n % 16))) (rk K) (sk K)) 9)]) ∧ Below w.heap.size w (w8.alloc (.cells (ints .u8 (fun _ => 0) 16).toArray 5))) := ⟨H8.out.1.alloc _ 5 rfl, H8.out.2.alloc H8.out.2.size _⟩
  clear H8
  generalize hgw : (w8.alloc (.cells (ints .u8 (fun _ => 0) 16).toArray 5)) = w9 at H9 ⊢
  clear hgw
  generalize w8.heap.size = γs9 at o_γs9 H9 ⊢
  refine rest_set (d := 7) (v := .slice (some ⟨γs9, 0, none⟩) 16 16) (w' := w9) rfl rfl rfl rfl ?_
  simp only [Act.put, sa, sz, ss]
  refine rest_nil (then_normal (wp_seq ?_))
  refine walk_seqA 3 [.call (.agg (ints .u8 (tt (ga (rk K) (pgs (rk K) 0 q.f (q.n / 16)) (lst (fun j => q.f (16 * (q.n / 16) + j)) (q.n % 16))) (sk K)) 16).toArray), .made (ints .u8 (fun _ => 0) 16) 65, .laid 1 (ints .u8 (fun _ => 0) 16) (ints .u8 (tt (ga (rk K) (pgs (rk K) 0 q.f (q.n / 16)) (lst (fun j => q.f (16 * (q.n / 16) + j)) (q.n % 16))) (sk K)) 16)] (sB H9) ?ho7 ?he7 (hL := ?hL7)
  case hL7 => exact ⟨⟨_, rfl⟩, trivial⟩
  case ho7 => exact ak (fun γ => ⟨rfl, fun w' h => ⟨37, #[PT γ4_2 0], exec_call rfl call37 rfl (mpn rfl), wtag_any γ4_2 (ga (rk K) (pgs (rk K) 0 q.f (q.n / 16)) (lst (fun j => q.f (16 * (q.n / 16) + j)) (q.n % 16))) (rk K) (sk K) (ga_ok (rk_ok _) (pgs_ok (rk_ok _) ab_zero hf _) (lst_bd (fun j => hf _) (by omega))) (sk_lt hK) w' (h.one 1 rfl)⟩⟩) (ak (fun γ => ⟨rfl, fun w' => ex_mk65 rfl⟩) (ak (fun γ => ⟨rfl, rfl, (ints_len _ _ _).trans (ints_len _ _ _).symm, fun w' h => ex_laidI h Try.sizeOf65 rfl rfl rfl⟩) trivial))
  intro γ w10 l hM hl
  have H10 : Hid (Mm w10 [(γ 1, ints .u8 (tt (ga (rk K) (pgs (rk K) 0 q.f (q.n / 16)) (lst (fun j => q.f (16 * (q.n / 16) + j)) (q.n % 16))) (sk K)) 16), (γs9, ints .u8 (fun _ => 0) 16), (γ4_2, ints .u64 (wk9 (ga (rk K) (pgs (rk K) 0 q.f (q.n / 16)) (lst (fun j => q.f (16 * (q.n / 16) + j)) (q.n % 16))) (rk K) (sk K)) 9)] ∧ _) := growB H9 hM (Nat.le_refl _) hl [1] rfl (by decide)
  have o7_1 := ownB H9 hM (Nat.le_refl _) hl (i := 1) rfl
  clear hM hl l H9
  generalize γ 1 = γ7_1 at H10 o7_1 ⊢
  clear γ
  refine rest0 rfl (then_normal (wp_seq ?_))
  refine walk_seqB 2 [.quiet (.slice (some ⟨γs9, 0, none⟩) 16 16), .quiet (.slice (some ⟨γ7_1, 0, none⟩) 16 16)] H10 ?ho8 ?he8
  case ho8 => exact ak (fun _ => ⟨rfl, fun _ _ => rfl⟩) (ak (by refine fun γ => ⟨rfl, fun w' h => ?_⟩; clear h; go_simp) trivial)
  intro _ w11 H11
  clear H10
  refine rest_at (l := [2]) rfl ?_
  refine rest_set (d := 24) (v := .int .i64 ((16 : Nat) : Int)) (w' := w11.setCells γs9 0 (ints .u8 (tt (ga (rk K) (pgs (rk K) 0 q.f (q.n / 16)) (lst (fun j => q.f (16 * (q.n / 16) + j)) (q.n % 16))) (sk K)) 16)) rfl rfl rfl (ex_copyR (mm := 16) H11.out.1 1 rfl ((H11.out.1.rs 0 rfl (Nat.le_refl _)).at_) (rfl) (by decide) rfl rfl rfl) ?_
  simp only [Act.put, sa, sz, ss]
  have H12 : Hid (Mm (w11.setCells γs9 0 (ints .u8 (tt (ga (rk K) (pgs (rk K) 0 q.f (q.n / 16)) (lst (fun j => q.f (16 * (q.n / 16) + j)) (q.n % 16))) (sk K)) 16)) [(γ7_1, ints .u8 (tt (ga (rk K) (pgs (rk K) 0 q.f (q.n / 16)) (lst (fun j => q.f (16 * (q.n / 16) + j)) (q.n % 16))) (sk K)) 16), (γs9, ints .u8 (py (fun _ => 0) 0 16 (tt (ga (rk K) (pgs (rk K) 0 q.f (q.n / 16)) (lst (fun j => q.f (16 * (q.n / 16) + j)) (q.n % 16))) (sk K))) 16), (γ4_2, ints .u64 (wk9 (ga (rk K) (pgs (rk K) 0 q.f (q.n / 16)) (lst (fun j => q.f (16 * (q.n / 16) + j)) (q.n % 16))) (rk K) (sk K)) 9)] ∧ Below w.heap.size w (w11.setCells γs9 0 (ints .u8 (tt (ga (rk K) (pgs (rk K) 0 q.f (q.n / 16)) (lst (fun j => q.f (16 * (q.n / 16) + j)) (q.n % 16))) (sk K)) 16))) := ⟨by
    have h := H11.out.1.put 1 (off := 0) (vs := ints .u8 (tt (ga (rk K) (pgs (rk K) 0 q.f (q.n / 16)) (lst (fun j => q.f (16 * (q.n / 16) + j)) (q.n % 16))) (sk K)) 16) rfl (by rw [ints_len, ints_len]; decide)
    rw [ints_part _ _ (by decide)] at h
    exact h, below_setCells _ o_γs9.out _ _ _ H11.out.2⟩
  clear H11
  generalize hgw : World.setCells _ _ _ _ = w12 at H12 ⊢
  clear hgw
  refine rest_nil (then_normal (wp_seq ?_))
  refine walk_seqB 3 [.quiet (.slice (some ⟨γs9, 0, none⟩) 16 16), .quiet (.slice (some ⟨γs9, 0, none⟩) 16 16), .quiet (.int .i64 0)] H12 ?ho9 ?he9
  case ho9 => exact ak (fun _ => ⟨rfl, fun _ _ => rfl⟩) (ak (fun _ => ⟨rfl, fun _ _ => rfl⟩) (ak (fun _ => ⟨rfl, fun _ _ => rfl⟩) trivial))
  intro _ w13 H13
  clear H12
  refine rest0 rfl (then_normal (wp_ret ?_))
  repeat (first | refine then_ret ?_ | refine block_ret ?_)
  refine bodyPost_ret (v := .tuple #[.slice (some ⟨γs9, 0, none⟩) 16 16, .int .i64 0]) (by simp [results, Try.results13, go_sem, *]) rfl ?_
  have hM := H13.out.1.one 1 rfl
  rw [ints_congr (py_all _ _ 16)] at hM
  exact ⟨H13.out.2, _, rfl, o_γs9.out, (hM.blk _ (List.mem_singleton.2 rfl)).1, (hM.blk _ (List.mem_singleton.2 rfl)).2⟩
theorem PTag_ok (K : Nat → Nat) (gk ok ck : Nat) (hck : 32 ≤ ck) (hK : ∀ j, K j < 256) (q : Pt8) (hq : Pok q) (hf : ∀ j, q.f j < 256) (hl : q.n ≤ 1048576) (w : World) (hRk : Rs gk ok 32 K w) (hRb : q.rs w) : Calls Try.prog 13 #[.slice (some ⟨gk, ok, none⟩) 32 ck, .slice q.p q.n q.cp] w fun e w' => Below w.heap.size w w' ∧ ∃ g, e = .returned (.tuple #[.slice (some ⟨g, 0, none⟩) 16 16, .int .i64 0]) ∧ w.heap.size ≤ g ∧ g < w'.heap.size ∧ Blk w' g (ints .u8 (tt (tga (rk K) q.f q.n) (sk K)) 16) := by
  unfold tga
  rcases Nat.eq_zero_or_pos (q.n % 16) with e | e
  · rw [if_pos e]
    exact PTag_whole K gk ok ck hck hK q hq hf hl e w hRk hRb
  · rw [if_neg (by omega)]
    exact PTag_more K gk ok ck hck hK q hq hf hl e w hRk hRb
end Rg
end Go.Proofs.Ytkkippfikfjdpaa
end
section
namespace Go.Proofs.Ytkkippfikfjdpaa
open Go.RowKit
namespace Rg
set_option maxRecDepth 100000
theorem Pt8.bsl {a : Pt8} {w : World} (h : Pok a) (hr : a.rs w) : BSl w ((List.range a.n).map fun i => ((a.f i : Nat) : Int)) a.cp (.slice a.p a.n a.cp) := by
  rcases Nat.eq_zero_or_pos a.n with e | e
  · rw [e]
    exact .void _ rfl
  · rw [h.at e]
    have hl : ((List.range a.n).map fun i => ((a.f i : Nat) : Int)).length = a.n := by simp
    have hb : BSl w ((List.range a.n).map fun i => ((a.f i : Nat) : Int)) a.cp (.slice (some ⟨a.gb, a.o, none⟩) ((List.range a.n).map fun i => ((a.f i : Nat) : Int)).length a.cp) :=
      .full a.gb a.o (hr.lt e) (by rw [hl]; exact h.le) (fun i hi => by
        rw [hl] at hi
        rw [hr.at_ i hi]
        simp [hi])
    rw [hl] at hb
    exact hb
theorem rng_eq {f g : Nat → Nat} {n m : Nat} : ((List.range n).map fun i => ((f i : Nat) : Int)) = ((List.range m).map fun i => ((g i : Nat) : Int)) ↔ n = m ∧ ∀ j, j < n → f j = g j := by
  constructor
  · intro h
    have hl : n = m := by simpa using congrArg List.length h
    subst hl
    refine ⟨rfl, fun j hj => ?_⟩
    have h2 := congrArg (fun l => l[j]?) h
    have h3 : ((f j : Nat) : Int) = ((g j : Nat) : Int) := by simpa [hj] using h2
    omega
  · rintro ⟨rfl, h⟩
    exact List.map_congr_left (fun j hj => by rw [h j (List.mem_range.1 hj)])
/-- SameBytes of any two parts. -/
theorem same_pt (a b : Pt8) (ha : Pok a) (hb : Pok b) (hfa : ∀ j, a.f j < 256) (hfb : ∀ j, b.f j < 256) (t : Bool) (ht : t = true ↔ a.n = b.n ∧ ∀ j, j < a.n → a.f j = b.f j) (w : World) (hRa : a.rs w) (hRb : b.rs w) : Calls Try.prog 15 #[.slice a.p a.n a.cp, .slice b.p b.n b.cp] w fun e w' => e = .returned (.bool t) ∧ Below w.heap.size w w' := by
  have h := same_all (fun x hx => by obtain ⟨i, _, rfl⟩ := List.mem_map.1 hx; have := hfa i; omega) (fun x hx => by obtain ⟨i, _, rfl⟩ := List.mem_map.1 hx; have := hfb i; omega) w (Pt8.bsl ha hRa) (Pt8.bsl hb hRb)
  refine Calls.mono h (fun e w' hh => ⟨?_, by rw [hh.2]; exact Below.refl _ _⟩)
  rw [hh.1]
  congr 2
  cases t with
  | true => exact decide_eq_true (rng_eq.2 (ht.1 rfl))
  | false => exact decide_eq_false (fun e => Bool.noConfusion (ht.2 (rng_eq.1 e)))
/-- No part. -/
def pno : Pt8 := ⟨0, 0, 0, 0, none, fun _ => 0⟩
theorem pno_ok : Pok pno := ⟨Bv.void _ _ _ _ _, Nat.le_refl _⟩
theorem pno_rs (w : World) : pno.rs w := Rs.void _ _ _ _
/-- What was sealed is opened. -/
theorem open_seal (K N P : Nat → Nat) (n : Nat) (M : Nat → Nat) (m : Nat) (j : Nat) (_ : j < 16) : mt K N M m (sl0 K N P n M m) (n + 16 - 16) j = sl0 K N P n M m ((n + 16 - 16) + j) := by
  rw [Nat.add_sub_cancel, mt_cg (S := sl0 K N P n M m) (S' := so K N 1 P) (fun j hj => if_pos hj)]
  unfold sl0 ct
  rw [if_neg (by omega), Nat.add_sub_cancel_left]
def ltO (j : Nat) : Nat := [133, 214, 190, 120, 87, 85, 109, 51, 127, 68, 82, 254, 66, 213, 6, 168, 1, 3, 128, 138, 251, 13, 178, 253, 74, 191, 246, 175, 65, 73, 245, 27].getD j 0
def ltT (j : Nat) : Nat := [67, 114, 121, 112, 116, 111, 103, 114, 97, 112, 104, 105, 99, 32, 70, 111, 114, 117, 109, 32, 82, 101, 115, 101, 97, 114, 99, 104, 32, 71, 114, 111, 117, 112].getD j 0
def ltB (j : Nat) : Nat := [16, 241, 231, 228, 209, 59, 89, 21].getD j 0
def ltG (j : Nat) : Nat := [168, 6, 29, 193, 48, 81, 54, 198, 194, 43, 139, 175, 12, 1, 39, 169].getD j 0
section
variable {ρ : Operand → Value} {o : Oper} {x y : Operand} {a b g : Nat} {w : World}
theorem ex_litO (ho : o.op = .buildSlice 22 32 #[(0, .const (.int .u8 133)), (1, .const (.int .u8 214)), (2, .const (.int .u8 190)), (3, .const (.int .u8 120)), (4, .const (.int .u8 87)), (5, .const (.int .u8 85)), (6, .const (.int .u8 109)), (7, .const (.int .u8 51)), (8, .const (.int .u8 127)), (9, .const (.int .u8 68)), (10, .const (.int .u8 82)), (11, .const (.int .u8 254)), (12, .const (.int .u8 66)), (13, .const (.int .u8 213)), (14, .const (.int .u8 6)), (15, .const (.int .u8 168)), (16, .const (.int .u8 1)), (17, .const (.int .u8 3)), (18, .const (.int .u8 128)), (19, .const (.int .u8 138)), (20, .const (.int .u8 251)), (21, .const (.int .u8 13)), (22, .const (.int .u8 178)), (23, .const (.int .u8 253)), (24, .const (.int .u8 74)), (25, .const (.int .u8 191)), (26, .const (.int .u8 246)), (27, .const (.int .u8 175)), (28, .const (.int .u8 65)), (29, .const (.int .u8 73)), (30, .const (.int .u8 245)), (31, .const (.int .u8 27))]) (hc : ∀ v, ρ (.const v) = v) : (execOp ρ o).run Try.prog w = .ok (.value (.slice (some ⟨w.heap.size, 0, none⟩) 32 32)) (w.alloc (.cells (ints .u8 ltO 32).toArray 5)) := by
  simp only [execOp, ho, List.map_toArray, List.map_cons, List.map_nil, hc]
  kernel_rfl
theorem ex_litT (ho : o.op = .buildSlice 22 34 #[(0, .const (.int .u8 67)), (1, .const (.int .u8 114)), (2, .const (.int .u8 121)), (3, .const (.int .u8 112)), (4, .const (.int .u8 116)), (5, .const (.int .u8 111)), (6, .const (.int .u8 103)), (7, .const (.int .u8 114)), (8, .const (.int .u8 97)), (9, .const (.int .u8 112)), (10, .const (.int .u8 104)), (11, .const (.int .u8 105)), (12, .const (.int .u8 99)), (13, .const (.int .u8 32)), (14, .const (.int .u8 70)), (15, .const (.int .u8 111)), (16, .const (.int .u8 114)), (17, .const (.int .u8 117)), (18, .const (.int .u8 109)), (19, .const (.int .u8 32)), (20, .const (.int .u8 82)), (21, .const (.int .u8 101)), (22, .const (.int .u8 115)), (23, .const (.int .u8 101)), (24, .const (.int .u8 97)), (25, .const (.int .u8 114)), (26, .const (.int .u8 99)), (27, .const (.int .u8 104)), (28, .const (.int .u8 32)), (29, .const (.int .u8 71)), (30, .const (.int .u8 114)), (31, .const (.int .u8 111)), (32, .const (.int .u8 117)), (33, .const (.int .u8 112))]) (hc : ∀ v, ρ (.const v) = v) : (execOp ρ o).run Try.prog w = .ok (.value (.slice (some ⟨w.heap.size, 0, none⟩) 34 34)) (w.alloc (.cells (ints .u8 ltT 34).toArray 5)) := by
  simp only [execOp, ho, List.map_toArray, List.map_cons, List.map_nil, hc]
  kernel_rfl
theorem ex_litB (ho : o.op = .buildSlice 22 8 #[(0, .const (.int .u8 16)), (1, .const (.int .u8 241)), (2, .const (.int .u8 231)), (3, .const (.int .u8 228)), (4, .const (.int .u8 209)), (5, .const (.int .u8 59)), (6, .const (.int .u8 89)), (7, .const (.int .u8 21))]) (hc : ∀ v, ρ (.const v) = v) : (execOp ρ o).run Try.prog w = .ok (.value (.slice (some ⟨w.heap.size, 0, none⟩) 8 8)) (w.alloc (.cells (ints .u8 ltB 8).toArray 5)) := by
  simp only [execOp, ho, List.map_toArray, List.map_cons, List.map_nil, hc]
  kernel_rfl
theorem ex_litG (ho : o.op = .buildSlice 22 16 #[(0, .const (.int .u8 168)), (1, .const (.int .u8 6)), (2, .const (.int .u8 29)), (3, .const (.int .u8 193)), (4, .const (.int .u8 48)), (5, .const (.int .u8 81)), (6, .const (.int .u8 54)), (7, .const (.int .u8 198)), (8, .const (.int .u8 194)), (9, .const (.int .u8 43)), (10, .const (.int .u8 139)), (11, .const (.int .u8 175)), (12, .const (.int .u8 12)), (13, .const (.int .u8 1)), (14, .const (.int .u8 39)), (15, .const (.int .u8 169))]) (hc : ∀ v, ρ (.const v) = v) : (execOp ρ o).run Try.prog w = .ok (.value (.slice (some ⟨w.heap.size, 0, none⟩) 16 16)) (w.alloc (.cells (ints .u8 ltG 16).toArray 5)) := by
  simp only [execOp, ho, List.map_toArray, List.map_cons, List.map_nil, hc]
  kernel_rfl
theorem ex_cvS {n c : Nat} (ho : o.op = .convert 22 22 x) (hx : ρ x = .slice (some ⟨g, 0, none⟩) n c) : (execOp ρ o).run Try.prog w = .ok (.value (.slice (some ⟨g, 0, none⟩) n c)) (mkw w g) := by
  have h5 : Try.prog.underlying 5 = some (.int .u8) := by kernel_rfl
  simp only [execOp, ho, hx]
  unfold mkw
  cases hs : w.shape? g <;> simp [convert, run_underlying Try.underlying22, run_underlying h5, markStringish, hs, Result.andThen]
theorem ex_neE (ho : o.op = .binOp .neq 26 x y 26) (hx : ρ x = .int .i64 ((a : Nat) : Int)) (hy : ρ y = .int .i64 ((b : Nat) : Int)) {t : Bool} (ht : decide (a ≠ b) = t) : (execOp ρ o).run Try.prog w = .ok (.value (.bool t)) w := by
  subst ht
  simp only [execOp, ho, hx, hy]
  clear ho hx hy
  have e : ((a : Int) == b) = decide (a = b) := by rw [Bool.eq_iff_iff]; simp; omega
  go_simp
  show (!((a : Int) == b)) = _
  rw [e]
theorem ex_eqE (ho : o.op = .binOp .eql 26 x y 26) (hx : ρ x = .int .i64 ((a : Nat) : Int)) (hy : ρ y = .int .i64 ((b : Nat) : Int)) {t : Bool} (ht : decide (a = b) = t) : (execOp ρ o).run Try.prog w = .ok (.value (.bool t)) w := by
  subst ht
  simp only [execOp, ho, hx, hy]
  clear ho hx hy
  have e : ((a : Int) == b) = decide (a = b) := by rw [Bool.eq_iff_iff]; simp; omega
  go_simp
end
theorem lit_256 (l : List Nat) (h : l.all (fun x => decide (x < 256)) = true) (j : Nat) : l.getD j 0 < 256 := by
  rw [List.getD_eq_getElem?_getD]
  cases e : l[j]? with
  | none => show 0 < 256; decide
  | some v =>
    have := List.all_eq_true.1 h v (List.mem_of_getElem? e)
    simpa using this
theorem ltO_256 (j : Nat) : ltO j < 256 := lit_256 _ (by decide) j
theorem ltT_256 (j : Nat) : ltT j < 256 := lit_256 _ (by decide) j
theorem ltB_256 (j : Nat) : ltB j < 256 := lit_256 _ (by decide) j
theorem ltG_256 (j : Nat) : ltG j < 256 := lit_256 _ (by decide) j
theorem known_block : ∀ j, j < 8 → bk kyf nof 1 j = ltB j := by decide +kernel
theorem known_tag : ∀ j, j < 16 → tt (tga (rk ltO) ltT 34) (sk ltO) j = ltG j := by decide +kernel
theorem known_other : ¬ ∀ j, j < 16 → mt ltO nof pno.f pno.n (sl0 kyf nof pno.f 0 pno.f 0) (16 - 16) j = sl0 kyf nof pno.f 0 pno.f 0 ((16 - 16) + j) := by decide +kernel
end Rg
end Go.Proofs.Ytkkippfikfjdpaa
end
section
namespace Go.Proofs.Ytkkippfikfjdpaa
open Go.RowKit
namespace Rg
set_option maxRecDepth 100000
theorem key_born (w : World) : Calls Try.prog 22 #[] w fun e w' => Below w.heap.size w w' ∧ ∃ (g x y : Nat), e = .returned ((fun g x _ => .slice (some ⟨g, 0, none⟩) 32 (32 + x)) g x y) ∧ w.heap.size ≤ g ∧ g < w'.heap.size ∧ Blk w' g (ints .u8 kyf 32) :=
  Calls.mono (key_any w) (fun _ _ ⟨hb, g, x, y, he, h1, h2, h3, _⟩ => ⟨hb, g, x, y, he, h1, h2, h3⟩)
theorem pw_ok (g n : Nat) (f : Nat → Nat) : Pok (pw g n f) := ⟨Bv.start _ _ _ _, Nat.le_refl _⟩
theorem call9 : ∀ args w, (callFunc 9 args).run Try.prog w = .ok (.enter 9 args) w := by intro args w; go_simp
theorem call13 : ∀ args w, (callFunc 13 args).run Try.prog w = .ok (.enter 13 args) w := by intro args w; go_simp
theorem call18 : ∀ args w, (callFunc 18 args).run Try.prog w = .ok (.enter 18 args) w := by intro args w; go_simp
theorem call20 : ∀ args w, (callFunc 20 args).run Try.prog w = .ok (.enter 20 args) w := by intro args w; go_simp
theorem call22 : ∀ args w, (callFunc 22 args).run Try.prog w = .ok (.enter 22 args) w := by intro args w; go_simp
theorem call23 : ∀ args w, (callFunc 23 args).run Try.prog w = .ok (.enter 23 args) w := by intro args w; go_simp
set_option maxHeartbeats 4000000 in
set_option maxRecDepth 100000 in
theorem known_law  (w : World) :
    Calls Try.prog 5 #[] w fun e w' => e = .returned (.bool true) ∧ Below w.heap.size w w' := by
  have H0 : Hid (_ ∧ _) := ⟨Mm.nil w, Below.refl w.heap.size w⟩
  go_enter Try.func5, Try.ntmps5
  refine wp_seq ?_
  refine walk_seqB 1 [.quiet (.bool false)] H0 ?ho1 ?he1
  case ho1 => exact ak (fun _ => ⟨rfl, fun _ _ => rfl⟩) trivial
  intro _ w1 H1
  refine rest0 rfl (then_normal (wp_seq ?_))
  refine walk_seqA 2 [.bornX (fun g x y => .slice (some ⟨g, 0, none⟩) 32 (32 + x)) (ints .u8 kyf 32), .born (fun g => .slice (some ⟨g, 0, none⟩) 12 12) (ints .u8 nof 12)] (sB H1) ?ho2 ?he2
  case ho2 => exact ak (fun γ => ⟨rfl, fun w' h => ⟨22, #[], exec_call rfl call22 rfl (mpn rfl), key_born w'⟩⟩) (ak (fun γ => ⟨rfl, fun w' h => ⟨23, #[], exec_call rfl call23 rfl (mpn rfl), nonce_any w'⟩⟩) trivial)
  intro γ w2 l hM hl
  have H2 : Hid (Mm w2 [(γ 0, ints .u8 kyf 32), (γ 1, ints .u8 nof 12)] ∧ _) := growB H1 hM (Nat.le_refl _) hl [0, 1] rfl (by decide)
  have o2_0 := ownB H1 hM (Nat.le_refl _) hl (i := 0) rfl
  have o2_1 := ownB H1 hM (Nat.le_refl _) hl (i := 1) rfl
  clear hM hl l H1
  generalize γ 0 = γ2_0 at H2 o2_0 ⊢
  generalize γ 1 = γ2_1 at H2 o2_1 ⊢
  generalize γ 65536 = γ2_65536
  clear γ
  refine rest_at (l := [2, 3, 4, 5, 6, 7]) rfl ?_
  refine rest_enter (d := 20) rfl rfl rfl (exec_call (args := #[.slice (some ⟨γ2_0, 0, none⟩) 32 (32 + γ2_65536), .slice (some ⟨γ2_1, 0, none⟩) 12 12, .int .u32 1]) rfl call9 rfl (mpn rfl)) ((Calls.mono (PBlock_ok kyf nof γ2_0 0 (32 + γ2_65536) γ2_1 0 12 (by omega) (by omega) 1 w2 (H2.out.1.rs 0 rfl (show 32 ≤ 32 by decide)) (H2.out.1.rs 1 rfl (show 12 ≤ 12 by decide))) (fun e w2 hh => by obtain ⟨hb, g, he, h1, h2, h3⟩ := hh; exact ⟨_, he, hb, g, rfl, h1, h2, h3⟩) : Calls Try.prog 9 #[.slice (some ⟨γ2_0, 0, none⟩) 32 (32 + γ2_65536), .slice (some ⟨γ2_1, 0, none⟩) 12 12, .int .u32 1] w2 (fun e w' => ∃ v, e = .returned v ∧ (Below w2.heap.size w2 w' ∧ ∃ g, v = .tuple #[.slice (some ⟨g, 0, none⟩) 64 64, .int .i64 0] ∧ w2.heap.size ≤ g ∧ g < w'.heap.size ∧ Blk w' g (ints .u8 (bk kyf nof 1) 64))))) ?_
  rintro _ w3 ⟨hb, γt3, rfl, hg1, hg2, hg3⟩
  have o_γt3 : Hid (w.heap.size ≤ γt3) := Nat.le_trans H2.out.2.size hg1
  have H3 : Hid (Mm w3 [(γt3, ints .u8 (bk kyf nof 1) 64), (γ2_0, ints .u8 kyf 32), (γ2_1, ints .u8 nof 12)] ∧ Below w.heap.size w w3) := ⟨Mm.over H2.out.1 hg1 (H2.out.1.below hb) hg3 hg2, H2.out.2.trans (hb.mono H2.out.2.size)⟩
  clear hb hg1 hg2 hg3 H2
  simp only [Act.put, sa, sz, ss]
  refine rest_set (d := 17) (v := .tuple #[.slice (some ⟨γt3, 0, none⟩) 64 64, .int .i64 0]) (w' := w3) rfl rfl rfl rfl ?_
  simp only [Act.put, sa, sz, ss]
  refine rest_set (d := 21) (v := .slice (some ⟨γt3, 0, none⟩) 64 64) (w' := w3) rfl rfl rfl (by go_simp) ?_
  simp only [Act.put, sa, sz, ss]
  refine rest_set (d := 22) (v := .int .i64 0) (w' := w3) rfl rfl rfl (by go_simp) ?_
  simp only [Act.put, sa, sz, ss]
  refine rest_set (d := 1) (v := .slice (some ⟨γt3, 0, none⟩) 64 64) (w' := w3) rfl rfl rfl rfl ?_
  simp only [Act.put, sa, sz, ss]
  refine rest_set (d := 2) (v := .int .i64 0) (w' := w3) rfl rfl rfl rfl ?_
  simp only [Act.put, sa, sz, ss]
  refine rest_nil (then_normal (wp_seq ?_))
  refine walk_seqA 1 [.row (fun g => .slice (some ⟨g, 0, none⟩) 32 32) (ints .u8 ltO 32) 5] (sB H3) ?ho3 ?he3
  case ho3 => exact ak (fun γ => ⟨rfl, fun w' => ex_litO rfl (fun _ => rfl)⟩) trivial
  intro γ w4 l hM hl
  have H4 : Hid (Mm w4 [(γ 0, ints .u8 ltO 32), (γt3, ints .u8 (bk kyf nof 1) 64), (γ2_0, ints .u8 kyf 32), (γ2_1, ints .u8 nof 12)] ∧ _) := growB H3 hM (Nat.le_refl _) hl [0] rfl (by decide)
  have o3_0 := ownB H3 hM (Nat.le_refl _) hl (i := 0) rfl
  clear hM hl l H3
  generalize γ 0 = γ3_0 at H4 o3_0 ⊢
  clear γ
  refine rest_at (l := [1]) rfl ?_
  refine rest_set (d := 3) (v := .slice (some ⟨γ3_0, 0, none⟩) 32 32) (w' := w4) rfl rfl rfl rfl ?_
  simp only [Act.put, sa, sz, ss]
  refine rest_nil (then_normal (wp_seq ?_))
  refine walk_seqA 3 [.quiet (.slice (some ⟨γ3_0, 0, none⟩) 32 32), .row (fun g => .slice (some ⟨g, 0, none⟩) 34 34) (ints .u8 ltT 34) 5, .same (fun g => .slice (some ⟨g, 0, none⟩) 34 34) 1] (sB H4) ?ho4 ?he4
  case ho4 => exact ak (fun _ => ⟨rfl, fun _ _ => rfl⟩) (ak (fun γ => ⟨rfl, fun w' => ex_litT rfl (fun _ => rfl)⟩) (ak (fun γ => ⟨rfl, fun w' _ => ex_cvS rfl rfl⟩) trivial))
  intro γ w5 l hM hl
  have H5 : Hid (Mm w5 [(γ 1, ints .u8 ltT 34), (γ3_0, ints .u8 ltO 32), (γt3, ints .u8 (bk kyf nof 1) 64), (γ2_0, ints .u8 kyf 32), (γ2_1, ints .u8 nof 12)] ∧ _) := growB H4 hM (Nat.le_refl _) hl [1] rfl (by decide)
  have o4_1 := ownB H4 hM (Nat.le_refl _) hl (i := 1) rfl
  clear hM hl l H4
  generalize γ 1 = γ4_1 at H5 o4_1 ⊢
  clear γ
  refine rest_at (l := [3, 4, 5, 6, 7, 8]) rfl ?_
  refine rest_enter (d := 28) rfl rfl rfl (exec_call (args := #[.slice (some ⟨γ3_0, 0, none⟩) 32 32, .slice (some ⟨γ4_1, 0, none⟩) 34 34]) rfl call13 rfl (mpn rfl)) ((Calls.mono (PTag_ok ltO γ3_0 0 32 (by decide) ltO_256 (pw γ4_1 34 ltT) (pw_ok _ _ _) ltT_256 (show 34 ≤ 1048576 by decide) w5 (H5.out.1.rs 1 rfl (show 32 ≤ 32 by decide)) (H5.out.1.rs 0 rfl (show 34 ≤ 34 by decide))) (fun e w2 hh => by obtain ⟨hb, g, he, h1, h2, h3⟩ := hh; exact ⟨_, he, hb, g, rfl, h1, h2, h3⟩) : Calls Try.prog 13 #[.slice (some ⟨γ3_0, 0, none⟩) 32 32, .slice (some ⟨γ4_1, 0, none⟩) 34 34] w5 (fun e w' => ∃ v, e = .returned v ∧ (Below w5.heap.size w5 w' ∧ ∃ g, v = .tuple #[.slice (some ⟨g, 0, none⟩) 16 16, .int .i64 0] ∧ w5.heap.size ≤ g ∧ g < w'.heap.size ∧ Blk w' g (ints .u8 (tt (tga (rk ltO) ltT 34) (sk ltO)) 16))))) ?_
  rintro _ w6 ⟨hb, γt6, rfl, hg1, hg2, hg3⟩
  have o_γt6 : Hid (w.heap.size ≤ γt6) := Nat.le_trans H5.out.2.size hg1
  have H6 : Hid (Mm w6 [(γt6, ints .u8 (tt (tga (rk ltO) ltT 34) (sk ltO)) 16), (γ4_1, ints .u8 ltT 34), (γ3_0, ints .u8 ltO 32), (γt3, ints .u8 (bk kyf nof 1) 64), (γ2_0, ints .u8 kyf 32), (γ2_1, ints .u8 nof 12)] ∧ Below w.heap.size w w6) := ⟨Mm.over H5.out.1 hg1 (H5.out.1.below hb) hg3 hg2, H5.out.2.trans (hb.mono H5.out.2.size)⟩
  clear hb hg1 hg2 hg3 H5
  simp only [Act.put, sa, sz, ss]
  refine rest_set (d := 24) (v := .tuple #[.slice (some ⟨γt6, 0, none⟩) 16 16, .int .i64 0]) (w' := w6) rfl rfl rfl rfl ?_
  simp only [Act.put, sa, sz, ss]
  refine rest_set (d := 29) (v := .slice (some ⟨γt6, 0, none⟩) 16 16) (w' := w6) rfl rfl rfl (by go_simp) ?_
  simp only [Act.put, sa, sz, ss]
  refine rest_set (d := 30) (v := .int .i64 0) (w' := w6) rfl rfl rfl (by go_simp) ?_
  simp only [Act.put, sa, sz, ss]
  refine rest_set (d := 4) (v := .slice (some ⟨γt6, 0, none⟩) 16 16) (w' := w6) rfl rfl rfl rfl ?_
  simp only [Act.put, sa, sz, ss]
  refine rest_set (d := 5) (v := .int .i64 0) (w' := w6) rfl rfl rfl rfl ?_
  simp only [Act.put, sa, sz, ss]
  refine rest_nil (then_normal (wp_seq ?_))
  refine walk_seqA 2 [.bornX (fun g x y => .slice (some ⟨g, 0, none⟩) 32 (32 + x)) (ints .u8 kyf 32), .born (fun g => .slice (some ⟨g, 0, none⟩) 12 12) (ints .u8 nof 12)] (sB H6) ?ho5 ?he5
  case ho5 => exact ak (fun γ => ⟨rfl, fun w' h => ⟨22, #[], exec_call rfl call22 rfl (mpn rfl), key_born w'⟩⟩) (ak (fun γ => ⟨rfl, fun w' h => ⟨23, #[], exec_call rfl call23 rfl (mpn rfl), nonce_any w'⟩⟩) trivial)
  intro γ w7 l hM hl
  have H7 : Hid (Mm w7 [(γ 0, ints .u8 kyf 32), (γ 1, ints .u8 nof 12), (γt6, ints .u8 (tt (tga (rk ltO) ltT 34) (sk ltO)) 16), (γ4_1, ints .u8 ltT 34), (γ3_0, ints .u8 ltO 32), (γt3, ints .u8 (bk kyf nof 1) 64), (γ2_0, ints .u8 kyf 32), (γ2_1, ints .u8 nof 12)] ∧ _) := growB H6 hM (Nat.le_refl _) hl [0, 1] rfl (by decide)
  have o5_0 := ownB H6 hM (Nat.le_refl _) hl (i := 0) rfl
  have o5_1 := ownB H6 hM (Nat.le_refl _) hl (i := 1) rfl
  clear hM hl l H6
  generalize γ 0 = γ5_0 at H7 o5_0 ⊢
  generalize γ 1 = γ5_1 at H7 o5_1 ⊢
  generalize γ 65536 = γ5_65536
  clear γ
  refine rest_at (l := [2, 3, 4, 5, 6, 7]) rfl ?_
  refine rest_enter (d := 34) rfl rfl rfl (exec_call (args := #[.slice (some ⟨γ5_0, 0, none⟩) 32 (32 + γ5_65536), .slice (some ⟨γ5_1, 0, none⟩) 12 12, .slice none 0 0, .slice none 0 0]) rfl call18 rfl (mpn rfl)) ((Calls.mono (PSeal_ok kyf nof γ5_0 0 (32 + γ5_65536) γ5_1 0 12 (by omega) (by omega) pno pno pno_ok pno_ok (fun _ => (by decide : (0 : Nat) < 256)) (show 0 ≤ 1048576 by decide) (show 0 ≤ 1048576 by decide) w7 (H7.out.1.rs 0 rfl (show 32 ≤ 32 by decide)) (H7.out.1.rs 1 rfl (show 12 ≤ 12 by decide)) (pno_rs _) (pno_rs _)) (fun e w2 hh => by obtain ⟨hb, g, he, h1, h2, h3⟩ := hh; exact ⟨_, he, hb, g, rfl, h1, h2, h3⟩) : Calls Try.prog 18 #[.slice (some ⟨γ5_0, 0, none⟩) 32 (32 + γ5_65536), .slice (some ⟨γ5_1, 0, none⟩) 12 12, .slice none 0 0, .slice none 0 0] w7 (fun e w' => ∃ v, e = .returned v ∧ (Below w7.heap.size w7 w' ∧ ∃ g, v = .tuple #[.slice (some ⟨g, 0, none⟩) 16 16, .int .i64 0] ∧ w7.heap.size ≤ g ∧ g < w'.heap.size ∧ Blk w' g (ints .u8 (sl0 kyf nof pno.f 0 pno.f 0) 16))))) ?_
  rintro _ w8 ⟨hb, γt8, rfl, hg1, hg2, hg3⟩
  have o_γt8 : Hid (w.heap.size ≤ γt8) := Nat.le_trans H7.out.2.size hg1
  have H8 : Hid (Mm w8 [(γt8, ints .u8 (sl0 kyf nof pno.f 0 pno.f 0) 16), (γ5_0, ints .u8 kyf 32), (γ5_1, ints .u8 nof 12), (γt6, ints .u8 (tt (tga (rk ltO) ltT 34) (sk ltO)) 16), (γ4_1, ints .u8 ltT 34), (γ3_0, ints .u8 ltO 32), (γt3, ints .u8 (bk kyf nof 1) 64), (γ2_0, ints .u8 kyf 32), (γ2_1, ints .u8 nof 12)] ∧ Below w.heap.size w w8) := ⟨Mm.over H7.out.1 hg1 (H7.out.1.below hb) hg3 hg2, H7.out.2.trans (hb.mono H7.out.2.size)⟩
  clear hb hg1 hg2 hg3 H7
  simp only [Act.put, sa, sz, ss]
  refine rest_set (d := 31) (v := .tuple #[.slice (some ⟨γt8, 0, none⟩) 16 16, .int .i64 0]) (w' := w8) rfl rfl rfl rfl ?_
  simp only [Act.put, sa, sz, ss]
  refine rest_set (d := 35) (v := .slice (some ⟨γt8, 0, none⟩) 16 16) (w' := w8) rfl rfl rfl (by go_simp) ?_
  simp only [Act.put, sa, sz, ss]
  refine rest_set (d := 36) (v := .int .i64 0) (w' := w8) rfl rfl rfl (by go_simp) ?_
  simp only [Act.put, sa, sz, ss]
  refine rest_set (d := 6) (v := .slice (some ⟨γt8, 0, none⟩) 16 16) (w' := w8) rfl rfl rfl rfl ?_
  simp only [Act.put, sa, sz, ss]
  refine rest_set (d := 7) (v := .int .i64 0) (w' := w8) rfl rfl rfl rfl ?_
  simp only [Act.put, sa, sz, ss]
  refine rest_nil (then_normal ?_)
  refine wp_seq (wp_seq ?_)
  refine walk_seqB 20 [.quiet (.int .i64 0), .quiet (.bool false), .quiet (.bool false), .quiet (.int .i64 0), .quiet (.bool false), .quiet (.bool false), .quiet (.bool false), .quiet (.int .i64 0), .quiet (.bool false), .quiet (.bool false), .quiet (.bool false), .quiet (.slice (some ⟨γt3, 0, none⟩) 64 64), .quiet (.int .i64 ((64 : Nat) : Int)), .quiet (.bool false), .quiet (.bool false), .quiet (.bool false), .quiet (.slice (some ⟨γt8, 0, none⟩) 16 16), .quiet (.int .i64 ((16 : Nat) : Int)), .quiet (.bool false), .quiet (.bool false)] H8 ?ho6 ?he6
  case ho6 => exact ak (fun _ => ⟨rfl, fun _ _ => rfl⟩) (ak (fun γ => ⟨rfl, fun w' _ => ex_neE (a := 0) (b := 0) rfl rfl rfl rfl⟩) (ak (fun _ => ⟨rfl, fun _ _ => rfl⟩) (ak (fun _ => ⟨rfl, fun _ _ => rfl⟩) (ak (fun γ => ⟨rfl, fun w' _ => ex_neE (a := 0) (b := 0) rfl rfl rfl rfl⟩) (ak (by refine fun γ => ⟨rfl, fun w' h => ?_⟩; clear h; go_simp) (ak (fun _ => ⟨rfl, fun _ _ => rfl⟩) (ak (fun _ => ⟨rfl, fun _ _ => rfl⟩) (ak (fun γ => ⟨rfl, fun w' _ => ex_neE (a := 0) (b := 0) rfl rfl rfl rfl⟩) (ak (by refine fun γ => ⟨rfl, fun w' h => ?_⟩; clear h; go_simp) (ak (fun _ => ⟨rfl, fun _ _ => rfl⟩) (ak (fun _ => ⟨rfl, fun _ _ => rfl⟩) (ak (by refine fun γ => ⟨rfl, fun w' h => ?_⟩; clear h; go_simp) (ak (by refine fun γ => ⟨rfl, fun w' h => ?_⟩; clear h; go_simp <;> omega) (ak (by refine fun γ => ⟨rfl, fun w' h => ?_⟩; clear h; go_simp) (ak (fun _ => ⟨rfl, fun _ _ => rfl⟩) (ak (fun _ => ⟨rfl, fun _ _ => rfl⟩) (ak (by refine fun γ => ⟨rfl, fun w' h => ?_⟩; clear h; go_simp) (ak (by refine fun γ => ⟨rfl, fun w' h => ?_⟩; clear h; go_simp <;> omega) (ak (by refine fun γ => ⟨rfl, fun w' h => ?_⟩; clear h; go_simp) trivial)))))))))))))))))))
  intro _ w9 H9
  clear H8
  refine rest0 rfl (then_normal (wp_cond_false rfl ?_))
  refine wp_skip (then_normal (wp_seq ?_))
  refine walk_seqA 3 [.bornX (fun g x y => .slice (some ⟨g, 0, none⟩) 32 (32 + x)) (ints .u8 kyf 32), .born (fun g => .slice (some ⟨g, 0, none⟩) 12 12) (ints .u8 nof 12), .quiet (.slice (some ⟨γt8, 0, none⟩) 16 16)] (sB H9) ?ho7 ?he7
  case ho7 => exact ak (fun γ => ⟨rfl, fun w' h => ⟨22, #[], exec_call rfl call22 rfl (mpn rfl), key_born w'⟩⟩) (ak (fun γ => ⟨rfl, fun w' h => ⟨23, #[], exec_call rfl call23 rfl (mpn rfl), nonce_any w'⟩⟩) (ak (fun _ => ⟨rfl, fun _ _ => rfl⟩) trivial))
  intro γ w10 l hM hl
  have H10 : Hid (Mm w10 [(γ 0, ints .u8 kyf 32), (γ 1, ints .u8 nof 12), (γt8, ints .u8 (sl0 kyf nof pno.f 0 pno.f 0) 16), (γ5_0, ints .u8 kyf 32), (γ5_1, ints .u8 nof 12), (γt6, ints .u8 (tt (tga (rk ltO) ltT 34) (sk ltO)) 16), (γ4_1, ints .u8 ltT 34), (γ3_0, ints .u8 ltO 32), (γt3, ints .u8 (bk kyf nof 1) 64), (γ2_0, ints .u8 kyf 32), (γ2_1, ints .u8 nof 12)] ∧ _) := growB H9 hM (Nat.le_refl _) hl [0, 1] rfl (by decide)
  have o7_0 := ownB H9 hM (Nat.le_refl _) hl (i := 0) rfl
  have o7_1 := ownB H9 hM (Nat.le_refl _) hl (i := 1) rfl
  clear hM hl l H9
  generalize γ 0 = γ7_0 at H10 o7_0 ⊢
  generalize γ 1 = γ7_1 at H10 o7_1 ⊢
  generalize γ 65536 = γ7_65536
  clear γ
  refine rest_at (l := [3, 4, 5, 6, 7, 8]) rfl ?_
  refine rest_enter (d := 61) rfl rfl rfl (exec_call (args := #[.slice (some ⟨γ7_0, 0, none⟩) 32 (32 + γ7_65536), .slice (some ⟨γ7_1, 0, none⟩) 12 12, .slice (some ⟨γt8, 0, none⟩) 16 16, .slice none 0 0]) rfl call20 rfl (mpn rfl)) ((Calls.mono (POpen_ok kyf nof γ7_0 0 (32 + γ7_65536) γ7_1 0 12 (by omega) (by omega) (sl0 kyf nof pno.f 0 pno.f 0) γt8 0 16 16 pno pno_ok (sl0_256 _ _ _ _ _ _) (fun _ => (by decide : (0 : Nat) < 256)) (by decide) (by decide) (by decide) (show 0 ≤ 1048576 by decide) (open_seal kyf nof pno.f 0 pno.f 0) w10 (H10.out.1.rs 0 rfl (show 32 ≤ 32 by decide)) (H10.out.1.rs 1 rfl (show 12 ≤ 12 by decide)) (H10.out.1.rs 2 rfl (show 16 ≤ 16 by decide)) (pno_rs _)) (fun e w2 hh => by obtain ⟨hb, g, he, h1, h2, h3⟩ := hh; exact ⟨_, he, hb, g, rfl, h1, h2, h3⟩) : Calls Try.prog 20 #[.slice (some ⟨γ7_0, 0, none⟩) 32 (32 + γ7_65536), .slice (some ⟨γ7_1, 0, none⟩) 12 12, .slice (some ⟨γt8, 0, none⟩) 16 16, .slice none 0 0] w10 (fun e w' => ∃ v, e = .returned v ∧ (Below w10.heap.size w10 w' ∧ ∃ g, v = .tuple #[.slice (some ⟨g, 0, none⟩) 0 0, .int .i64 0] ∧ w10.heap.size ≤ g ∧ g < w'.heap.size ∧ Blk w' g (ints .u8 (so kyf nof 1 (sl0 kyf nof pno.f 0 pno.f 0)) 0))))) ?_
  rintro _ w11 ⟨hb, γt11, rfl, hg1, hg2, hg3⟩
  have o_γt11 : Hid (w.heap.size ≤ γt11) := Nat.le_trans H10.out.2.size hg1
  have H11 : Hid (Mm w11 [(γt11, ints .u8 (so kyf nof 1 (sl0 kyf nof pno.f 0 pno.f 0)) 0), (γ7_0, ints .u8 kyf 32), (γ7_1, ints .u8 nof 12), (γt8, ints .u8 (sl0 kyf nof pno.f 0 pno.f 0) 16), (γ5_0, ints .u8 kyf 32), (γ5_1, ints .u8 nof 12), (γt6, ints .u8 (tt (tga (rk ltO) ltT 34) (sk ltO)) 16), (γ4_1, ints .u8 ltT 34), (γ3_0, ints .u8 ltO 32), (γt3, ints .u8 (bk kyf nof 1) 64), (γ2_0, ints .u8 kyf 32), (γ2_1, ints .u8 nof 12)] ∧ Below w.heap.size w w11) := ⟨Mm.over H10.out.1 hg1 (H10.out.1.below hb) hg3 hg2, H10.out.2.trans (hb.mono H10.out.2.size)⟩
  clear hb hg1 hg2 hg3 H10
  simp only [Act.put, sa, sz, ss]
  refine rest_set (d := 57) (v := .tuple #[.slice (some ⟨γt11, 0, none⟩) 0 0, .int .i64 0]) (w' := w11) rfl rfl rfl rfl ?_
  simp only [Act.put, sa, sz, ss]
  refine rest_set (d := 62) (v := .slice (some ⟨γt11, 0, none⟩) 0 0) (w' := w11) rfl rfl rfl (by go_simp) ?_
  simp only [Act.put, sa, sz, ss]
  refine rest_set (d := 63) (v := .int .i64 0) (w' := w11) rfl rfl rfl (by go_simp) ?_
  simp only [Act.put, sa, sz, ss]
  refine rest_set (d := 8) (v := .slice (some ⟨γt11, 0, none⟩) 0 0) (w' := w11) rfl rfl rfl rfl ?_
  simp only [Act.put, sa, sz, ss]
  refine rest_set (d := 9) (v := .int .i64 0) (w' := w11) rfl rfl rfl rfl ?_
  simp only [Act.put, sa, sz, ss]
  refine rest_nil (then_normal (wp_seq ?_))
  refine walk_anyA 10 [.bornX (fun g x y => .slice (some ⟨g, 0, none⟩) 32 (32 + x)) (ints .u8 kyf 32), .born (fun g => .slice (some ⟨g, 0, none⟩) 12 12) (ints .u8 nof 12), .quiet (.slice (some ⟨γt8, 0, none⟩) 16 16), .quiet (.slice (some ⟨γt8, 0, none⟩) 15 16), .call (.tuple #[.slice none 0 0, .int .i64 200]), .quiet (.tuple #[.slice none 0 0, .int .i64 200]), .quiet (.slice none 0 0), .quiet (.int .i64 200), .quiet (.slice none 0 0), .quiet (.int .i64 200)] (sB H11) ?ho8 ?he8
  case ho8 => exact ak (fun γ => ⟨rfl, fun w' h => ⟨22, #[], exec_call rfl call22 rfl (mpn rfl), key_born w'⟩⟩) (ak (fun γ => ⟨rfl, fun w' h => ⟨23, #[], exec_call rfl call23 rfl (mpn rfl), nonce_any w'⟩⟩) (ak (fun _ => ⟨rfl, fun _ _ => rfl⟩) (ak (fun γ => ⟨rfl, fun w' _ => ex_slH22 (l := 15) rfl rfl rfl (by omega)⟩) (ak (fun γ => ⟨rfl, fun w' _ => ⟨20, #[.slice (some ⟨(γ 0), 0, none⟩) 32 (32 + (γ 65536)), .slice (some ⟨(γ 1), 0, none⟩) 12 12, .slice (some ⟨γt8, 0, none⟩) 15 16, .slice none 0 0], exec_call rfl call20 rfl (mpn rfl), POpen_short _ _ _ _ (pa γt8 0 15 16 (fun _ => 0)) pno (show 15 < 16 by decide) (show 0 ≤ 1048576 by decide) w'⟩⟩) (ak (fun _ => ⟨rfl, fun _ _ => rfl⟩) (ak (by refine fun γ => ⟨rfl, fun w' h => ?_⟩; clear h; go_simp) (ak (by refine fun γ => ⟨rfl, fun w' h => ?_⟩; clear h; go_simp) (ak (fun _ => ⟨rfl, fun _ _ => rfl⟩) (ak (fun _ => ⟨rfl, fun _ _ => rfl⟩) trivial)))))))))
  intro γ w12 l hM hl
  have H12 : Hid (Mm w12 [(γ 0, ints .u8 kyf 32), (γ 1, ints .u8 nof 12), (γt11, ints .u8 (so kyf nof 1 (sl0 kyf nof pno.f 0 pno.f 0)) 0), (γ7_0, ints .u8 kyf 32), (γ7_1, ints .u8 nof 12), (γt8, ints .u8 (sl0 kyf nof pno.f 0 pno.f 0) 16), (γ5_0, ints .u8 kyf 32), (γ5_1, ints .u8 nof 12), (γt6, ints .u8 (tt (tga (rk ltO) ltT 34) (sk ltO)) 16), (γ4_1, ints .u8 ltT 34), (γ3_0, ints .u8 ltO 32), (γt3, ints .u8 (bk kyf nof 1) 64), (γ2_0, ints .u8 kyf 32), (γ2_1, ints .u8 nof 12)] ∧ _) := growB H11 hM (Nat.le_refl _) hl [0, 1] rfl (by decide)
  have o8_0 := ownB H11 hM (Nat.le_refl _) hl (i := 0) rfl
  have o8_1 := ownB H11 hM (Nat.le_refl _) hl (i := 1) rfl
  clear hM hl l H11
  generalize γ 0 = γ8_0 at H12 o8_0 ⊢
  generalize γ 1 = γ8_1 at H12 o8_1 ⊢
  generalize γ 65536 = γ8_65536
  clear γ
  refine rest0 rfl (then_normal (wp_seq ?_))
  refine walk_seqA 3 [.quiet (.slice (some ⟨γ3_0, 0, none⟩) 32 32), .born (fun g => .slice (some ⟨g, 0, none⟩) 12 12) (ints .u8 nof 12), .quiet (.slice (some ⟨γt8, 0, none⟩) 16 16)] (sB H12) ?ho9 ?he9
  case ho9 => exact ak (fun _ => ⟨rfl, fun _ _ => rfl⟩) (ak (fun γ => ⟨rfl, fun w' h => ⟨23, #[], exec_call rfl call23 rfl (mpn rfl), nonce_any w'⟩⟩) (ak (fun _ => ⟨rfl, fun _ _ => rfl⟩) trivial))
  intro γ w13 l hM hl
  have H13 : Hid (Mm w13 [(γ 1, ints .u8 nof 12), (γ8_0, ints .u8 kyf 32), (γ8_1, ints .u8 nof 12), (γt11, ints .u8 (so kyf nof 1 (sl0 kyf nof pno.f 0 pno.f 0)) 0), (γ7_0, ints .u8 kyf 32), (γ7_1, ints .u8 nof 12), (γt8, ints .u8 (sl0 kyf nof pno.f 0 pno.f 0) 16), (γ5_0, ints .u8 kyf 32), (γ5_1, ints .u8 nof 12), (γt6, ints .u8 (tt (tga (rk ltO) ltT 34) (sk ltO)) 16), (γ4_1, ints .u8 ltT 34), (γ3_0, ints .u8 ltO 32), (γt3, ints .u8 (bk kyf nof 1) 64), (γ2_0, ints .u8 kyf 32), (γ2_1, ints .u8 nof 12)] ∧ _) := growB H12 hM (Nat.le_refl _) hl [1] rfl (by decide)
  have o9_1 := ownB H12 hM (Nat.le_refl _) hl (i := 1) rfl
  clear hM hl l H12
  generalize γ 1 = γ9_1 at H13 o9_1 ⊢
  clear γ
  refine rest_at (l := [3, 4, 5, 6, 7, 8]) rfl ?_
  refine rest_enter (d := 76) rfl rfl rfl (exec_call (args := #[.slice (some ⟨γ3_0, 0, none⟩) 32 32, .slice (some ⟨γ9_1, 0, none⟩) 12 12, .slice (some ⟨γt8, 0, none⟩) 16 16, .slice none 0 0]) rfl call20 rfl (mpn rfl)) ((Calls.mono (POpen_bad ltO nof γ3_0 0 32 γ9_1 0 12 (by omega) (by omega) (sl0 kyf nof pno.f 0 pno.f 0) γt8 0 16 16 pno pno_ok (sl0_256 _ _ _ _ _ _) (fun _ => (by decide : (0 : Nat) < 256)) (by decide) (by decide) (by decide) (show 0 ≤ 1048576 by decide) known_other w13 (H13.out.1.rs 11 rfl (show 32 ≤ 32 by decide)) (H13.out.1.rs 0 rfl (show 12 ≤ 12 by decide)) (H13.out.1.rs 6 rfl (show 16 ≤ 16 by decide)) (pno_rs _)) (fun e w2 hh => ⟨_, hh.1, rfl, hh.2⟩) : Calls Try.prog 20 #[.slice (some ⟨γ3_0, 0, none⟩) 32 32, .slice (some ⟨γ9_1, 0, none⟩) 12 12, .slice (some ⟨γt8, 0, none⟩) 16 16, .slice none 0 0] w13 (fun e w' => ∃ v, e = .returned v ∧ (v = .tuple #[.slice none 0 0, .int .i64 200] ∧ Below w13.heap.size w13 w')))) ?_
  rintro _ w14 ⟨rfl, hb⟩
  have H14 : Hid (Mm w14 [(γ9_1, ints .u8 nof 12), (γ8_0, ints .u8 kyf 32), (γ8_1, ints .u8 nof 12), (γt11, ints .u8 (so kyf nof 1 (sl0 kyf nof pno.f 0 pno.f 0)) 0), (γ7_0, ints .u8 kyf 32), (γ7_1, ints .u8 nof 12), (γt8, ints .u8 (sl0 kyf nof pno.f 0 pno.f 0) 16), (γ5_0, ints .u8 kyf 32), (γ5_1, ints .u8 nof 12), (γt6, ints .u8 (tt (tga (rk ltO) ltT 34) (sk ltO)) 16), (γ4_1, ints .u8 ltT 34), (γ3_0, ints .u8 ltO 32), (γt3, ints .u8 (bk kyf nof 1) 64), (γ2_0, ints .u8 kyf 32), (γ2_1, ints .u8 nof 12)] ∧ Below w.heap.size w w14) := ⟨H13.out.1.below hb, H13.out.2.trans (hb.mono H13.out.2.size)⟩
  clear hb H13
  simp only [Act.put, sa, sz, ss]
  refine rest_set (d := 72) (v := .tuple #[.slice none 0 0, .int .i64 200]) (w' := w14) rfl rfl rfl rfl ?_
  simp only [Act.put, sa, sz, ss]
  refine rest_set (d := 77) (v := .slice none 0 0) (w' := w14) rfl rfl rfl (by go_simp) ?_
  simp only [Act.put, sa, sz, ss]
  refine rest_set (d := 78) (v := .int .i64 200) (w' := w14) rfl rfl rfl (by go_simp) ?_
  simp only [Act.put, sa, sz, ss]
  refine rest_set (d := 12) (v := .slice none 0 0) (w' := w14) rfl rfl rfl rfl ?_
  simp only [Act.put, sa, sz, ss]
  refine rest_set (d := 13) (v := .int .i64 200) (w' := w14) rfl rfl rfl rfl ?_
  simp only [Act.put, sa, sz, ss]
  refine rest_nil (then_normal (wp_seq ?_))
  refine walk_anyA 9 [.quiet (.slice (some ⟨γ3_0, 0, none⟩) 32 32), .quiet (.slice (some ⟨γ3_0, 0, none⟩) 31 32), .born (fun g => .slice (some ⟨g, 0, none⟩) 12 12) (ints .u8 nof 12), .over (.tuple #[.slice none 0 0, .int .i64 2]) 2 (ints .u8 nof 12), .quiet (.tuple #[.slice none 0 0, .int .i64 2]), .quiet (.slice none 0 0), .quiet (.int .i64 2), .quiet (.slice none 0 0), .quiet (.int .i64 2)] (sB H14) ?ho10 ?he10 (hL := ?hL10)
  case hL10 => exact ⟨⟨_, rfl⟩, trivial⟩
  case ho10 => exact ak (fun _ => ⟨rfl, fun _ _ => rfl⟩) (ak (fun γ => ⟨rfl, fun w' _ => ex_slH22 (l := 31) rfl rfl rfl (by omega)⟩) (ak (fun γ => ⟨rfl, fun w' h => ⟨23, #[], exec_call rfl call23 rfl (mpn rfl), nonce_any w'⟩⟩) (ak (fun γ => ⟨rfl, fun u w' h0 hge h1 hb hlt => by have h := Mm.over h0 hge h1 hb hlt; exact ⟨9, #[.slice (some ⟨γ3_0, 0, none⟩) 31 32, .slice (some ⟨(γ 2), 0, none⟩) 12 12, .int .u32 0], exec_call rfl call9 rfl (mpn rfl), PBlock_err _ _ 31 12 _ _ 0 (.inl (by decide)) w'⟩⟩) (ak (fun _ => ⟨rfl, fun _ _ => rfl⟩) (ak (by refine fun γ => ⟨rfl, fun w' h => ?_⟩; clear h; go_simp) (ak (by refine fun γ => ⟨rfl, fun w' h => ?_⟩; clear h; go_simp) (ak (fun _ => ⟨rfl, fun _ _ => rfl⟩) (ak (fun _ => ⟨rfl, fun _ _ => rfl⟩) trivial))))))))
  intro γ w15 l hM hl
  have H15 : Hid (Mm w15 [(γ 2, ints .u8 nof 12), (γ9_1, ints .u8 nof 12), (γ8_0, ints .u8 kyf 32), (γ8_1, ints .u8 nof 12), (γt11, ints .u8 (so kyf nof 1 (sl0 kyf nof pno.f 0 pno.f 0)) 0), (γ7_0, ints .u8 kyf 32), (γ7_1, ints .u8 nof 12), (γt8, ints .u8 (sl0 kyf nof pno.f 0 pno.f 0) 16), (γ5_0, ints .u8 kyf 32), (γ5_1, ints .u8 nof 12), (γt6, ints .u8 (tt (tga (rk ltO) ltT 34) (sk ltO)) 16), (γ4_1, ints .u8 ltT 34), (γ3_0, ints .u8 ltO 32), (γt3, ints .u8 (bk kyf nof 1) 64), (γ2_0, ints .u8 kyf 32), (γ2_1, ints .u8 nof 12)] ∧ _) := growB H14 hM (Nat.le_refl _) hl [2] rfl (by decide)
  have o10_2 := ownB H14 hM (Nat.le_refl _) hl (i := 2) rfl
  clear hM hl l H14
  generalize γ 2 = γ10_2 at H15 o10_2 ⊢
  clear γ
  refine rest0 rfl (then_normal (wp_seq ?_))
  refine walk_seqA 10 [.quiet (.slice (some ⟨γt3, 0, none⟩) 64 64), .quiet (.slice (some ⟨γt3, 0, none⟩) 8 64), .row (fun g => .slice (some ⟨g, 0, none⟩) 8 8) (ints .u8 ltB 8) 5, .over (.bool true) 2 (ints .u8 ltB 8), .quiet (.bool true), .quiet (.slice (some ⟨γt6, 0, none⟩) 16 16), .row (fun g => .slice (some ⟨g, 0, none⟩) 16 16) (ints .u8 ltG 16) 5, .over (.bool true) 6 (ints .u8 ltG 16), .quiet (.bool true), .quiet (.bool true)] (sB H15) ?ho11 ?he11 (hL := ?hL11)
  case hL11 => exact ⟨⟨_, rfl⟩, ⟨_, rfl⟩, trivial⟩
  case ho11 => exact ak (fun _ => ⟨rfl, fun _ _ => rfl⟩) (ak (fun γ => ⟨rfl, fun w' _ => ex_slH22 (l := 8) rfl rfl rfl (by omega)⟩) (ak (fun γ => ⟨rfl, fun w' => ex_litB rfl (fun _ => rfl)⟩) (ak (fun γ => ⟨rfl, fun u w' h0 hge h1 hb hlt => by have h := Mm.over h0 hge h1 hb hlt; exact ⟨15, #[.slice (some ⟨γt3, 0, none⟩) 8 64, .slice (some ⟨(γ 2), 0, none⟩) 8 8], exec_call rfl call15 rfl (mpn rfl), same_pt (pa γt3 0 8 64 (bk kyf nof 1)) (pa (γ 2) 0 8 8 ltB) (pa_ok _ _ _ (show 8 ≤ 64 by decide)) (pa_ok _ _ _ (Nat.le_refl _)) (bk_256 _ _ _) ltB_256 true ⟨fun _ => ⟨rfl, known_block⟩, fun _ => rfl⟩ w' (h.rs 14 rfl (show 8 ≤ 64 by decide)) (h.rs 0 rfl (Nat.le_refl _))⟩⟩) (ak (fun _ => ⟨rfl, fun _ _ => rfl⟩) (ak (fun _ => ⟨rfl, fun _ _ => rfl⟩) (ak (fun γ => ⟨rfl, fun w' => ex_litG rfl (fun _ => rfl)⟩) (ak (fun γ => ⟨rfl, fun u w' h0 hge h1 hb hlt => by have h := Mm.over h0 hge h1 hb hlt; exact ⟨15, #[.slice (some ⟨γt6, 0, none⟩) 16 16, .slice (some ⟨(γ 6), 0, none⟩) 16 16], exec_call rfl call15 rfl (mpn rfl), same_pt (pa γt6 0 16 16 (tt (tga (rk ltO) ltT 34) (sk ltO))) (pa (γ 6) 0 16 16 ltG) (pa_ok _ _ _ (show 16 ≤ 16 by decide)) (pa_ok _ _ _ (Nat.le_refl _)) (dg_lt _) ltG_256 true ⟨fun _ => ⟨rfl, known_tag⟩, fun _ => rfl⟩ w' (h.rs 11 rfl (show 16 ≤ 16 by decide)) (h.rs 0 rfl (Nat.le_refl _))⟩⟩) (ak (by refine fun γ => ⟨rfl, fun w' h => ?_⟩; clear h; go_simp) (ak (fun _ => ⟨rfl, fun _ _ => rfl⟩) trivial)))))))))
  intro γ w16 l hM hl
  have H16 : Hid (Mm w16 [(γ 2, ints .u8 ltB 8), (γ 6, ints .u8 ltG 16), (γ10_2, ints .u8 nof 12), (γ9_1, ints .u8 nof 12), (γ8_0, ints .u8 kyf 32), (γ8_1, ints .u8 nof 12), (γt11, ints .u8 (so kyf nof 1 (sl0 kyf nof pno.f 0 pno.f 0)) 0), (γ7_0, ints .u8 kyf 32), (γ7_1, ints .u8 nof 12), (γt8, ints .u8 (sl0 kyf nof pno.f 0 pno.f 0) 16), (γ5_0, ints .u8 kyf 32), (γ5_1, ints .u8 nof 12), (γt6, ints .u8 (tt (tga (rk ltO) ltT 34) (sk ltO)) 16), (γ4_1, ints .u8 ltT 34), (γ3_0, ints .u8 ltO 32), (γt3, ints .u8 (bk kyf nof 1) 64), (γ2_0, ints .u8 kyf 32), (γ2_1, ints .u8 nof 12)] ∧ _) := growB H15 hM (Nat.le_refl _) hl [2, 6] rfl (by decide)
  have o11_2 := ownB H15 hM (Nat.le_refl _) hl (i := 2) rfl
  have o11_6 := ownB H15 hM (Nat.le_refl _) hl (i := 6) rfl
  clear hM hl l H15
  generalize γ 2 = γ11_2 at H16 o11_2 ⊢
  generalize γ 6 = γ11_6 at H16 o11_6 ⊢
  clear γ
  refine rest0 rfl (then_normal (wp_seq ?_))
  refine walk_seqB 23 [.quiet (.bool true), .quiet (.bool true), .quiet (.int .i64 0), .quiet (.bool true), .quiet (.bool true), .quiet (.bool true), .quiet (.slice (some ⟨γt11, 0, none⟩) 0 0), .quiet (.int .i64 ((0 : Nat) : Int)), .quiet (.bool true), .quiet (.bool true), .quiet (.bool true), .quiet (.int .i64 200), .quiet (.bool true), .quiet (.bool true), .quiet (.bool true), .quiet (.int .i64 200), .quiet (.bool true), .quiet (.bool true), .quiet (.bool true), .quiet (.int .i64 2), .quiet (.bool true), .quiet (.bool true), .quiet (.bool true)] H16 ?ho12 ?he12
  case ho12 => exact ak (fun _ => ⟨rfl, fun _ _ => rfl⟩) (ak (fun _ => ⟨rfl, fun _ _ => rfl⟩) (ak (fun _ => ⟨rfl, fun _ _ => rfl⟩) (ak (fun γ => ⟨rfl, fun w' _ => ex_eqE (a := 0) (b := 0) rfl rfl rfl rfl⟩) (ak (by refine fun γ => ⟨rfl, fun w' h => ?_⟩; clear h; go_simp) (ak (fun _ => ⟨rfl, fun _ _ => rfl⟩) (ak (fun _ => ⟨rfl, fun _ _ => rfl⟩) (ak (by refine fun γ => ⟨rfl, fun w' h => ?_⟩; clear h; go_simp) (ak (by refine fun γ => ⟨rfl, fun w' h => ?_⟩; clear h; go_simp <;> omega) (ak (by refine fun γ => ⟨rfl, fun w' h => ?_⟩; clear h; go_simp) (ak (fun _ => ⟨rfl, fun _ _ => rfl⟩) (ak (fun _ => ⟨rfl, fun _ _ => rfl⟩) (ak (fun γ => ⟨rfl, fun w' _ => ex_eqE (a := 200) (b := 200) rfl rfl rfl rfl⟩) (ak (by refine fun γ => ⟨rfl, fun w' h => ?_⟩; clear h; go_simp) (ak (fun _ => ⟨rfl, fun _ _ => rfl⟩) (ak (fun _ => ⟨rfl, fun _ _ => rfl⟩) (ak (fun γ => ⟨rfl, fun w' _ => ex_eqE (a := 200) (b := 200) rfl rfl rfl rfl⟩) (ak (by refine fun γ => ⟨rfl, fun w' h => ?_⟩; clear h; go_simp) (ak (fun _ => ⟨rfl, fun _ _ => rfl⟩) (ak (fun _ => ⟨rfl, fun _ _ => rfl⟩) (ak (fun γ => ⟨rfl, fun w' _ => ex_eqE (a := 2) (b := 2) rfl rfl rfl rfl⟩) (ak (by refine fun γ => ⟨rfl, fun w' h => ?_⟩; clear h; go_simp) (ak (fun _ => ⟨rfl, fun _ _ => rfl⟩) trivial))))))))))))))))))))))
  intro _ w17 H17
  clear H16
  refine rest0 rfl (then_normal (wp_ret ?_))
  repeat (first | refine then_ret ?_ | refine block_ret ?_)
  refine bodyPost_ret (v := .bool true) (by simp [results, Try.results5, go_sem, *]) rfl ?_
  exact ⟨rfl, H17.out.2⟩
end Rg
end Go.Proofs.Ytkkippfikfjdpaa
end
section
namespace Go.Proofs.Ytkkippfikfjdpaa
open Go.ChangeShapes Go.WideShapes Go.ChangeAt Go.RowKit
theorem Try.own : ownKnob Try.prog.godebug = none := by kernel_rfl
section
variable {H : Type} {enc : TypeId × Value → H} {w : World} {base : Nat} {sp : Nat → Bool} {held : Bool} {r : Reach} {b0 : Nat} {v : Value} {d : DataW H} {ps : List MemPlace}
end
section
variable {H : Type} {enc : TypeId × Value → H} {P : Program} {w : World} {base : Nat} {spare : Nat → Bool} {held : Bool}
end
end Go.Proofs.Ytkkippfikfjdpaa
end
