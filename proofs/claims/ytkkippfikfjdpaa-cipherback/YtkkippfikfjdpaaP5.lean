/- Texts of the proof, joined. -/
import Derived.Test.YtkkippfikfjdpaaP4
section
namespace Go.Proofs.Ytkkippfikfjdpaa
open Go.RowKit
namespace Rg
set_option maxRecDepth 100000
/-- A sealed text: the stream, the tag behind it. -/
def sl0 (K N P : Nat → Nat) (n : Nat) (M : Nat → Nat) (m : Nat) : Nat → Nat := ct (so K N 1 P) n (mt K N M m (so K N 1 P) n)
theorem sl0_256 (K N P : Nat → Nat) (n : Nat) (M : Nat → Nat) (m : Nat) : ∀ j, sl0 K N P n M m j < 256 := ct_lt (so_256 K N 1 P) (mt_256 K N M m _ n)
theorem seal_eq (K N P M : Nat → Nat) (n m j : Nat) (_ : j < n + 16) : py (szr K N 1 P (fun _ => 0) n) (0 + n) 16 (mt K N M m (szr K N 1 P (fun _ => 0) n) n) j = sl0 K N P n M m j := by
  rw [mt_cg (S' := so K N 1 P) (szr_lt K N 1 P (fun _ => 0) n)]
  unfold py sl0 ct
  by_cases e : j < n
  · rw [if_neg (by omega), if_pos e, szr_lt K N 1 P _ n j e]
  · rw [if_pos (by omega), if_neg e, Nat.zero_add]
theorem call40 : ∀ args w, (callFunc 40 args).run Try.prog w = .ok (.enter 40 args) w := by intro args w; go_simp
theorem call42 : ∀ args w, (callFunc 42 args).run Try.prog w = .ok (.enter 42 args) w := by intro args w; go_simp
set_option maxHeartbeats 2000000 in
set_option maxRecDepth 100000 in
theorem PSeal_ok (K N : Nat → Nat) (gk ok ck gn on cn : Nat) (hck : 32 ≤ ck) (hcn : 12 ≤ cn) (q mo : Pt8) (hq : Pok q) (hmo : Pok mo) (hfmo : ∀ j, mo.f j < 256) (hl : q.n ≤ 1048576) (hm : mo.n ≤ 1048576) (w : World) (hRk : Rs gk ok 32 K w) (hRn : Rs gn on 12 N w) (hRb : q.rs w) (hRm : mo.rs w) :
    Calls Try.prog 18 #[.slice (some ⟨gk, ok, none⟩) 32 ck, .slice (some ⟨gn, on, none⟩) 12 cn, .slice q.p q.n q.cp, .slice mo.p mo.n mo.cp] w fun e w' => Below w.heap.size w w' ∧ ∃ g, e = .returned (.tuple #[.slice (some ⟨g, 0, none⟩) (q.n + 16) (q.n + 16), .int .i64 0]) ∧ w.heap.size ≤ g ∧ g < w'.heap.size ∧ Blk w' g (ints .u8 (sl0 K N q.f q.n mo.f mo.n) (q.n + 16)) := by
  have H0 : Hid (_ ∧ _) := ⟨Mm.nil w, Below.refl w.heap.size w⟩
  have RK : Hid (Rs gk ok 32 K w) := hRk
  have RN : Hid (Rs gn on 12 N w) := hRn
  have RB : Hid (q.rs w) := hRb
  have RM : Hid (mo.rs w) := hRm
  clear hRk hRn hRb hRm
  go_enter Try.func18, Try.ntmps18
  refine wp_seq ?_
  refine walk_seqB 2 [.quiet (.slice none 0 0), .quiet (.int .i64 0)] H0 ?ho1 ?he1
  case ho1 => exact ak (fun _ => ⟨rfl, fun _ _ => rfl⟩) (ak (fun _ => ⟨rfl, fun _ _ => rfl⟩) trivial)
  intro _ w1 H1
  refine rest0 rfl (then_normal (wp_seq (wp_seq ?_)))
  refine walk_seqB 4 [.quiet (.slice (some ⟨gk, ok, none⟩) 32 ck), .quiet (.slice (some ⟨gn, on, none⟩) 12 cn), .call (.bool true), .quiet (.bool false)] H1 ?ho2 ?he2
  case ho2 => exact ak (fun _ => ⟨rfl, fun _ _ => rfl⟩) (ak (fun _ => ⟨rfl, fun _ _ => rfl⟩) (ak (fun γ => ⟨rfl, fun w' h => ⟨27, #[.slice (some ⟨gk, ok, none⟩) 32 ck, .slice (some ⟨gn, on, none⟩) 12 cn], exec_call rfl call27 rfl (mpn rfl), fit_yes _ _ 32 12 _ _ rfl rfl w'⟩⟩) (ak (by refine fun γ => ⟨rfl, fun w' h => ?_⟩; clear h; go_simp) trivial)))
  intro _ w2 H2
  clear H1
  refine rest0 rfl (then_normal (wp_cond_false rfl ?_))
  refine wp_skip (then_normal ?_)
  refine wp_seq (wp_seq ?_)
  refine walk_seqB 8 [.quiet (.slice q.p q.n q.cp), .quiet (.int .i64 ((q.n : Nat) : Int)), .quiet (.bool false), .quiet (.bool false), .quiet (.slice mo.p mo.n mo.cp), .quiet (.int .i64 ((mo.n : Nat) : Int)), .quiet (.bool false), .quiet (.bool false)] H2 ?ho3 ?he3
  case ho3 => exact ak (fun _ => ⟨rfl, fun _ _ => rfl⟩) (ak (by refine fun γ => ⟨rfl, fun w' h => ?_⟩; clear h; go_simp) (ak (by refine fun γ => ⟨rfl, fun w' h => ?_⟩; clear h; go_simp <;> omega) (ak (fun _ => ⟨rfl, fun _ _ => rfl⟩) (ak (fun _ => ⟨rfl, fun _ _ => rfl⟩) (ak (by refine fun γ => ⟨rfl, fun w' h => ?_⟩; clear h; go_simp) (ak (by refine fun γ => ⟨rfl, fun w' h => ?_⟩; clear h; go_simp <;> omega) (ak (by refine fun γ => ⟨rfl, fun w' h => ?_⟩; clear h; go_simp) trivial)))))))
  intro _ w3 H3
  clear H2
  refine rest0 rfl (then_normal (wp_cond_false rfl ?_))
  refine wp_skip (then_normal (wp_seq ?_))
  refine walk_seqB 3 [.quiet (.slice q.p q.n q.cp), .quiet (.int .i64 ((q.n : Nat) : Int)), .quiet (.int .i64 ((q.n + 16 : Nat) : Int))] H3 ?ho4 ?he4
  case ho4 => exact ak (fun _ => ⟨rfl, fun _ _ => rfl⟩) (ak (by refine fun γ => ⟨rfl, fun w' h => ?_⟩; clear h; go_simp) (ak (by refine fun γ => ⟨rfl, fun w' h => ?_⟩; clear h; go_simp; rw [IntKind.wrap_i64]; omega) trivial))
  intro _ w4 H4
  clear H3
  refine rest_at (l := [3, 4]) rfl ?_
  refine rest_set (d := 28) (v := .slice (some ⟨w4.heap.size, 0, none⟩) (q.n + 16) (q.n + 16)) (w' := (w4.alloc (.cells (ints .u8 (fun _ => 0) (q.n + 16)).toArray 5))) rfl rfl rfl (ex_mkB (m := (q.n + 16)) (by omega) rfl rfl rfl) ?_
  simp only [Act.put, sa, sz, ss]
  have o_γs5 : Hid (w.heap.size ≤ w4.heap.size) := H4.out.2.size
  have H5 : Hid (Mm (w4.alloc (.cells (ints .u8 (fun _ => 0) (q.n + 16)).toArray 5)) ((w4.heap.size, ints .u8 (fun _ => 0) (q.n + 16)) :: []) ∧ Below w.heap.size w (w4.alloc (.cells (ints .u8 (fun _ => 0) (q.n + 16)).toArray 5))) := ⟨H4.out.1.alloc _ 5 rfl, H4.out.2.alloc H4.out.2.size _⟩
  clear H4
  generalize hgw : (w4.alloc (.cells (ints .u8 (fun _ => 0) (q.n + 16)).toArray 5)) = w5 at H5 ⊢
  clear hgw
  generalize w4.heap.size = γs5 at o_γs5 H5 ⊢
  refine rest_set (d := 10) (v := .slice (some ⟨γs5, 0, none⟩) (q.n + 16) (q.n + 16)) (w' := w5) rfl rfl rfl rfl ?_
  simp only [Act.put, sa, sz, ss]
  refine rest_nil (then_normal (wp_seq ?_))
  refine walk_seqB 5 [.quiet (.slice (some ⟨γs5, 0, none⟩) (q.n + 16) (q.n + 16)), .quiet (.slice q.p q.n q.cp), .quiet (.int .i64 ((q.n : Nat) : Int)), .quiet (.slice (some ⟨γs5, 0, none⟩) q.n (q.n + 16)), .quiet (.slice (some ⟨γs5, 0, none⟩) q.n (q.n + 16))] H5 ?ho5 ?he5
  case ho5 => exact ak (fun _ => ⟨rfl, fun _ _ => rfl⟩) (ak (fun _ => ⟨rfl, fun _ _ => rfl⟩) (ak (by refine fun γ => ⟨rfl, fun w' h => ?_⟩; clear h; go_simp) (ak (fun γ => ⟨rfl, fun w' _ => ex_slH22 (l := q.n) rfl rfl rfl (by omega)⟩) (ak (fun _ => ⟨rfl, fun _ _ => rfl⟩) trivial))))
  intro _ w6 H6
  clear H5
  refine rest0 rfl (then_normal (wp_seq ?_))
  refine (walk_seq) 5 [.quiet (.slice (some ⟨γs5, 0, none⟩) q.n (q.n + 16)), .quiet (.slice (some ⟨gk, ok, none⟩) 32 ck), .quiet (.slice (some ⟨gn, on, none⟩) 12 cn), .call (.agg (ints .u32 (k3 K N 1 3) 16).toArray), .quiet (.slice q.p q.n q.cp)] (fun u' => Mm u' [(γs5, ints .u8 (fun _ => 0) (q.n + 16))] ∧ (Rs gk ok 32 K u' ∧ Rs gn on 12 N u' ∧ q.rs u' ∧ mo.rs u')) ?pre6 ?F6 ?hpre6 (fun γ => ?hF6) (by kernel_rfl) ?hL6 ?hS6 ?ho6 ?he6
  case hpre6 => simp only [tk, tz]; rfl
  case hF6 => simp only [fill, Kind.val, Act.put, sa, sz, ss]; rfl
  case hL6 => exact trivial
  case hS6 => exact fun w' hb => ⟨H6.out.1.below hb, ⟨RK.out.below (H6.out.2.trans (hb.mono H6.out.2.size)), RN.out.below (H6.out.2.trans (hb.mono H6.out.2.size)), RB.out.below (H6.out.2.trans (hb.mono H6.out.2.size)), RM.out.below (H6.out.2.trans (hb.mono H6.out.2.size))⟩⟩
  case ho6 =>
    refine ak (fun _ => ⟨rfl, fun _ _ => rfl⟩) ?_
    refine ak (fun _ => ⟨rfl, fun _ _ => rfl⟩) ?_
    refine ak (fun _ => ⟨rfl, fun _ _ => rfl⟩) ?_
    refine ak (fun γ => ⟨rfl, fun w' hX => ⟨28, #[.slice (some ⟨gk, ok, none⟩) 32 ck, .slice (some ⟨gn, on, none⟩) 12 cn, .int .u32 1], exec_call rfl call28 rfl (mpn rfl), begun_any K N gk ok ck gn on cn 1 hck hcn w' hX.2.1 hX.2.2.1⟩⟩) ?_
    refine ak (fun _ => ⟨rfl, fun _ _ => rfl⟩) ?_
    exact trivial
  intro γ w7 l hM hl
  have H7 := keepB H6 hM.below
  clear hM hl l H6 γ
  refine rest_at (l := [5]) rfl ?_
  refine rest_enter (d := 38) (R := fun vv w' => vv = .tuple #[] ∧ Mm w' [(γs5, ints .u8 (szr K N 1 q.f (fun _ => 0) q.n) (q.n + 16))] ∧ Kp γs5 w7 w') rfl rfl rfl (exec_call (args := #[.slice (some ⟨γs5, 0, none⟩) q.n (q.n + 16), .agg (ints .u32 (k3 K N 1 3) 16).toArray, .slice q.p q.n q.cp]) rfl call32 rfl (mpn rfl)) (Calls.mono (pstream_any K N (fun _ => 0) 1 γs5 (q.n + 16) q (by decide) (hq) (fun hn => by have h1 := RB.out.lt hn; have h2 := o_γs5.out; omega) (by omega) (by omega) w7 (H7.out.1.one 0 rfl) (RB.out.below H7.out.2)) (fun e w2 hh => ⟨_, hh.1, rfl, hh.2⟩)) ?_
  rintro _ w8 ⟨rfl, hn, hp⟩
  have H8 : Hid (Mm w8 [(γs5, ints .u8 (szr K N 1 q.f (fun _ => 0) q.n) (q.n + 16))] ∧ Below w.heap.size w w8) := ⟨H7.out.1.change 0 rfl hp hn, Below.kp H7.out.2 hp o_γs5.out H7.out.2.size⟩
  clear hn hp H7
  simp only [Act.put, sa, sz, ss]
  refine rest_nil (then_normal (wp_seq ?_))
  refine (walk_seq) 7 [.quiet (.slice (some ⟨gk, ok, none⟩) 32 ck), .quiet (.slice (some ⟨gn, on, none⟩) 12 cn), .quiet (.slice (some ⟨γs5, 0, none⟩) q.n (q.n + 16)), .quiet (.slice mo.p mo.n mo.cp), .call (.agg (ints .u8 (mt K N mo.f mo.n (szr K N 1 q.f (fun _ => 0) q.n) q.n) 16).toArray), .made (ints .u8 (fun _ => 0) 16) 65, .laid 5 (ints .u8 (fun _ => 0) 16) (ints .u8 (mt K N mo.f mo.n (szr K N 1 q.f (fun _ => 0) q.n) q.n) 16)] (fun u' => Mm u' [(γs5, ints .u8 (szr K N 1 q.f (fun _ => 0) q.n) (q.n + 16))] ∧ (Rs gk ok 32 K u' ∧ Rs gn on 12 N u' ∧ q.rs u' ∧ mo.rs u')) ?pre7 ?F7 ?hpre7 (fun γ => ?hF7) (by kernel_rfl) ?hL7 ?hS7 ?ho7 ?he7
  case hpre7 => simp only [tk, tz]; rfl
  case hF7 => simp only [fill, Kind.val, Act.put, sa, sz, ss]; rfl
  case hL7 => exact ⟨⟨_, rfl⟩, trivial⟩
  case hS7 => exact fun w' hb => ⟨H8.out.1.below hb, ⟨RK.out.below (H8.out.2.trans (hb.mono H8.out.2.size)), RN.out.below (H8.out.2.trans (hb.mono H8.out.2.size)), RB.out.below (H8.out.2.trans (hb.mono H8.out.2.size)), RM.out.below (H8.out.2.trans (hb.mono H8.out.2.size))⟩⟩
  case ho7 =>
    refine ak (fun _ => ⟨rfl, fun _ _ => rfl⟩) ?_
    refine ak (fun _ => ⟨rfl, fun _ _ => rfl⟩) ?_
    refine ak (fun _ => ⟨rfl, fun _ _ => rfl⟩) ?_
    refine ak (fun _ => ⟨rfl, fun _ _ => rfl⟩) ?_
    refine ak (fun γ => ⟨rfl, fun w' hX => have h := hX.1; ⟨40, #[.slice (some ⟨gk, ok, none⟩) 32 ck, .slice (some ⟨gn, on, none⟩) 12 cn, .slice (some ⟨γs5, 0, none⟩) q.n (q.n + 16), .slice mo.p mo.n mo.cp], exec_call rfl call40 rfl (mpn rfl), sealTag_any K N gk ok ck gn on cn hck hcn (pc γs5 q.n (q.n + 16) (szr K N 1 q.f (fun _ => 0) q.n)) mo (pc_ok _ _ 16 _) hmo (szr_256 (fun _ => by decide)) hfmo (by show q.n ≤ 1048592; omega) (by omega) w' hX.2.1 hX.2.2.1 (h.rs 0 rfl (Nat.le_add_right _ _)) hX.2.2.2.2⟩⟩) ?_
    refine ak (fun γ => ⟨rfl, fun w' => ex_mk65 rfl⟩) ?_
    refine ak (fun γ => ⟨rfl, rfl, (ints_len _ _ _).trans (ints_len _ _ _).symm, fun w' h => ex_laidI h Try.sizeOf65 rfl rfl rfl⟩) ?_
    exact trivial
  intro γ w9 l hM hl
  have H9 : Hid (Mm w9 [(γ 5, ints .u8 (mt K N mo.f mo.n (szr K N 1 q.f (fun _ => 0) q.n) q.n) 16), (γs5, ints .u8 (szr K N 1 q.f (fun _ => 0) q.n) (q.n + 16))] ∧ _) := growB H8 hM (Nat.le_refl _) hl [5] rfl (by decide)
  have o7_5 := ownB H8 hM (Nat.le_refl _) hl (i := 5) rfl
  clear hM hl l H8
  generalize γ 5 = γ7_5 at H9 o7_5 ⊢
  clear γ
  refine rest0 rfl (then_normal (wp_seq ?_))
  refine walk_anyB 5 [.quiet (.slice (some ⟨γs5, 0, none⟩) (q.n + 16) (q.n + 16)), .quiet (.slice q.p q.n q.cp), .quiet (.int .i64 ((q.n : Nat) : Int)), .quiet (.slice (some ⟨γs5, (0 + q.n), none⟩) ((q.n + 16) - q.n) ((q.n + 16) - q.n)), .quiet (.slice (some ⟨γ7_5, 0, none⟩) 16 16)] H9 ?ho8 ?he8
  case ho8 => exact ak (fun _ => ⟨rfl, fun _ _ => rfl⟩) (ak (fun _ => ⟨rfl, fun _ _ => rfl⟩) (ak (by refine fun γ => ⟨rfl, fun w' h => ?_⟩; clear h; go_simp) (ak (fun γ => ⟨rfl, fun w' _ => ex_slT (l := q.n) rfl rfl rfl (by omega) (by omega)⟩) (ak (by refine fun γ => ⟨rfl, fun w' h => ?_⟩; clear h; go_simp) trivial))))
  intro _ w10 H10
  clear H9
  refine rest_at (l := [5]) rfl ?_
  refine rest_set (d := 49) (v := .int .i64 ((16 : Nat) : Int)) (w' := w10.setCells γs5 (0 + q.n) (ints .u8 (mt K N mo.f mo.n (szr K N 1 q.f (fun _ => 0) q.n) q.n) 16)) rfl rfl rfl (ex_copyR (mm := 16) H10.out.1 1 rfl ((H10.out.1.rs 0 rfl (Nat.le_refl _)).at_) (show 16 = min 16 (q.n + 16 - q.n) by omega) (by omega) rfl rfl rfl) ?_
  simp only [Act.put, sa, sz, ss]
  have H11 : Hid (Mm (w10.setCells γs5 (0 + q.n) (ints .u8 (mt K N mo.f mo.n (szr K N 1 q.f (fun _ => 0) q.n) q.n) 16)) [(γ7_5, ints .u8 (mt K N mo.f mo.n (szr K N 1 q.f (fun _ => 0) q.n) q.n) 16), (γs5, ints .u8 (py (szr K N 1 q.f (fun _ => 0) q.n) (0 + q.n) 16 (mt K N mo.f mo.n (szr K N 1 q.f (fun _ => 0) q.n) q.n)) (q.n + 16))] ∧ Below w.heap.size w (w10.setCells γs5 (0 + q.n) (ints .u8 (mt K N mo.f mo.n (szr K N 1 q.f (fun _ => 0) q.n) q.n) 16))) := ⟨by
    have h := H10.out.1.put 1 (off := (0 + q.n)) (vs := ints .u8 (mt K N mo.f mo.n (szr K N 1 q.f (fun _ => 0) q.n) q.n) 16) rfl (by rw [ints_len, ints_len]; omega)
    rw [ints_part _ _ (by omega)] at h
    exact h, below_setCells _ o_γs5.out _ _ _ H10.out.2⟩
  clear H10
  generalize hgw : World.setCells _ _ _ _ = w11 at H11 ⊢
  clear hgw
  refine rest_nil (then_normal (wp_seq ?_))
  refine walk_seqB 3 [.quiet (.slice (some ⟨γs5, 0, none⟩) (q.n + 16) (q.n + 16)), .quiet (.slice (some ⟨γs5, 0, none⟩) (q.n + 16) (q.n + 16)), .quiet (.int .i64 0)] H11 ?ho9 ?he9
  case ho9 => exact ak (fun _ => ⟨rfl, fun _ _ => rfl⟩) (ak (fun _ => ⟨rfl, fun _ _ => rfl⟩) (ak (fun _ => ⟨rfl, fun _ _ => rfl⟩) trivial))
  intro _ w12 H12
  clear H11
  refine rest0 rfl (then_normal (wp_ret ?_))
  repeat (first | refine then_ret ?_ | refine block_ret ?_)
  refine bodyPost_ret (v := .tuple #[.slice (some ⟨γs5, 0, none⟩) (q.n + 16) (q.n + 16), .int .i64 0]) (by simp [results, Try.results18, go_sem, *]) rfl ?_
  have hM := H12.out.1.one 1 rfl
  rw [ints_congr (seal_eq K N q.f mo.f q.n mo.n)] at hM
  exact ⟨H12.out.2, _, rfl, o_γs5.out, (hM.blk _ (List.mem_singleton.2 rfl)).1, (hM.blk _ (List.mem_singleton.2 rfl)).2⟩
theorem Rs.head {g o n m : Nat} {f : Nat → Nat} {w : World} (h : Rs g o n f w) (hm : m ≤ n) : Rs g o m f w := ⟨fun h0 => h.lt (by omega), fun i hi => h.at_ i (by omega)⟩
set_option maxHeartbeats 2000000 in
set_option maxRecDepth 100000 in
theorem POpen_bad (K N : Nat → Nat) (gk ok ck gn on cn : Nat) (hck : 32 ≤ ck) (hcn : 12 ≤ cn) (P : Nat → Nat) (gb ob n cb : Nat) (mo : Pt8) (hmo : Pok mo) (hP : ∀ j, P j < 256) (hfmo : ∀ j, mo.f j < 256) (h16 : 16 ≤ n) (hcb : n ≤ cb) (hl : n ≤ 1048592) (hm : mo.n ≤ 1048576) (hT : ¬ (∀ j, j < 16 → mt K N mo.f mo.n P (n - 16) j = P ((n - 16) + j))) (w : World) (hRk : Rs gk ok 32 K w) (hRn : Rs gn on 12 N w) (hRb : Rs gb ob n P w) (hRm : mo.rs w) :
    Calls Try.prog 20 #[.slice (some ⟨gk, ok, none⟩) 32 ck, .slice (some ⟨gn, on, none⟩) 12 cn, .slice (some ⟨gb, ob, none⟩) n cb, .slice mo.p mo.n mo.cp] w fun e w' => e = .returned (.tuple #[.slice none 0 0, .int .i64 200]) ∧ Below w.heap.size w w' := by
  have H0 : Hid (_ ∧ _) := ⟨Mm.nil w, Below.refl w.heap.size w⟩
  have RK : Hid (Rs gk ok 32 K w) := hRk
  have RN : Hid (Rs gn on 12 N w) := hRn
  have RB : Hid (Rs gb ob n P w) := hRb
  have RM : Hid (mo.rs w) := hRm
  clear hRk hRn hRb hRm
  go_enter Try.func20, Try.ntmps20
  refine wp_seq ?_
  refine walk_seqB 2 [.quiet (.slice none 0 0), .quiet (.int .i64 0)] H0 ?ho1 ?he1
  case ho1 => exact ak (fun _ => ⟨rfl, fun _ _ => rfl⟩) (ak (fun _ => ⟨rfl, fun _ _ => rfl⟩) trivial)
  intro _ w1 H1
  refine rest0 rfl (then_normal (wp_seq (wp_seq ?_)))
  refine walk_seqB 4 [.quiet (.slice (some ⟨gk, ok, none⟩) 32 ck), .quiet (.slice (some ⟨gn, on, none⟩) 12 cn), .call (.bool true), .quiet (.bool false)] H1 ?ho2 ?he2
  case ho2 => exact ak (fun _ => ⟨rfl, fun _ _ => rfl⟩) (ak (fun _ => ⟨rfl, fun _ _ => rfl⟩) (ak (fun γ => ⟨rfl, fun w' h => ⟨27, #[.slice (some ⟨gk, ok, none⟩) 32 ck, .slice (some ⟨gn, on, none⟩) 12 cn], exec_call rfl call27 rfl (mpn rfl), fit_yes _ _ 32 12 _ _ rfl rfl w'⟩⟩) (ak (by refine fun γ => ⟨rfl, fun w' h => ?_⟩; clear h; go_simp) trivial)))
  intro _ w2 H2
  clear H1
  refine rest0 rfl (then_normal (wp_cond_false rfl ?_))
  refine wp_skip (then_normal ?_)
  refine wp_seq (wp_seq ?_)
  refine walk_seqB 8 [.quiet (.slice (some ⟨gb, ob, none⟩) n cb), .quiet (.int .i64 ((n : Nat) : Int)), .quiet (.bool false), .quiet (.bool false), .quiet (.slice mo.p mo.n mo.cp), .quiet (.int .i64 ((mo.n : Nat) : Int)), .quiet (.bool false), .quiet (.bool false)] H2 ?ho3 ?he3
  case ho3 => exact ak (fun _ => ⟨rfl, fun _ _ => rfl⟩) (ak (by refine fun γ => ⟨rfl, fun w' h => ?_⟩; clear h; go_simp) (ak (by refine fun γ => ⟨rfl, fun w' h => ?_⟩; clear h; go_simp <;> omega) (ak (fun _ => ⟨rfl, fun _ _ => rfl⟩) (ak (fun _ => ⟨rfl, fun _ _ => rfl⟩) (ak (by refine fun γ => ⟨rfl, fun w' h => ?_⟩; clear h; go_simp) (ak (by refine fun γ => ⟨rfl, fun w' h => ?_⟩; clear h; go_simp <;> omega) (ak (by refine fun γ => ⟨rfl, fun w' h => ?_⟩; clear h; go_simp) trivial)))))))
  intro _ w3 H3
  clear H2
  refine rest0 rfl (then_normal (wp_cond_false rfl ?_))
  refine wp_skip (then_normal ?_)
  refine wp_seq (wp_seq ?_)
  refine walk_seqB 3 [.quiet (.slice (some ⟨gb, ob, none⟩) n cb), .quiet (.int .i64 ((n : Nat) : Int)), .quiet (.bool false)] H3 ?ho4 ?he4
  case ho4 => exact ak (fun _ => ⟨rfl, fun _ _ => rfl⟩) (ak (by refine fun γ => ⟨rfl, fun w' h => ?_⟩; clear h; go_simp) (ak (by refine fun γ => ⟨rfl, fun w' h => ?_⟩; clear h; go_simp <;> omega) trivial))
  intro _ w4 H4
  clear H3
  refine rest0 rfl (then_normal (wp_cond_false rfl ?_))
  refine wp_skip (then_normal (wp_seq ?_))
  refine walk_seqB 4 [.quiet (.slice (some ⟨gb, ob, none⟩) n cb), .quiet (.int .i64 ((n : Nat) : Int)), .quiet (.int .i64 ((n - 16 : Nat) : Int)), .quiet (.int .i64 ((n - 16 : Nat) : Int))] H4 ?ho5 ?he5
  case ho5 => exact ak (fun _ => ⟨rfl, fun _ _ => rfl⟩) (ak (by refine fun γ => ⟨rfl, fun w' h => ?_⟩; clear h; go_simp) (ak (by refine fun γ => ⟨rfl, fun w' h => ?_⟩; clear h; go_simp; rw [IntKind.wrap_i64]; omega) (ak (fun _ => ⟨rfl, fun _ _ => rfl⟩) trivial)))
  intro _ w5 H5
  clear H4
  refine rest0 rfl (then_normal (wp_seq ?_))
  refine walk_seqB 4 [.quiet (.slice (some ⟨gb, ob, none⟩) n cb), .quiet (.int .i64 ((n - 16 : Nat) : Int)), .quiet (.slice (some ⟨gb, ob, none⟩) (n - 16) cb), .quiet (.slice (some ⟨gb, ob, none⟩) (n - 16) cb)] H5 ?ho6 ?he6
  case ho6 => exact ak (fun _ => ⟨rfl, fun _ _ => rfl⟩) (ak (fun _ => ⟨rfl, fun _ _ => rfl⟩) (ak (fun γ => ⟨rfl, fun w' _ => ex_slH22 (l := n - 16) rfl rfl rfl (by omega)⟩) (ak (fun _ => ⟨rfl, fun _ _ => rfl⟩) trivial)))
  intro _ w6 H6
  clear H5
  refine rest0 rfl (then_normal (wp_seq (wp_seq ?_)))
  refine (walk_any) (by kernel_rfl) 12 [.quiet (.slice (some ⟨gk, ok, none⟩) 32 ck), .quiet (.slice (some ⟨gn, on, none⟩) 12 cn), .quiet (.slice (some ⟨gb, ob, none⟩) (n - 16) cb), .quiet (.slice mo.p mo.n mo.cp), .call (.agg (ints .u8 (mt K N mo.f mo.n P (n - 16)) 16).toArray), .quiet (.slice (some ⟨gb, ob, none⟩) n cb), .quiet (.int .i64 ((n - 16 : Nat) : Int)), .quiet (.slice (some ⟨gb, (ob + (n - 16)), none⟩) (n - (n - 16)) (cb - (n - 16))), .quiet (PT gb (ob + (n - 16))), .quiet (.agg (ints .u8 (fun j => P ((n - 16) + j)) 16).toArray), .call (.bool false), .quiet (.bool true)] (fun u' => Mm u' [] ∧ (Rs gk ok 32 K u' ∧ Rs gn on 12 N u' ∧ Rs gb ob n P u' ∧ mo.rs u')) ?pre7 ?F7 ?hpre7 (fun γ => ?hF7) (by kernel_rfl) ?hL7 ?hS7 ?ho7 ?he7
  case hpre7 => simp only [tk, tz]; rfl
  case hF7 => simp only [fill, Kind.val, Act.put, sa, sz, ss]; rfl
  case hL7 => exact trivial
  case hS7 => exact fun w' hb => ⟨H6.out.1.below hb, ⟨RK.out.below (H6.out.2.trans (hb.mono H6.out.2.size)), RN.out.below (H6.out.2.trans (hb.mono H6.out.2.size)), RB.out.below (H6.out.2.trans (hb.mono H6.out.2.size)), RM.out.below (H6.out.2.trans (hb.mono H6.out.2.size))⟩⟩
  case ho7 =>
    refine ak (fun _ => ⟨rfl, fun _ _ => rfl⟩) ?_
    refine ak (fun _ => ⟨rfl, fun _ _ => rfl⟩) ?_
    refine ak (fun _ => ⟨rfl, fun _ _ => rfl⟩) ?_
    refine ak (fun _ => ⟨rfl, fun _ _ => rfl⟩) ?_
    refine ak (fun γ => ⟨rfl, fun w' hX => ⟨40, #[.slice (some ⟨gk, ok, none⟩) 32 ck, .slice (some ⟨gn, on, none⟩) 12 cn, .slice (some ⟨gb, ob, none⟩) (n - 16) cb, .slice mo.p mo.n mo.cp], exec_call rfl call40 rfl (mpn rfl), sealTag_any K N gk ok ck gn on cn hck hcn (pa gb ob (n - 16) cb P) mo (pa_ok gb ob P (by omega)) hmo hP hfmo (by show n - 16 ≤ 1048592; omega) (by omega) w' hX.2.1 hX.2.2.1 (Rs.head hX.2.2.2.1 (Nat.sub_le _ _)) hX.2.2.2.2⟩⟩) ?_
    refine ak (fun _ => ⟨rfl, fun _ _ => rfl⟩) ?_
    refine ak (fun _ => ⟨rfl, fun _ _ => rfl⟩) ?_
    refine ak (fun γ => ⟨rfl, fun w' _ => ex_slT (l := n - 16) rfl rfl rfl (by omega) (by omega)⟩) ?_
    refine ak (fun γ => ⟨rfl, fun w' _ => ex_toArr rfl rfl (by omega)⟩) ?_
    refine ak (fun γ => ⟨rfl, fun w' hX => ex_ldA (hX.2.2.2.1.part (n - 16)) (by omega) rfl rfl⟩) ?_
    refine ak (fun γ => ⟨rfl, fun w' hX => ⟨42, #[.agg (ints .u8 (mt K N mo.f mo.n P (n - 16)) 16).toArray, .agg (ints .u8 (fun j => P ((n - 16) + j)) 16).toArray], exec_call rfl call42 rfl (mpn rfl), psame_any _ _ (mt_256 _ _ _ _ _ _) (fun j => hP _) false (by simpa using hT) w'⟩⟩) ?_
    refine ak (by refine fun γ => ⟨rfl, fun w' h => ?_⟩; clear h; go_simp) ?_
    exact trivial
  intro γ w7 l hM hl
  have H7 := keepB H6 hM.below
  clear hM hl l H6 γ
  refine rest0 rfl (then_normal (wp_cond_true rfl (wp_seq ?_)))
  refine walk_seqB 2 [.quiet (.slice none 0 0), .quiet (.int .i64 200)] H7 ?ho8 ?he8
  case ho8 => exact ak (fun _ => ⟨rfl, fun _ _ => rfl⟩) (ak (fun _ => ⟨rfl, fun _ _ => rfl⟩) trivial)
  intro _ w8 H8
  clear H7
  refine rest0 rfl (then_normal (wp_ret ?_))
  repeat (first | refine then_ret ?_ | refine block_ret ?_)
  refine bodyPost_ret (v := .tuple #[.slice none 0 0, .int .i64 200]) (by simp [results, Try.results20, go_sem, *]) rfl ?_
  exact ⟨rfl, H8.out.2⟩
set_option maxHeartbeats 2000000 in
set_option maxRecDepth 100000 in
theorem POpen_ok (K N : Nat → Nat) (gk ok ck gn on cn : Nat) (hck : 32 ≤ ck) (hcn : 12 ≤ cn) (P : Nat → Nat) (gb ob n cb : Nat) (mo : Pt8) (hmo : Pok mo) (hP : ∀ j, P j < 256) (hfmo : ∀ j, mo.f j < 256) (h16 : 16 ≤ n) (hcb : n ≤ cb) (hl : n ≤ 1048592) (hm : mo.n ≤ 1048576) (hT : ∀ j, j < 16 → mt K N mo.f mo.n P (n - 16) j = P ((n - 16) + j)) (w : World) (hRk : Rs gk ok 32 K w) (hRn : Rs gn on 12 N w) (hRb : Rs gb ob n P w) (hRm : mo.rs w) :
    Calls Try.prog 20 #[.slice (some ⟨gk, ok, none⟩) 32 ck, .slice (some ⟨gn, on, none⟩) 12 cn, .slice (some ⟨gb, ob, none⟩) n cb, .slice mo.p mo.n mo.cp] w fun e w' => Below w.heap.size w w' ∧ ∃ g, e = .returned (.tuple #[.slice (some ⟨g, 0, none⟩) (n - 16) (n - 16), .int .i64 0]) ∧ w.heap.size ≤ g ∧ g < w'.heap.size ∧ Blk w' g (ints .u8 (so K N 1 P) (n - 16)) := by
  have H0 : Hid (_ ∧ _) := ⟨Mm.nil w, Below.refl w.heap.size w⟩
  have RK : Hid (Rs gk ok 32 K w) := hRk
  have RN : Hid (Rs gn on 12 N w) := hRn
  have RB : Hid (Rs gb ob n P w) := hRb
  have RM : Hid (mo.rs w) := hRm
  clear hRk hRn hRb hRm
  go_enter Try.func20, Try.ntmps20
  refine wp_seq ?_
  refine walk_seqB 2 [.quiet (.slice none 0 0), .quiet (.int .i64 0)] H0 ?ho1 ?he1
  case ho1 => exact ak (fun _ => ⟨rfl, fun _ _ => rfl⟩) (ak (fun _ => ⟨rfl, fun _ _ => rfl⟩) trivial)
  intro _ w1 H1
  refine rest0 rfl (then_normal (wp_seq (wp_seq ?_)))
  refine walk_seqB 4 [.quiet (.slice (some ⟨gk, ok, none⟩) 32 ck), .quiet (.slice (some ⟨gn, on, none⟩) 12 cn), .call (.bool true), .quiet (.bool false)] H1 ?ho2 ?he2
  case ho2 => exact ak (fun _ => ⟨rfl, fun _ _ => rfl⟩) (ak (fun _ => ⟨rfl, fun _ _ => rfl⟩) (ak (fun γ => ⟨rfl, fun w' h => ⟨27, #[.slice (some ⟨gk, ok, none⟩) 32 ck, .slice (some ⟨gn, on, none⟩) 12 cn], exec_call rfl call27 rfl (mpn rfl), fit_yes _ _ 32 12 _ _ rfl rfl w'⟩⟩) (ak (by refine fun γ => ⟨rfl, fun w' h => ?_⟩; clear h; go_simp) trivial)))
  intro _ w2 H2
  clear H1
  refine rest0 rfl (then_normal (wp_cond_false rfl ?_))
  refine wp_skip (then_normal ?_)
  refine wp_seq (wp_seq ?_)
  refine walk_seqB 8 [.quiet (.slice (some ⟨gb, ob, none⟩) n cb), .quiet (.int .i64 ((n : Nat) : Int)), .quiet (.bool false), .quiet (.bool false), .quiet (.slice mo.p mo.n mo.cp), .quiet (.int .i64 ((mo.n : Nat) : Int)), .quiet (.bool false), .quiet (.bool false)] H2 ?ho3 ?he3
  case ho3 => exact ak (fun _ => ⟨rfl, fun _ _ => rfl⟩) (ak (by refine fun γ => ⟨rfl, fun w' h => ?_⟩; clear h; go_simp) (ak (by refine fun γ => ⟨rfl, fun w' h => ?_⟩; clear h; go_simp <;> omega) (ak (fun _ => ⟨rfl, fun _ _ => rfl⟩) (ak (fun _ => ⟨rfl, fun _ _ => rfl⟩) (ak (by refine fun γ => ⟨rfl, fun w' h => ?_⟩; clear h; go_simp) (ak (by refine fun γ => ⟨rfl, fun w' h => ?_⟩; clear h; go_simp <;> omega) (ak (by refine fun γ => ⟨rfl, fun w' h => ?_⟩; clear h; go_simp) trivial)))))))
  intro _ w3 H3
  clear H2
  refine rest0 rfl (then_normal (wp_cond_false rfl ?_))
  refine wp_skip (then_normal ?_)
  refine wp_seq (wp_seq ?_)
  refine walk_seqB 3 [.quiet (.slice (some ⟨gb, ob, none⟩) n cb), .quiet (.int .i64 ((n : Nat) : Int)), .quiet (.bool false)] H3 ?ho4 ?he4
  case ho4 => exact ak (fun _ => ⟨rfl, fun _ _ => rfl⟩) (ak (by refine fun γ => ⟨rfl, fun w' h => ?_⟩; clear h; go_simp) (ak (by refine fun γ => ⟨rfl, fun w' h => ?_⟩; clear h; go_simp <;> omega) trivial))
  intro _ w4 H4
  clear H3
  refine rest0 rfl (then_normal (wp_cond_false rfl ?_))
  refine wp_skip (then_normal (wp_seq ?_))
  refine walk_seqB 4 [.quiet (.slice (some ⟨gb, ob, none⟩) n cb), .quiet (.int .i64 ((n : Nat) : Int)), .quiet (.int .i64 ((n - 16 : Nat) : Int)), .quiet (.int .i64 ((n - 16 : Nat) : Int))] H4 ?ho5 ?he5
  case ho5 => exact ak (fun _ => ⟨rfl, fun _ _ => rfl⟩) (ak (by refine fun γ => ⟨rfl, fun w' h => ?_⟩; clear h; go_simp) (ak (by refine fun γ => ⟨rfl, fun w' h => ?_⟩; clear h; go_simp; rw [IntKind.wrap_i64]; omega) (ak (fun _ => ⟨rfl, fun _ _ => rfl⟩) trivial)))
  intro _ w5 H5
  clear H4
  refine rest0 rfl (then_normal (wp_seq ?_))
  refine walk_seqB 4 [.quiet (.slice (some ⟨gb, ob, none⟩) n cb), .quiet (.int .i64 ((n - 16 : Nat) : Int)), .quiet (.slice (some ⟨gb, ob, none⟩) (n - 16) cb), .quiet (.slice (some ⟨gb, ob, none⟩) (n - 16) cb)] H5 ?ho6 ?he6
  case ho6 => exact ak (fun _ => ⟨rfl, fun _ _ => rfl⟩) (ak (fun _ => ⟨rfl, fun _ _ => rfl⟩) (ak (fun γ => ⟨rfl, fun w' _ => ex_slH22 (l := n - 16) rfl rfl rfl (by omega)⟩) (ak (fun _ => ⟨rfl, fun _ _ => rfl⟩) trivial)))
  intro _ w6 H6
  clear H5
  refine rest0 rfl (then_normal (wp_seq (wp_seq ?_)))
  refine (walk_any) (by kernel_rfl) 12 [.quiet (.slice (some ⟨gk, ok, none⟩) 32 ck), .quiet (.slice (some ⟨gn, on, none⟩) 12 cn), .quiet (.slice (some ⟨gb, ob, none⟩) (n - 16) cb), .quiet (.slice mo.p mo.n mo.cp), .call (.agg (ints .u8 (mt K N mo.f mo.n P (n - 16)) 16).toArray), .quiet (.slice (some ⟨gb, ob, none⟩) n cb), .quiet (.int .i64 ((n - 16 : Nat) : Int)), .quiet (.slice (some ⟨gb, (ob + (n - 16)), none⟩) (n - (n - 16)) (cb - (n - 16))), .quiet (PT gb (ob + (n - 16))), .quiet (.agg (ints .u8 (fun j => P ((n - 16) + j)) 16).toArray), .call (.bool true), .quiet (.bool false)] (fun u' => Mm u' [] ∧ (Rs gk ok 32 K u' ∧ Rs gn on 12 N u' ∧ Rs gb ob n P u' ∧ mo.rs u')) ?pre7 ?F7 ?hpre7 (fun γ => ?hF7) (by kernel_rfl) ?hL7 ?hS7 ?ho7 ?he7
  case hpre7 => simp only [tk, tz]; rfl
  case hF7 => simp only [fill, Kind.val, Act.put, sa, sz, ss]; rfl
  case hL7 => exact trivial
  case hS7 => exact fun w' hb => ⟨H6.out.1.below hb, ⟨RK.out.below (H6.out.2.trans (hb.mono H6.out.2.size)), RN.out.below (H6.out.2.trans (hb.mono H6.out.2.size)), RB.out.below (H6.out.2.trans (hb.mono H6.out.2.size)), RM.out.below (H6.out.2.trans (hb.mono H6.out.2.size))⟩⟩
  case ho7 =>
    refine ak (fun _ => ⟨rfl, fun _ _ => rfl⟩) ?_
    refine ak (fun _ => ⟨rfl, fun _ _ => rfl⟩) ?_
    refine ak (fun _ => ⟨rfl, fun _ _ => rfl⟩) ?_
    refine ak (fun _ => ⟨rfl, fun _ _ => rfl⟩) ?_
    refine ak (fun γ => ⟨rfl, fun w' hX => ⟨40, #[.slice (some ⟨gk, ok, none⟩) 32 ck, .slice (some ⟨gn, on, none⟩) 12 cn, .slice (some ⟨gb, ob, none⟩) (n - 16) cb, .slice mo.p mo.n mo.cp], exec_call rfl call40 rfl (mpn rfl), sealTag_any K N gk ok ck gn on cn hck hcn (pa gb ob (n - 16) cb P) mo (pa_ok gb ob P (by omega)) hmo hP hfmo (by show n - 16 ≤ 1048592; omega) (by omega) w' hX.2.1 hX.2.2.1 (Rs.head hX.2.2.2.1 (Nat.sub_le _ _)) hX.2.2.2.2⟩⟩) ?_
    refine ak (fun _ => ⟨rfl, fun _ _ => rfl⟩) ?_
    refine ak (fun _ => ⟨rfl, fun _ _ => rfl⟩) ?_
    refine ak (fun γ => ⟨rfl, fun w' _ => ex_slT (l := n - 16) rfl rfl rfl (by omega) (by omega)⟩) ?_
    refine ak (fun γ => ⟨rfl, fun w' _ => ex_toArr rfl rfl (by omega)⟩) ?_
    refine ak (fun γ => ⟨rfl, fun w' hX => ex_ldA (hX.2.2.2.1.part (n - 16)) (by omega) rfl rfl⟩) ?_
    refine ak (fun γ => ⟨rfl, fun w' hX => ⟨42, #[.agg (ints .u8 (mt K N mo.f mo.n P (n - 16)) 16).toArray, .agg (ints .u8 (fun j => P ((n - 16) + j)) 16).toArray], exec_call rfl call42 rfl (mpn rfl), psame_any _ _ (mt_256 _ _ _ _ _ _) (fun j => hP _) true (⟨fun _ => hT, fun _ => rfl⟩) w'⟩⟩) ?_
    refine ak (by refine fun γ => ⟨rfl, fun w' h => ?_⟩; clear h; go_simp) ?_
    exact trivial
  intro γ w7 l hM hl
  have H7 := keepB H6 hM.below
  clear hM hl l H6 γ
  refine rest0 rfl (then_normal (wp_cond_false rfl ?_))
  refine wp_skip (then_normal (wp_seq ?_))
  refine walk_seqB 1 [.quiet (.int .i64 ((n - 16 : Nat) : Int))] H7 ?ho8 ?he8
  case ho8 => exact ak (fun _ => ⟨rfl, fun _ _ => rfl⟩) trivial
  intro _ w8 H8
  clear H7
  refine rest_at (l := [1, 2]) rfl ?_
  refine rest_set (d := 47) (v := .slice (some ⟨w8.heap.size, 0, none⟩) (n - 16) (n - 16)) (w' := (w8.alloc (.cells (ints .u8 (fun _ => 0) (n - 16)).toArray 5))) rfl rfl rfl (ex_mkB (m := (n - 16)) (by omega) rfl rfl rfl) ?_
  simp only [Act.put, sa, sz, ss]
  have o_γs9 : Hid (w.heap.size ≤ w8.heap.size) := H8.out.2.size
  have H9 : Hid (Mm (w8.alloc (.cells (ints .u8 (fun _ => 0) (n - 16)).toArray 5)) ((w8.heap.size, ints .u8 (fun _ => 0) (n - 16)) :: []) ∧ Below w.heap.size w (w8.alloc (.cells (ints .u8 (fun _ => 0) (n - 16)).toArray 5))) := ⟨H8.out.1.alloc _ 5 rfl, H8.out.2.alloc H8.out.2.size _⟩
  clear H8
  generalize hgw : (w8.alloc (.cells (ints .u8 (fun _ => 0) (n - 16)).toArray 5)) = w9 at H9 ⊢
  clear hgw
  generalize w8.heap.size = γs9 at o_γs9 H9 ⊢
  refine rest_set (d := 12) (v := .slice (some ⟨γs9, 0, none⟩) (n - 16) (n - 16)) (w' := w9) rfl rfl rfl rfl ?_
  simp only [Act.put, sa, sz, ss]
  refine rest_nil (then_normal (wp_seq ?_))
  refine (walk_seq) 5 [.quiet (.slice (some ⟨γs9, 0, none⟩) (n - 16) (n - 16)), .quiet (.slice (some ⟨gk, ok, none⟩) 32 ck), .quiet (.slice (some ⟨gn, on, none⟩) 12 cn), .call (.agg (ints .u32 (k3 K N 1 3) 16).toArray), .quiet (.slice (some ⟨gb, ob, none⟩) (n - 16) cb)] (fun u' => Mm u' [(γs9, ints .u8 (fun _ => 0) (n - 16))] ∧ (Rs gk ok 32 K u' ∧ Rs gn on 12 N u' ∧ Rs gb ob n P u' ∧ mo.rs u')) ?pre9 ?F9 ?hpre9 (fun γ => ?hF9) (by kernel_rfl) ?hL9 ?hS9 ?ho9 ?he9
  case hpre9 => simp only [tk, tz]; rfl
  case hF9 => simp only [fill, Kind.val, Act.put, sa, sz, ss]; rfl
  case hL9 => exact trivial
  case hS9 => exact fun w' hb => ⟨H9.out.1.below hb, ⟨RK.out.below (H9.out.2.trans (hb.mono H9.out.2.size)), RN.out.below (H9.out.2.trans (hb.mono H9.out.2.size)), RB.out.below (H9.out.2.trans (hb.mono H9.out.2.size)), RM.out.below (H9.out.2.trans (hb.mono H9.out.2.size))⟩⟩
  case ho9 =>
    refine ak (fun _ => ⟨rfl, fun _ _ => rfl⟩) ?_
    refine ak (fun _ => ⟨rfl, fun _ _ => rfl⟩) ?_
    refine ak (fun _ => ⟨rfl, fun _ _ => rfl⟩) ?_
    refine ak (fun γ => ⟨rfl, fun w' hX => ⟨28, #[.slice (some ⟨gk, ok, none⟩) 32 ck, .slice (some ⟨gn, on, none⟩) 12 cn, .int .u32 1], exec_call rfl call28 rfl (mpn rfl), begun_any K N gk ok ck gn on cn 1 hck hcn w' hX.2.1 hX.2.2.1⟩⟩) ?_
    refine ak (fun _ => ⟨rfl, fun _ _ => rfl⟩) ?_
    exact trivial
  intro γ w10 l hM hl
  have H10 := keepB H9 hM.below
  clear hM hl l H9 γ
  refine rest_at (l := [5]) rfl ?_
  refine rest_enter (d := 53) (R := fun vv w' => vv = .tuple #[] ∧ Mm w' [(γs9, ints .u8 (szr K N 1 P (fun _ => 0) (n - 16)) (n - 16))] ∧ Kp γs9 w10 w') rfl rfl rfl (exec_call (args := #[.slice (some ⟨γs9, 0, none⟩) (n - 16) (n - 16), .agg (ints .u32 (k3 K N 1 3) 16).toArray, .slice (some ⟨gb, ob, none⟩) (n - 16) cb]) rfl call32 rfl (mpn rfl)) (Calls.mono (pstream_any K N (fun _ => 0) 1 γs9 (n - 16) (pa gb ob (n - 16) cb P) (by decide) (pa_ok gb ob P (by omega)) (fun hn => by have h1 := RB.out.lt (by omega); have h2 := o_γs9.out; show gb ≠ γs9; omega) (by show n - 16 ≤ 1048592; omega) (Nat.le_refl _) w10 (H10.out.1.one 0 rfl) (Rs.head (RB.out.below H10.out.2) (Nat.sub_le _ _))) (fun e w2 hh => ⟨_, hh.1, rfl, hh.2⟩)) ?_
  rintro _ w11 ⟨rfl, hn, hp⟩
  have H11 : Hid (Mm w11 [(γs9, ints .u8 (szr K N 1 P (fun _ => 0) (n - 16)) (n - 16))] ∧ Below w.heap.size w w11) := ⟨H10.out.1.change 0 rfl hp hn, Below.kp H10.out.2 hp o_γs9.out H10.out.2.size⟩
  clear hn hp H10
  simp only [Act.put, sa, sz, ss]
  refine rest_nil (then_normal (wp_seq ?_))
  refine walk_seqB 3 [.quiet (.slice (some ⟨γs9, 0, none⟩) (n - 16) (n - 16)), .quiet (.slice (some ⟨γs9, 0, none⟩) (n - 16) (n - 16)), .quiet (.int .i64 0)] H11 ?ho10 ?he10
  case ho10 => exact ak (fun _ => ⟨rfl, fun _ _ => rfl⟩) (ak (fun _ => ⟨rfl, fun _ _ => rfl⟩) (ak (fun _ => ⟨rfl, fun _ _ => rfl⟩) trivial))
  intro _ w12 H12
  clear H11
  refine rest0 rfl (then_normal (wp_ret ?_))
  repeat (first | refine then_ret ?_ | refine block_ret ?_)
  refine bodyPost_ret (v := .tuple #[.slice (some ⟨γs9, 0, none⟩) (n - 16) (n - 16), .int .i64 0]) (by simp [results, Try.results20, go_sem, *]) rfl ?_
  have hM := H12.out.1.one 0 rfl
  rw [ints_congr (szr_lt K N 1 P _ (n - 16))] at hM
  exact ⟨H12.out.2, _, rfl, o_γs9.out, (hM.blk _ (List.mem_singleton.2 rfl)).1, (hM.blk _ (List.mem_singleton.2 rfl)).2⟩
end Rg
end Go.Proofs.Ytkkippfikfjdpaa
end
section
namespace Go.Proofs.Ytkkippfikfjdpaa
open Go.RowKit
namespace Rg
set_option maxRecDepth 100000
/-- The number of a text's pieces, the last one with a byte 1 behind it. -/
def tga (r : Nat) (f : Nat → Nat) (n : Nat) : Nat := if n % 16 = 0 then pgs r 0 f (n / 16) else ga r (pgs r 0 f (n / 16)) (lst (fun j => f (16 * (n / 16) + j)) (n % 16))
theorem call35 : ∀ args w, (callFunc 35 args).run Try.prog w = .ok (.enter 35 args) w := by intro args w; go_simp
set_option maxHeartbeats 1000000 in
set_option maxRecDepth 100000 in
theorem PTag_whole (K : Nat → Nat) (gk ok ck : Nat) (hck : 32 ≤ ck) (hK : ∀ j, K j < 256) (q : Pt8) (hq : Pok q) (hf : ∀ j, q.f j < 256) (hl : q.n ≤ 1048576) (hm : q.n % 16 = 0) (w : World) (hRk : Rs gk ok 32 K w) (hRb : q.rs w) :
    Calls Try.prog 13 #[.slice (some ⟨gk, ok, none⟩) 32 ck, .slice q.p q.n q.cp] w fun e w' => Below w.heap.size w w' ∧ ∃ g, e = .returned (.tuple #[.slice (some ⟨g, 0, none⟩) 16 16, .int .i64 0]) ∧ w.heap.size ≤ g ∧ g < w'.heap.size ∧ Blk w' g (ints .u8 (tt (pgs (rk K) 0 q.f (q.n / 16)) (sk K)) 16) := by
  have H0 : Hid (_ ∧ _) := ⟨Mm.nil w, Below.refl w.heap.size w⟩
  have RK : Hid (Rs gk ok 32 K w) := hRk
  have RB : Hid (q.rs w) := hRb
  clear hRk hRb
  go_enter Try.func13, Try.ntmps13
  refine wp_seq ?_
  refine walk_seqB 2 [.quiet (.slice none 0 0), .quiet (.int .i64 0)] H0 ?ho1 ?he1
  case ho1 => exact ak (fun _ => ⟨rfl, fun _ _ => rfl⟩) (ak (fun _ => ⟨rfl, fun _ _ => rfl⟩) trivial)
  intro _ w1 H1
  refine rest0 rfl (then_normal (wp_seq (wp_seq ?_)))
  refine walk_seqB 3 [.quiet (.slice (some ⟨gk, ok, none⟩) 32 ck), .quiet (.int .i64 ((32 : Nat) : Int)), .quiet (.bool false)] H1 ?ho2 ?he2
  case ho2 => exact ak (fun _ => ⟨rfl, fun _ _ => rfl⟩) (ak (by refine fun γ => ⟨rfl, fun w' h => ?_⟩; clear h; go_simp) (ak (by refine fun γ => ⟨rfl, fun w' h => ?_⟩; clear h; go_simp <;> omega) trivial))
  intro _ w2 H2
  clear H1
  refine rest0 rfl (then_normal (wp_cond_false rfl ?_))
  refine wp_skip (then_normal ?_)
  refine wp_seq (wp_seq ?_)
  refine walk_seqB 3 [.quiet (.slice q.p q.n q.cp), .quiet (.int .i64 ((q.n : Nat) : Int)), .quiet (.bool false)] H2 ?ho3 ?he3
  case ho3 => exact ak (fun _ => ⟨rfl, fun _ _ => rfl⟩) (ak (by refine fun γ => ⟨rfl, fun w' h => ?_⟩; clear h; go_simp) (ak (by refine fun γ => ⟨rfl, fun w' h => ?_⟩; clear h; go_simp <;> omega) trivial))
  intro _ w3 H3
  clear H2
  refine rest0 rfl (then_normal (wp_cond_false rfl ?_))
  refine wp_skip (then_normal (wp_seq ?_))
  refine (walk_seq) 4 [.quiet (.slice (some ⟨gk, ok, none⟩) 32 ck), .call (.agg (ints .u64 (wk9 0 (rk K) (sk K)) 9).toArray), .made (ints .u64 (fun _ => 0) 9) 61, .laid 2 (ints .u64 (fun _ => 0) 9) (ints .u64 (wk9 0 (rk K) (sk K)) 9)] (fun u' => Mm u' [] ∧ Rs gk ok 32 K u') ?pre4 ?F4 ?hpre4 (fun γ => ?hF4) (by kernel_rfl) ?hL4 ?hS4 ?ho4 ?he4
  case hpre4 => simp only [tk, tz]; rfl
  case hF4 => simp only [fill, Kind.val, Act.put, sa, sz, ss]; rfl
  case hL4 => exact ⟨⟨_, rfl⟩, trivial⟩
  case hS4 => exact fun w' hb => ⟨H3.out.1.below hb, RK.out.below (H3.out.2.trans (hb.mono H3.out.2.size))⟩
  case ho4 =>
    refine ak (fun _ => ⟨rfl, fun _ _ => rfl⟩) ?_
    refine ak (fun γ => ⟨rfl, fun w' hX => ⟨34, #[.slice (some ⟨gk, ok, none⟩) 32 ck], exec_call rfl call34 rfl (mpn rfl), under_any K gk ok ck hck hK w' hX.2⟩⟩) ?_
    refine ak (fun γ => ⟨rfl, fun w' => ex_mk61 rfl⟩) ?_
    refine ak (fun γ => ⟨rfl, rfl, (ints_len _ _ _).trans (ints_len _ _ _).symm, fun w' h => ex_laidI h Try.sizeOf61 rfl rfl rfl⟩) ?_
    exact trivial
  intro γ w4 l hM hl
  have H4 : Hid (Mm w4 [(γ 2, ints .u64 (wk9 0 (rk K) (sk K)) 9)] ∧ _) := growB H3 hM (Nat.le_refl _) hl [2] rfl (by decide)
  have o4_2 := ownB H3 hM (Nat.le_refl _) hl (i := 2) rfl
  clear hM hl l H3
  generalize γ 2 = γ4_2 at H4 o4_2 ⊢
  clear γ
  refine rest0 rfl (then_normal (wp_seq ?_))
  refine walk_seqB 1 [.quiet (.slice q.p q.n q.cp)] H4 ?ho5 ?he5
  case ho5 => exact ak (fun _ => ⟨rfl, fun _ _ => rfl⟩) trivial
  intro _ w5 H5
  clear H4
  refine rest_at (l := [1, 2]) rfl ?_
  refine rest_enter (d := 18) (R := fun vv w' => (∃ p c, vv = .slice p (q.n % 16) c ∧ (0 < q.n % 16 → p = some ⟨q.gb, q.o + 16 * (q.n / 16), none⟩ ∧ q.n % 16 ≤ c)) ∧ Mm w' [(γ4_2, ints .u64 (wk9 (pgs (rk K) 0 q.f (q.n / 16)) (rk K) (sk K)) 9)] ∧ Kp γ4_2 w5 w') rfl rfl rfl (exec_call (args := #[PT γ4_2 0, .slice q.p q.n q.cp]) rfl call36 rfl (mpn rfl)) (Calls.mono (whole_any γ4_2 0 (rk K) (sk K) q hq (rk_ok _) ab_zero hf (fun hn => by have h1 := RB.out.lt hn; have h2 := o4_2.out; omega) (by omega) w5 (H5.out.1.one 0 rfl) (RB.out.below H5.out.2)) (fun e w2 hh => by obtain ⟨⟨p, c, he, hp⟩, h2⟩ := hh; exact ⟨_, he, ⟨p, c, rfl, hp⟩, h2⟩)) ?_
  rintro _ w6 ⟨⟨pw1, cw1, rfl, hp1⟩, hn1, hk1⟩
  simp only [Act.put, sa, sz, ss]
  have H6 : Hid (Mm w6 [(γ4_2, ints .u64 (wk9 (pgs (rk K) 0 q.f (q.n / 16)) (rk K) (sk K)) 9)] ∧ Below w.heap.size w w6) := ⟨H5.out.1.change 0 rfl hk1 hn1, Below.kp H5.out.2 hk1 o4_2.out H5.out.2.size⟩
  clear hn1 hk1 H5
  rw [hm]
  clear hp1
  refine rest_enter (d := 19) (R := fun vv w' => vv = .tuple #[] ∧ Below w6.heap.size w6 w') rfl rfl rfl (exec_call (args := #[PT γ4_2 0, .slice pw1 0 cw1]) rfl call35 rfl (mpn rfl)) (Calls.mono (last_zero _ _ _ w6) (fun e w2 hh => ⟨_, hh.1, rfl, hh.2⟩)) ?_
  rintro _ w7 ⟨rfl, hb⟩
  have H7 : Hid (_ ∧ _) := ⟨H6.out.1.below hb, H6.out.2.trans (hb.mono H6.out.2.size)⟩
  clear hb H6
  simp only [Act.put, sa, sz, ss]
  refine rest_nil (then_normal (wp_seq ?_))
  refine walk_seqB 0 [] H7 ?ho6 ?he6
  case ho6 => exact trivial
  intro _ w8 H8
  clear H7
  refine rest_at (l := [0, 1]) rfl ?_
  refine rest_set (d := 20) (v := .slice (some ⟨w8.heap.size, 0, none⟩) 16 16) (w' := (w8.alloc (.cells (ints .u8 (fun _ => 0) 16).toArray 5))) rfl rfl rfl (ex_mkB (m := 16) (by decide) rfl rfl rfl) ?_
  simp only [Act.put, sa, sz, ss]
  have o_γs9 : Hid (w.heap.size ≤ w8.heap.size) := H8.out.2.size
  have H9 : Hid (Mm (w8.alloc (.cells (ints .u8 (fun _ => 0) 16).toArray 5)) ((w8.heap.size, ints .u8 (fun _ => 0) 16) :: [(γ4_2, ints .u64 (wk9 (pgs (rk K) 0 q.f (q.n / 16)) (rk K) (sk K)) 9)]) ∧ Below w.heap.size w (w8.alloc (.cells (ints .u8 (fun _ => 0) 16).toArray 5))) := ⟨H8.out.1.alloc _ 5 rfl, H8.out.2.alloc H8.out.2.size _⟩
  clear H8
  generalize hgw : (w8.alloc (.cells (ints .u8 (fun _ => 0) 16).toArray 5)) = w9 at H9 ⊢
  clear hgw
  generalize w8.heap.size = γs9 at o_γs9 H9 ⊢
  refine rest_set (d := 7) (v := .slice (some ⟨γs9, 0, none⟩) 16 16) (w' := w9) rfl rfl rfl rfl ?_
  simp only [Act.put, sa, sz, ss]
  refine rest_nil (then_normal (wp_seq ?_))
  refine walk_seqA 3 [.call (.agg (ints .u8 (tt (pgs (rk K) 0 q.f (q.n / 16)) (sk K)) 16).toArray), .made (ints .u8 (fun _ => 0) 16) 65, .laid 1 (ints .u8 (fun _ => 0) 16) (ints .u8 (tt (pgs (rk K) 0 q.f (q.n / 16)) (sk K)) 16)] (sB H9) ?ho7 ?he7 (hL := ?hL7)
  case hL7 => exact ⟨⟨_, rfl⟩, trivial⟩
  case ho7 => exact ak (fun γ => ⟨rfl, fun w' h => ⟨37, #[PT γ4_2 0], exec_call rfl call37 rfl (mpn rfl), wtag_any γ4_2 (pgs (rk K) 0 q.f (q.n / 16)) (rk K) (sk K) (pgs_ok (rk_ok _) ab_zero hf _) (sk_lt hK) w' (h.one 1 rfl)⟩⟩) (ak (fun γ => ⟨rfl, fun w' => ex_mk65 rfl⟩) (ak (fun γ => ⟨rfl, rfl, (ints_len _ _ _).trans (ints_len _ _ _).symm, fun w' h => ex_laidI h Try.sizeOf65 rfl rfl rfl⟩) trivial))
  intro γ w10 l hM hl
  have H10 : Hid (Mm w10 [(γ 1, ints .u8 (tt (pgs (rk K) 0 q.f (q.n / 16)) (sk K)) 16), (γs9, ints .u8 (fun _ => 0) 16), (γ4_2, ints .u64 (wk9 (pgs (rk K) 0 q.f (q.n / 16)) (rk K) (sk K)) 9)] ∧ _) := growB H9 hM (Nat.le_refl _) hl [1] rfl (by decide)
  have o7_1 := ownB H9 hM (Nat.le_refl _) hl (i := 1) rfl
  clear hM hl l H9
  generalize γ 1 = γ7_1 at H10 o7_1 ⊢
  clear γ
  refine rest0 rfl (then_normal (wp_seq ?_))
  refine walk_seqB 2 [.quiet (.slice (some ⟨γs9, 0, none⟩) 16 16), .quiet (.slice (some ⟨γ7_1, 0, none⟩) 16 16)] H10 ?ho8 ?he8
  case ho8 => exact ak (fun _ => ⟨rfl, fun _ _ => rfl⟩) (ak (by refine fun γ => ⟨rfl, fun w' h => ?_⟩; clear h; go_simp) trivial)
  intro _ w11 H11
  clear H10
  refine rest_at (l := [2]) rfl ?_
  refine rest_set (d := 24) (v := .int .i64 ((16 : Nat) : Int)) (w' := w11.setCells γs9 0 (ints .u8 (tt (pgs (rk K) 0 q.f (q.n / 16)) (sk K)) 16)) rfl rfl rfl (ex_copyR (mm := 16) H11.out.1 1 rfl ((H11.out.1.rs 0 rfl (Nat.le_refl _)).at_) (rfl) (by decide) rfl rfl rfl) ?_
  simp only [Act.put, sa, sz, ss]
  have H12 : Hid (Mm (w11.setCells γs9 0 (ints .u8 (tt (pgs (rk K) 0 q.f (q.n / 16)) (sk K)) 16)) [(γ7_1, ints .u8 (tt (pgs (rk K) 0 q.f (q.n / 16)) (sk K)) 16), (γs9, ints .u8 (py (fun _ => 0) 0 16 (tt (pgs (rk K) 0 q.f (q.n / 16)) (sk K))) 16), (γ4_2, ints .u64 (wk9 (pgs (rk K) 0 q.f (q.n / 16)) (rk K) (sk K)) 9)] ∧ Below w.heap.size w (w11.setCells γs9 0 (ints .u8 (tt (pgs (rk K) 0 q.f (q.n / 16)) (sk K)) 16))) := ⟨by
    have h := H11.out.1.put 1 (off := 0) (vs := ints .u8 (tt (pgs (rk K) 0 q.f (q.n / 16)) (sk K)) 16) rfl (by rw [ints_len, ints_len]; decide)
    rw [ints_part _ _ (by decide)] at h
    exact h, below_setCells _ o_γs9.out _ _ _ H11.out.2⟩
  clear H11
  generalize hgw : World.setCells _ _ _ _ = w12 at H12 ⊢
  clear hgw
  refine rest_nil (then_normal (wp_seq ?_))
  refine walk_seqB 3 [.quiet (.slice (some ⟨γs9, 0, none⟩) 16 16), .quiet (.slice (some ⟨γs9, 0, none⟩) 16 16), .quiet (.int .i64 0)] H12 ?ho9 ?he9
  case ho9 => exact ak (fun _ => ⟨rfl, fun _ _ => rfl⟩) (ak (fun _ => ⟨rfl, fun _ _ => rfl⟩) (ak (fun _ => ⟨rfl, fun _ _ => rfl⟩) trivial))
  intro _ w13 H13
  clear H12
  refine rest0 rfl (then_normal (wp_ret ?_))
  repeat (first | refine then_ret ?_ | refine block_ret ?_)
  refine bodyPost_ret (v := .tuple #[.slice (some ⟨γs9, 0, none⟩) 16 16, .int .i64 0]) (by simp [results, Try.results13, go_sem, *]) rfl ?_
  have hM := H13.out.1.one 1 rfl
  rw [ints_congr (py_all _ _ 16)] at hM
  exact ⟨H13.out.2, _, rfl, o_γs9.out, (hM.blk _ (List.mem_singleton.2 rfl)).1, (hM.blk _ (List.mem_singleton.2 rfl)).2⟩
set_option maxHeartbeats 1000000 in
set_option maxRecDepth 100000 in
theorem PTag_more (K : Nat → Nat) (gk ok ck : Nat) (hck : 32 ≤ ck) (hK : ∀ j, K j < 256) (q : Pt8) (hq : Pok q) (hf : ∀ j, q.f j < 256) (hl : q.n ≤ 1048576) (hm : 0 < q.n % 16) (w : World) (hRk : Rs gk ok 32 K w) (hRb : q.rs w) :
    Calls Try.prog 13 #[.slice (some ⟨gk, ok, none⟩) 32 ck, .slice q.p q.n q.cp] w fun e w' => Below w.heap.size w w' ∧ ∃ g, e = .returned (.tuple #[.slice (some ⟨g, 0, none⟩) 16 16, .int .i64 0]) ∧ w.heap.size ≤ g ∧ g < w'.heap.size ∧ Blk w' g (ints .u8 (tt (ga (rk K) (pgs (rk K) 0 q.f (q.n / 16)) (lst (fun j => q.f (16 * (q.n / 16) + j)) (q.n % 16))) (sk K)) 16) := by
  have H0 : Hid (_ ∧ _) := ⟨Mm.nil w, Below.refl w.heap.size w⟩
  have RK : Hid (Rs gk ok 32 K w) := hRk
  have RB : Hid (q.rs w) := hRb
  clear hRk hRb
  go_enter Try.func13, Try.ntmps13
  refine wp_seq ?_
  refine walk_seqB 2 [.quiet (.slice none 0 0), .quiet (.int .i64 0)] H0 ?ho1 ?he1
  case ho1 => exact ak (fun _ => ⟨rfl, fun _ _ => rfl⟩) (ak (fun _ => ⟨rfl, fun _ _ => rfl⟩) trivial)
  intro _ w1 H1
  refine rest0 rfl (then_normal (wp_seq (wp_seq ?_)))
  refine walk_seqB 3 [.quiet (.slice (some ⟨gk, ok, none⟩) 32 ck), .quiet (.int .i64 ((32 : Nat) : Int)), .quiet (.bool false)] H1 ?ho2 ?he2
  case ho2 => exact ak (fun _ => ⟨rfl, fun _ _ => rfl⟩) (ak (by refine fun γ => ⟨rfl, fun w' h => ?_⟩; clear h; go_simp) (ak (by refine fun γ => ⟨rfl, fun w' h => ?_⟩; clear h; go_simp <;> omega) trivial))
  intro _ w2 H2
  clear H1
  refine rest0 rfl (then_normal (wp_cond_false rfl ?_))
  refine wp_skip (then_normal ?_)
  refine wp_seq (wp_seq ?_)
  refine walk_seqB 3 [.quiet (.slice q.p q.n q.cp), .quiet (.int .i64 ((q.n : Nat) : Int)), .quiet (.bool false)] H2 ?ho3 ?he3
  case ho3 => exact ak (fun _ => ⟨rfl, fun _ _ => rfl⟩) (ak (by refine fun γ => ⟨rfl, fun w' h => ?_⟩; clear h; go_simp) (ak (by refine fun γ => ⟨rfl, fun w' h => ?_⟩; clear h; go_simp <;> omega) trivial))
  intro _ w3 H3
  clear H2
  refine rest0 rfl (then_normal (wp_cond_false rfl ?_))
  refine wp_skip (then_normal (wp_seq ?_))
  refine (walk_seq) 4 [.quiet (.slice (some ⟨gk, ok, none⟩) 32 ck), .call (.agg (ints .u64 (wk9 0 (rk K) (sk K)) 9).toArray), .made (ints .u64 (fun _ => 0) 9) 61, .laid 2 (ints .u64 (fun _ => 0) 9) (ints .u64 (wk9 0 (rk K) (sk K)) 9)] (fun u' => Mm u' [] ∧ Rs gk ok 32 K u') ?pre4 ?F4 ?hpre4 (fun γ => ?hF4) (by kernel_rfl) ?hL4 ?hS4 ?ho4 ?he4
  case hpre4 => simp only [tk, tz]; rfl
  case hF4 => simp only [fill, Kind.val, Act.put, sa, sz, ss]; rfl
  case hL4 => exact ⟨⟨_, rfl⟩, trivial⟩
  case hS4 => exact fun w' hb => ⟨H3.out.1.below hb, RK.out.below (H3.out.2.trans (hb.mono H3.out.2.size))⟩
  case ho4 =>
    refine ak (fun _ => ⟨rfl, fun _ _ => rfl⟩) ?_
    refine ak (fun γ => ⟨rfl, fun w' hX => ⟨34, #[.slice (some ⟨gk, ok, none⟩) 32 ck], exec_call rfl call34 rfl (mpn rfl), under_any K gk ok ck hck hK w' hX.2⟩⟩) ?_
    refine ak (fun γ => ⟨rfl, fun w' => ex_mk61 rfl⟩) ?_
    refine ak (fun γ => ⟨rfl, rfl, (ints_len _ _ _).trans (ints_len _ _ _).symm, fun w' h => ex_laidI h Try.sizeOf61 rfl rfl rfl⟩) ?_
    exact trivial
  intro γ w4 l hM hl
  have H4 : Hid (Mm w4 [(γ 2, ints .u64 (wk9 0 (rk K) (sk K)) 9)] ∧ _) := growB H3 hM (Nat.le_refl _) hl [2] rfl (by decide)
  have o4_2 := ownB H3 hM (Nat.le_refl _) hl (i := 2) rfl
  clear hM hl l H3
  generalize γ 2 = γ4_2 at H4 o4_2 ⊢
  clear γ
  refine rest0 rfl (then_normal (wp_seq ?_))
  refine walk_seqB 1 [.quiet (.slice q.p q.n q.cp)] H4 ?ho5 ?he5
  case ho5 => exact ak (fun _ => ⟨rfl, fun _ _ => rfl⟩) trivial
  intro _ w5 H5
  clear H4
  refine rest_at (l := [1, 2]) rfl ?_
  refine rest_enter (d := 18) (R := fun vv w' => (∃ p c, vv = .slice p (q.n % 16) c ∧ (0 < q.n % 16 → p = some ⟨q.gb, q.o + 16 * (q.n / 16), none⟩ ∧ q.n % 16 ≤ c)) ∧ Mm w' [(γ4_2, ints .u64 (wk9 (pgs (rk K) 0 q.f (q.n / 16)) (rk K) (sk K)) 9)] ∧ Kp γ4_2 w5 w') rfl rfl rfl (exec_call (args := #[PT γ4_2 0, .slice q.p q.n q.cp]) rfl call36 rfl (mpn rfl)) (Calls.mono (whole_any γ4_2 0 (rk K) (sk K) q hq (rk_ok _) ab_zero hf (fun hn => by have h1 := RB.out.lt hn; have h2 := o4_2.out; omega) (by omega) w5 (H5.out.1.one 0 rfl) (RB.out.below H5.out.2)) (fun e w2 hh => by obtain ⟨⟨p, c, he, hp⟩, h2⟩ := hh; exact ⟨_, he, ⟨p, c, rfl, hp⟩, h2⟩)) ?_
  rintro _ w6 ⟨⟨pw1, cw1, rfl, hp1⟩, hn1, hk1⟩
  simp only [Act.put, sa, sz, ss]
  have H6 : Hid (Mm w6 [(γ4_2, ints .u64 (wk9 (pgs (rk K) 0 q.f (q.n / 16)) (rk K) (sk K)) 9)] ∧ Below w.heap.size w w6) := ⟨H5.out.1.change 0 rfl hk1 hn1, Below.kp H5.out.2 hk1 o4_2.out H5.out.2.size⟩
  clear hn1 hk1 H5
  obtain ⟨rfl, hc1⟩ := hp1 hm
  refine rest_enter (d := 19) (R := fun vv w' => vv = .tuple #[] ∧ Mm w' [(γ4_2, ints .u64 (wk9 (ga (rk K) (pgs (rk K) 0 q.f (q.n / 16)) (lst (fun j => q.f (16 * (q.n / 16) + j)) (q.n % 16))) (rk K) (sk K)) 9)] ∧ Kp γ4_2 w6 w') rfl rfl rfl (exec_call (args := #[PT γ4_2 0, .slice (some ⟨q.gb, (q.o + 16 * (q.n / 16)), none⟩) (q.n % 16) cw1]) rfl call35 rfl (mpn rfl)) (Calls.mono (last_any γ4_2 (pgs (rk K) 0 q.f (q.n / 16)) (rk K) (sk K) q.gb (q.o + 16 * (q.n / 16)) (q.n % 16) cw1 (fun j => q.f (16 * (q.n / 16) + j)) (rk_ok _) (pgs_ok (rk_ok _) ab_zero hf _) (fun j => hf _) (by have h1 := RB.out.lt (by omega); have h2 := o4_2.out; omega) hm (by omega) w6 (H6.out.1.one 0 rfl) (by have h3 := (RB.out.below H6.out.2).part (16 * (q.n / 16)); exact ⟨fun _ => h3.lt (by omega), fun i hi => h3.at_ i (by omega)⟩)) (fun e w2 hh => ⟨_, hh.1, rfl, hh.2⟩)) ?_
  rintro _ w7 ⟨rfl, hn, hp⟩
  have H7 : Hid (Mm w7 [(γ4_2, ints .u64 (wk9 (ga (rk K) (pgs (rk K) 0 q.f (q.n / 16)) (lst (fun j => q.f (16 * (q.n / 16) + j)) (q.n % 16))) (rk K) (sk K)) 9)] ∧ Below w.heap.size w w7) := ⟨H6.out.1.change 0 rfl hp hn, Below.kp H6.out.2 hp o4_2.out H6.out.2.size⟩
  clear hn hp H6
  simp only [Act.put, sa, sz, ss]
  refine rest_nil (then_normal (wp_seq ?_))
  refine walk_seqB 0 [] H7 ?ho6 ?he6
  case ho6 => exact trivial
  intro _ w8 H8
  clear H7
  refine rest_at (l := [0, 1]) rfl ?_
  refine rest_set (d := 20) (v := .slice (some ⟨w8.heap.size, 0, none⟩) 16 16) (w' := (w8.alloc (.cells (ints .u8 (fun _ => 0) 16).toArray 5))) rfl rfl rfl (ex_mkB (m := 16) (by decide) rfl rfl rfl) ?_
  simp only [Act.put, sa, sz, ss]
  have o_γs9 : Hid (w.heap.size ≤ w8.heap.size) := H8.out.2.size
  have H9 : Hid (Mm (w8.alloc (.cells (ints .u8 (fun _ => 0) 16).toArray 5)) ((w8.heap.size, ints .u8 (fun _ => 0) 16) :: [(γ4_2, ints .u64 (wk9 (ga (rk K) (pgs (rk K) 0 q.f (q.n / 16)) (lst (fun j => q.f (16 * (q.n / 16) + j)) (q.n % 16))) (rk K) (sk K)) 9)]) ∧ Below w.heap.size w (w8.alloc (.cells (ints .u8 (fun _ => 0) 16).toArray 5))) := ⟨H8.out.1.alloc _ 5 rfl, H8.out.2.alloc H8.out.2.size _⟩
  clear H8
  generalize hgw : (w8.alloc (.cells (ints .u8 (fun _ => 0) 16).toArray 5)) = w9 at H9 ⊢
  clear hgw
  generalize w8.heap.size = γs9 at o_γs9 H9 ⊢
  refine rest_set (d := 7) (v := .slice (some ⟨γs9, 0, none⟩) 16 16) (w' := w9) rfl rfl rfl rfl ?_
  simp only [Act.put, sa, sz, ss]
  refine rest_nil (then_normal (wp_seq ?_))
  refine walk_seqA 3 [.call (.agg (ints .u8 (tt (ga (rk K) (pgs (rk K) 0 q.f (q.n / 16)) (lst (fun j => q.f (16 * (q.n / 16) + j)) (q.n % 16))) (sk K)) 16).toArray), .made (ints .u8 (fun _ => 0) 16) 65, .laid 1 (ints .u8 (fun _ => 0) 16) (ints .u8 (tt (ga (rk K) (pgs (rk K) 0 q.f (q.n / 16)) (lst (fun j => q.f (16 * (q.n / 16) + j)) (q.n % 16))) (sk K)) 16)] (sB H9) ?ho7 ?he7 (hL := ?hL7)
  case hL7 => exact ⟨⟨_, rfl⟩, trivial⟩
  case ho7 => exact ak (fun γ => ⟨rfl, fun w' h => ⟨37, #[PT γ4_2 0], exec_call rfl call37 rfl (mpn rfl), wtag_any γ4_2 (ga (rk K) (pgs (rk K) 0 q.f (q.n / 16)) (lst (fun j => q.f (16 * (q.n / 16) + j)) (q.n % 16))) (rk K) (sk K) (ga_ok (rk_ok _) (pgs_ok (rk_ok _) ab_zero hf _) (lst_bd (fun j => hf _) (by omega))) (sk_lt hK) w' (h.one 1 rfl)⟩⟩) (ak (fun γ => ⟨rfl, fun w' => ex_mk65 rfl⟩) (ak (fun γ => ⟨rfl, rfl, (ints_len _ _ _).trans (ints_len _ _ _).symm, fun w' h => ex_laidI h Try.sizeOf65 rfl rfl rfl⟩) trivial))
  intro γ w10 l hM hl
  have H10 : Hid (Mm w10 [(γ 1, ints .u8 (tt (ga (rk K) (pgs (rk K) 0 q.f (q.n / 16)) (lst (fun j => q.f (16 * (q.n / 16) + j)) (q.n % 16))) (sk K)) 16), (γs9, ints .u8 (fun _ => 0) 16), (γ4_2, ints .u64 (wk9 (ga (rk K) (pgs (rk K) 0 q.f (q.n / 16)) (lst (fun j => q.f (16 * (q.n / 16) + j)) (q.n % 16))) (rk K) (sk K)) 9)] ∧ _) := growB H9 hM (Nat.le_refl _) hl [1] rfl (by decide)
  have o7_1 := ownB H9 hM (Nat.le_refl _) hl (i := 1) rfl
  clear hM hl l H9
  generalize γ 1 = γ7_1 at H10 o7_1 ⊢
  clear γ
  refine rest0 rfl (then_normal (wp_seq ?_))
  refine walk_seqB 2 [.quiet (.slice (some ⟨γs9, 0, none⟩) 16 16), .quiet (.slice (some ⟨γ7_1, 0, none⟩) 16 16)] H10 ?ho8 ?he8
  case ho8 => exact ak (fun _ => ⟨rfl, fun _ _ => rfl⟩) (ak (by refine fun γ => ⟨rfl, fun w' h => ?_⟩; clear h; go_simp) trivial)
  intro _ w11 H11
  clear H10
  refine rest_at (l := [2]) rfl ?_
  refine rest_set (d := 24) (v := .int .i64 ((16 : Nat) : Int)) (w' := w11.setCells γs9 0 (ints .u8 (tt (ga (rk K) (pgs (rk K) 0 q.f (q.n / 16)) (lst (fun j => q.f (16 * (q.n / 16) + j)) (q.n % 16))) (sk K)) 16)) rfl rfl rfl (ex_copyR (mm := 16) H11.out.1 1 rfl ((H11.out.1.rs 0 rfl (Nat.le_refl _)).at_) (rfl) (by decide) rfl rfl rfl) ?_
  simp only [Act.put, sa, sz, ss]
  have H12 : Hid (Mm (w11.setCells γs9 0 (ints .u8 (tt (ga (rk K) (pgs (rk K) 0 q.f (q.n / 16)) (lst (fun j => q.f (16 * (q.n / 16) + j)) (q.n % 16))) (sk K)) 16)) [(γ7_1, ints .u8 (tt (ga (rk K) (pgs (rk K) 0 q.f (q.n / 16)) (lst (fun j => q.f (16 * (q.n / 16) + j)) (q.n % 16))) (sk K)) 16), (γs9, ints .u8 (py (fun _ => 0) 0 16 (tt (ga (rk K) (pgs (rk K) 0 q.f (q.n / 16)) (lst (fun j => q.f (16 * (q.n / 16) + j)) (q.n % 16))) (sk K))) 16), (γ4_2, ints .u64 (wk9 (ga (rk K) (pgs (rk K) 0 q.f (q.n / 16)) (lst (fun j => q.f (16 * (q.n / 16) + j)) (q.n % 16))) (rk K) (sk K)) 9)] ∧ Below w.heap.size w (w11.setCells γs9 0 (ints .u8 (tt (ga (rk K) (pgs (rk K) 0 q.f (q.n / 16)) (lst (fun j => q.f (16 * (q.n / 16) + j)) (q.n % 16))) (sk K)) 16))) := ⟨by
    have h := H11.out.1.put 1 (off := 0) (vs := ints .u8 (tt (ga (rk K) (pgs (rk K) 0 q.f (q.n / 16)) (lst (fun j => q.f (16 * (q.n / 16) + j)) (q.n % 16))) (sk K)) 16) rfl (by rw [ints_len, ints_len]; decide)
    rw [ints_part _ _ (by decide)] at h
    exact h, below_setCells _ o_γs9.out _ _ _ H11.out.2⟩
  clear H11
  generalize hgw : World.setCells _ _ _ _ = w12 at H12 ⊢
  clear hgw
  refine rest_nil (then_normal (wp_seq ?_))
  refine walk_seqB 3 [.quiet (.slice (some ⟨γs9, 0, none⟩) 16 16), .quiet (.slice (some ⟨γs9, 0, none⟩) 16 16), .quiet (.int .i64 0)] H12 ?ho9 ?he9
  case ho9 => exact ak (fun _ => ⟨rfl, fun _ _ => rfl⟩) (ak (fun _ => ⟨rfl, fun _ _ => rfl⟩) (ak (fun _ => ⟨rfl, fun _ _ => rfl⟩) trivial))
  intro _ w13 H13
  clear H12
  refine rest0 rfl (then_normal (wp_ret ?_))
  repeat (first | refine then_ret ?_ | refine block_ret ?_)
  refine bodyPost_ret (v := .tuple #[.slice (some ⟨γs9, 0, none⟩) 16 16, .int .i64 0]) (by simp [results, Try.results13, go_sem, *]) rfl ?_
  have hM := H13.out.1.one 1 rfl
  rw [ints_congr (py_all _ _ 16)] at hM
  exact ⟨H13.out.2, _, rfl, o_γs9.out, (hM.blk _ (List.mem_singleton.2 rfl)).1, (hM.blk _ (List.mem_singleton.2 rfl)).2⟩
theorem PTag_ok (K : Nat → Nat) (gk ok ck : Nat) (hck : 32 ≤ ck) (hK : ∀ j, K j < 256) (q : Pt8) (hq : Pok q) (hf : ∀ j, q.f j < 256) (hl : q.n ≤ 1048576) (w : World) (hRk : Rs gk ok 32 K w) (hRb : q.rs w) : Calls Try.prog 13 #[.slice (some ⟨gk, ok, none⟩) 32 ck, .slice q.p q.n q.cp] w fun e w' => Below w.heap.size w w' ∧ ∃ g, e = .returned (.tuple #[.slice (some ⟨g, 0, none⟩) 16 16, .int .i64 0]) ∧ w.heap.size ≤ g ∧ g < w'.heap.size ∧ Blk w' g (ints .u8 (tt (tga (rk K) q.f q.n) (sk K)) 16) := by
  unfold tga
  rcases Nat.eq_zero_or_pos (q.n % 16) with e | e
  · rw [if_pos e]
    exact PTag_whole K gk ok ck hck hK q hq hf hl e w hRk hRb
  · rw [if_neg (by omega)]
    exact PTag_more K gk ok ck hck hK q hq hf hl e w hRk hRb
end Rg
end Go.Proofs.Ytkkippfikfjdpaa
end
section
namespace Go.Proofs.Ytkkippfikfjdpaa
open Go.RowKit
namespace Rg
set_option maxRecDepth 100000
theorem Pt8.bsl {a : Pt8} {w : World} (h : Pok a) (hr : a.rs w) : BSl w ((List.range a.n).map fun i => ((a.f i : Nat) : Int)) a.cp (.slice a.p a.n a.cp) := by
  rcases Nat.eq_zero_or_pos a.n with e | e
  · rw [e]
    exact .void _ rfl
  · rw [h.at e]
    have hl : ((List.range a.n).map fun i => ((a.f i : Nat) : Int)).length = a.n := by simp
    have hb : BSl w ((List.range a.n).map fun i => ((a.f i : Nat) : Int)) a.cp (.slice (some ⟨a.gb, a.o, none⟩) ((List.range a.n).map fun i => ((a.f i : Nat) : Int)).length a.cp) :=
      .full a.gb a.o (hr.lt e) (by rw [hl]; exact h.le) (fun i hi => by
        rw [hl] at hi
        rw [hr.at_ i hi]
        simp [hi])
    rw [hl] at hb
    exact hb
theorem rng_eq {f g : Nat → Nat} {n m : Nat} : ((List.range n).map fun i => ((f i : Nat) : Int)) = ((List.range m).map fun i => ((g i : Nat) : Int)) ↔ n = m ∧ ∀ j, j < n → f j = g j := by
  constructor
  · intro h
    have hl : n = m := by simpa using congrArg List.length h
    subst hl
    refine ⟨rfl, fun j hj => ?_⟩
    have h2 := congrArg (fun l => l[j]?) h
    have h3 : ((f j : Nat) : Int) = ((g j : Nat) : Int) := by simpa [hj] using h2
    omega
  · rintro ⟨rfl, h⟩
    exact List.map_congr_left (fun j hj => by rw [h j (List.mem_range.1 hj)])
/-- SameBytes of any two parts. -/
theorem same_pt (a b : Pt8) (ha : Pok a) (hb : Pok b) (hfa : ∀ j, a.f j < 256) (hfb : ∀ j, b.f j < 256) (t : Bool) (ht : t = true ↔ a.n = b.n ∧ ∀ j, j < a.n → a.f j = b.f j) (w : World) (hRa : a.rs w) (hRb : b.rs w) : Calls Try.prog 15 #[.slice a.p a.n a.cp, .slice b.p b.n b.cp] w fun e w' => e = .returned (.bool t) ∧ Below w.heap.size w w' := by
  have h := same_all (fun x hx => by obtain ⟨i, _, rfl⟩ := List.mem_map.1 hx; have := hfa i; omega) (fun x hx => by obtain ⟨i, _, rfl⟩ := List.mem_map.1 hx; have := hfb i; omega) w (Pt8.bsl ha hRa) (Pt8.bsl hb hRb)
  refine Calls.mono h (fun e w' hh => ⟨?_, by rw [hh.2]; exact Below.refl _ _⟩)
  rw [hh.1]
  congr 2
  cases t with
  | true => exact decide_eq_true (rng_eq.2 (ht.1 rfl))
  | false => exact decide_eq_false (fun e => Bool.noConfusion (ht.2 (rng_eq.1 e)))
/-- No part. -/
def pno : Pt8 := ⟨0, 0, 0, 0, none, fun _ => 0⟩
theorem pno_ok : Pok pno := ⟨Bv.void _ _ _ _ _, Nat.le_refl _⟩
theorem pno_rs (w : World) : pno.rs w := Rs.void _ _ _ _
/-- What was sealed is opened. -/
theorem open_seal (K N P : Nat → Nat) (n : Nat) (M : Nat → Nat) (m : Nat) (j : Nat) (_ : j < 16) : mt K N M m (sl0 K N P n M m) (n + 16 - 16) j = sl0 K N P n M m ((n + 16 - 16) + j) := by
  rw [Nat.add_sub_cancel, mt_cg (S := sl0 K N P n M m) (S' := so K N 1 P) (fun j hj => if_pos hj)]
  unfold sl0 ct
  rw [if_neg (by omega), Nat.add_sub_cancel_left]
theorem so_so {P : Nat → Nat} (hP : ∀ j, P j < 256) (K N : Nat → Nat) (c : Nat) (j : Nat) : so K N c (so K N c P) j = P j := x8_twice _ (hP j) (bk_256 _ _ _ _)
theorem so_cg (K N : Nat → Nat) (c : Nat) {P P' : Nat → Nat} {j : Nat} (h : P j = P' j) : so K N c P j = so K N c P' j := by unfold so; rw [h]
def ltO (j : Nat) : Nat := [133, 214, 190, 120, 87, 85, 109, 51, 127, 68, 82, 254, 66, 213, 6, 168, 1, 3, 128, 138, 251, 13, 178, 253, 74, 191, 246, 175, 65, 73, 245, 27].getD j 0
def ltT (j : Nat) : Nat := [67, 114, 121, 112, 116, 111, 103, 114, 97, 112, 104, 105, 99, 32, 70, 111, 114, 117, 109, 32, 82, 101, 115, 101, 97, 114, 99, 104, 32, 71, 114, 111, 117, 112].getD j 0
def ltB (j : Nat) : Nat := [16, 241, 231, 228, 209, 59, 89, 21].getD j 0
def ltG (j : Nat) : Nat := [168, 6, 29, 193, 48, 81, 54, 198, 194, 43, 139, 175, 12, 1, 39, 169].getD j 0
section
variable {ρ : Operand → Value} {o : Oper} {x y : Operand} {a b g : Nat} {w : World}
theorem ex_litO (ho : o.op = .buildSlice 22 32 #[(0, .const (.int .u8 133)), (1, .const (.int .u8 214)), (2, .const (.int .u8 190)), (3, .const (.int .u8 120)), (4, .const (.int .u8 87)), (5, .const (.int .u8 85)), (6, .const (.int .u8 109)), (7, .const (.int .u8 51)), (8, .const (.int .u8 127)), (9, .const (.int .u8 68)), (10, .const (.int .u8 82)), (11, .const (.int .u8 254)), (12, .const (.int .u8 66)), (13, .const (.int .u8 213)), (14, .const (.int .u8 6)), (15, .const (.int .u8 168)), (16, .const (.int .u8 1)), (17, .const (.int .u8 3)), (18, .const (.int .u8 128)), (19, .const (.int .u8 138)), (20, .const (.int .u8 251)), (21, .const (.int .u8 13)), (22, .const (.int .u8 178)), (23, .const (.int .u8 253)), (24, .const (.int .u8 74)), (25, .const (.int .u8 191)), (26, .const (.int .u8 246)), (27, .const (.int .u8 175)), (28, .const (.int .u8 65)), (29, .const (.int .u8 73)), (30, .const (.int .u8 245)), (31, .const (.int .u8 27))]) (hc : ∀ v, ρ (.const v) = v) : (execOp ρ o).run Try.prog w = .ok (.value (.slice (some ⟨w.heap.size, 0, none⟩) 32 32)) (w.alloc (.cells (ints .u8 ltO 32).toArray 5)) := by
  simp only [execOp, ho, List.map_toArray, List.map_cons, List.map_nil, hc]
  kernel_rfl
theorem ex_litT (ho : o.op = .buildSlice 22 34 #[(0, .const (.int .u8 67)), (1, .const (.int .u8 114)), (2, .const (.int .u8 121)), (3, .const (.int .u8 112)), (4, .const (.int .u8 116)), (5, .const (.int .u8 111)), (6, .const (.int .u8 103)), (7, .const (.int .u8 114)), (8, .const (.int .u8 97)), (9, .const (.int .u8 112)), (10, .const (.int .u8 104)), (11, .const (.int .u8 105)), (12, .const (.int .u8 99)), (13, .const (.int .u8 32)), (14, .const (.int .u8 70)), (15, .const (.int .u8 111)), (16, .const (.int .u8 114)), (17, .const (.int .u8 117)), (18, .const (.int .u8 109)), (19, .const (.int .u8 32)), (20, .const (.int .u8 82)), (21, .const (.int .u8 101)), (22, .const (.int .u8 115)), (23, .const (.int .u8 101)), (24, .const (.int .u8 97)), (25, .const (.int .u8 114)), (26, .const (.int .u8 99)), (27, .const (.int .u8 104)), (28, .const (.int .u8 32)), (29, .const (.int .u8 71)), (30, .const (.int .u8 114)), (31, .const (.int .u8 111)), (32, .const (.int .u8 117)), (33, .const (.int .u8 112))]) (hc : ∀ v, ρ (.const v) = v) : (execOp ρ o).run Try.prog w = .ok (.value (.slice (some ⟨w.heap.size, 0, none⟩) 34 34)) (w.alloc (.cells (ints .u8 ltT 34).toArray 5)) := by
  simp only [execOp, ho, List.map_toArray, List.map_cons, List.map_nil, hc]
  kernel_rfl
theorem ex_litB (ho : o.op = .buildSlice 22 8 #[(0, .const (.int .u8 16)), (1, .const (.int .u8 241)), (2, .const (.int .u8 231)), (3, .const (.int .u8 228)), (4, .const (.int .u8 209)), (5, .const (.int .u8 59)), (6, .const (.int .u8 89)), (7, .const (.int .u8 21))]) (hc : ∀ v, ρ (.const v) = v) : (execOp ρ o).run Try.prog w = .ok (.value (.slice (some ⟨w.heap.size, 0, none⟩) 8 8)) (w.alloc (.cells (ints .u8 ltB 8).toArray 5)) := by
  simp only [execOp, ho, List.map_toArray, List.map_cons, List.map_nil, hc]
  kernel_rfl
theorem ex_litG (ho : o.op = .buildSlice 22 16 #[(0, .const (.int .u8 168)), (1, .const (.int .u8 6)), (2, .const (.int .u8 29)), (3, .const (.int .u8 193)), (4, .const (.int .u8 48)), (5, .const (.int .u8 81)), (6, .const (.int .u8 54)), (7, .const (.int .u8 198)), (8, .const (.int .u8 194)), (9, .const (.int .u8 43)), (10, .const (.int .u8 139)), (11, .const (.int .u8 175)), (12, .const (.int .u8 12)), (13, .const (.int .u8 1)), (14, .const (.int .u8 39)), (15, .const (.int .u8 169))]) (hc : ∀ v, ρ (.const v) = v) : (execOp ρ o).run Try.prog w = .ok (.value (.slice (some ⟨w.heap.size, 0, none⟩) 16 16)) (w.alloc (.cells (ints .u8 ltG 16).toArray 5)) := by
  simp only [execOp, ho, List.map_toArray, List.map_cons, List.map_nil, hc]
  kernel_rfl
theorem ex_cvS {n c : Nat} (ho : o.op = .convert 22 22 x) (hx : ρ x = .slice (some ⟨g, 0, none⟩) n c) : (execOp ρ o).run Try.prog w = .ok (.value (.slice (some ⟨g, 0, none⟩) n c)) (mkw w g) := by
  have h5 : Try.prog.underlying 5 = some (.int .u8) := by kernel_rfl
  simp only [execOp, ho, hx]
  unfold mkw
  cases hs : w.shape? g <;> simp [convert, run_underlying Try.underlying22, run_underlying h5, markStringish, hs, Result.andThen]
theorem ex_neE (ho : o.op = .binOp .neq 26 x y 26) (hx : ρ x = .int .i64 ((a : Nat) : Int)) (hy : ρ y = .int .i64 ((b : Nat) : Int)) {t : Bool} (ht : decide (a ≠ b) = t) : (execOp ρ o).run Try.prog w = .ok (.value (.bool t)) w := by
  subst ht
  simp only [execOp, ho, hx, hy]
  clear ho hx hy
  have e : ((a : Int) == b) = decide (a = b) := by rw [Bool.eq_iff_iff]; simp; omega
  go_simp
  show (!((a : Int) == b)) = _
  rw [e]
theorem ex_eqE (ho : o.op = .binOp .eql 26 x y 26) (hx : ρ x = .int .i64 ((a : Nat) : Int)) (hy : ρ y = .int .i64 ((b : Nat) : Int)) {t : Bool} (ht : decide (a = b) = t) : (execOp ρ o).run Try.prog w = .ok (.value (.bool t)) w := by
  subst ht
  simp only [execOp, ho, hx, hy]
  clear ho hx hy
  have e : ((a : Int) == b) = decide (a = b) := by rw [Bool.eq_iff_iff]; simp; omega
  go_simp
end
theorem lit_256 (l : List Nat) (h : l.all (fun x => decide (x < 256)) = true) (j : Nat) : l.getD j 0 < 256 := by
  rw [List.getD_eq_getElem?_getD]
  cases e : l[j]? with
  | none => show 0 < 256; decide
  | some v =>
    have := List.all_eq_true.1 h v (List.mem_of_getElem? e)
    simpa using this
theorem ltO_256 (j : Nat) : ltO j < 256 := lit_256 _ (by decide) j
theorem ltT_256 (j : Nat) : ltT j < 256 := lit_256 _ (by decide) j
theorem ltB_256 (j : Nat) : ltB j < 256 := lit_256 _ (by decide) j
theorem ltG_256 (j : Nat) : ltG j < 256 := lit_256 _ (by decide) j
theorem known_block : ∀ j, j < 8 → bk kyf nof 1 j = ltB j := by decide +kernel
theorem known_tag : ∀ j, j < 16 → tt (tga (rk ltO) ltT 34) (sk ltO) j = ltG j := by decide +kernel
theorem known_other : ¬ ∀ j, j < 16 → mt ltO nof pno.f pno.n (sl0 kyf nof pno.f 0 pno.f 0) (16 - 16) j = sl0 kyf nof pno.f 0 pno.f 0 ((16 - 16) + j) := by decide +kernel
end Rg
end Go.Proofs.Ytkkippfikfjdpaa
end
section
namespace Go.Proofs.Ytkkippfikfjdpaa
open Go.RowKit
namespace Rg
set_option maxRecDepth 100000
theorem ebi_eb8 {n : Nat} (h : n < 18446744073709551616) : ebi n = eb8 n := by
  funext j
  unfold ebi eb8 sr c64
  rw [Nat.mod_eq_of_lt h]
theorem eb8_dg (n j : Nat) : eb8 n j = dg (c64 n) j := by
  unfold eb8 sr dg
  rw [show (2 : Nat) ^ (8 * j) = 256 ^ j by rw [Nat.pow_mul]]
theorem zf_up (n : Nat) : n + zf n = 16 * ((n + 15) / 16) := by
  unfold zf
  omega
theorem al_a {M S : Nat → Nat} {m s j : Nat} (h : j < m + zf m) : al M m S s j = kz M m j := by
  unfold al ct
  rw [if_pos (by omega), if_pos (by omega), if_pos h]
theorem al_b {M S : Nat → Nat} {m s j : Nat} (h : j < s + zf s) : al M m S s (m + zf m + j) = kz S s j := by
  unfold al ct
  rw [if_pos (by omega), if_pos (by omega), if_neg (by omega), Nat.add_sub_cancel_left]
theorem al_c {M S : Nat → Nat} {m s j : Nat} (h : j < 16) : al M m S s (m + zf m + (s + zf s) + j) = dg (c64 m + c64 s * 18446744073709551616) j := by
  rw [dg_two (show c64 m < 18446744073709551616 from Nat.mod_lt _ (by decide))]
  unfold al ct
  by_cases e : j < 8
  · rw [if_pos (by omega), if_neg (by omega), if_pos e, Nat.add_sub_cancel_left, eb8_dg]
  · rw [if_neg (by omega), if_neg e, eb8_dg]
    congr 1
    omega
/-- The tag's number of what is put together is that of the sealed text. -/
theorem tga_al (B M S : Nat → Nat) (m s : Nat) : tga (rk B) (al M m S s) (ll m s) = sgn B M m S s := by
  have e1 := zf_up m
  have e2 := zf_up s
  unfold tga ll
  rw [if_pos (by omega), show (m + zf m + (s + zf s) + 8 + 8) / 16 = (m + 15) / 16 + ((s + 15) / 16 + 1) by omega, pgs_add, pgs_succ]
  rw [pgs_cg (f := al M m S s) (f' := kz M m) (k := (m + 15) / 16) (fun j hj => al_a (by omega))]
  rw [pgs_cg (f := fun j => al M m S s (16 * ((m + 15) / 16) + j)) (f' := kz S s) (k := (s + 15) / 16) (fun j hj => by rw [← e1]; exact al_b (by omega))]
  rw [nv_cg (f := fun j => al M m S s (16 * ((m + 15) / 16) + (16 * ((s + 15) / 16) + j))) (g := dg (c64 m + c64 s * 18446744073709551616)) 16 (fun j hj => by
    show al M m S s (16 * ((m + 15) / 16) + (16 * ((s + 15) / 16) + j)) = _
    rw [← Nat.add_assoc, ← e1, ← e2]
    exact al_c hj)]
  rfl
theorem mm_ne {w : World} {l : List (Nat × List Value)} (h : Mm w l) (i j : Nat) {p q : Nat × List Value} (hi : l[i]? = some p) (hj : l[j]? = some q) (hij : i ≠ j) : p.1 ≠ q.1 := by
  have := (h.two i j hi hj hij).nd
  simp only [List.pairwise_cons, List.mem_singleton, forall_eq] at this
  exact this.1
end Rg
end Go.Proofs.Ytkkippfikfjdpaa
end
section
namespace Go.Proofs.Ytkkippfikfjdpaa
open Go.RowKit
namespace Rg
section
variable {P : Program} {full : Array Oper} {Q : Exit → Act → World → Prop} {S : World → Prop}
/-- Operations one behind the other, the free ones being done. -/
def Ch (P : Program) (full : Array Oper) (Q : Act → World → Prop) (S : World → Prop) : List Nat → Act → World → Prop
  | [], b, w => Q b w
  | i :: r, b, w => ∃ o d, full[i]? = some o ∧ o.dst = some d ∧
      ((∃ v w', (execOp b.eval o).run P w = .ok (.value v) w' ∧ S w' ∧ Ch P full Q S r (b.put (some d) v) w') ∨
       (∃ (f : FuncId) (args : Array Value) (R : Value → World → Prop), (execOp b.eval o).run P w = .ok (.enter f args) w ∧ Calls P f args w (fun e w' => ∃ v, e = .returned v ∧ R v w') ∧ ∀ v w', R v w' → S w' ∧ Ch P full Q S r (b.put (some d) v) w'))
theorem ch_nil {E : Act → World → Prop} {b : Act} {w : World} (h : E b w) : Ch P full E S [] b w := h
theorem ch_set {E : Act → World → Prop} {i d : Nat} {r : List Nat} {o : Oper} {v : Value} {b : Act} {w w' : World} (ho : full[i]? = some o) (hd : o.dst = some d) (_ : True) (hx : (execOp b.eval o).run P w = .ok (.value v) w') (hS : S w') (h : Ch P full E S r (b.put (some d) v) w') : Ch P full E S (i :: r) b w :=
  ⟨o, d, ho, hd, .inl ⟨v, w', hx, hS, h⟩⟩
theorem ch_enter {E : Act → World → Prop} {i d : Nat} {r : List Nat} {o : Oper} {f : FuncId} {args : Array Value} {R : Value → World → Prop} {b : Act} {w : World} (ho : full[i]? = some o) (hd : o.dst = some d) (_ : True) (hx : (execOp b.eval o).run P w = .ok (.enter f args) w)
    (hc : Calls P f args w (fun e w' => ∃ v, e = .returned v ∧ R v w')) (hS : ∀ v w', R v w' → S w') (h : ∀ v w', R v w' → Ch P full E S r (b.put (some d) v) w') : Ch P full E S (i :: r) b w :=
  ⟨o, d, ho, hd, .inr ⟨f, args, R, hx, hc, fun v w' hr => ⟨hS v w' hr, h v w' hr⟩⟩⟩
def chainly (full : Array Oper) (free : List Nat) : List Nat → Bool
  | [] => true
  | c :: r => !(free.contains c) && r.all (fun j => match full[j]? with | some o => waitsT full 12 o c | none => false) && chainly full free r
def freely (full : Array Oper) (n : Nat) (free chain : List Nat) : Bool :=
  eachOp full (fun i o => o.after.all fun e => !Region.binds .any e || decide (e.on < i)) && Region.noSelect full &&
  eachOp full (fun _ o => o.guard.isNone && (match o.dst with | some d => decide (d < n) | none => false)) &&
  eachOp full (fun i o => eachOp full fun j oj => !(free.contains j) || decide (i = j) || oj.dst != o.dst) &&
  eachOp full (fun i o => !(free.contains i || chain.contains i) || (o.looksAt full).all fun d => eachOp full fun j oj => oj.dst != some d || (if free.contains j then waitsT full 12 o j else !(free.contains i) || !(chain.contains j))) &&
  chainly full free chain
/-- All operations are of a list. -/
def allin (full : Array Oper) (l : List Nat) : Bool := (List.range full.size).all fun i => l.contains i
/-- Operations that come behind the chain's last one. -/
def behind (full : Array Oper) (free chain rm : List Nat) : Bool := rm.all fun j => !(free.contains j) && !(chain.contains j) && (match chain.getLast?, full[j]? with | some c, some o => waitsT full 12 o c | _, _ => false)
/-- A frame that lacks just what free operations have still to bring. -/
structure Ag (full : Array Oper) (free : List Nat) (l : Array Bool) (a b : Act) : Prop where
  defers : a.defers = b.defers
  size : a.tmps.size = b.tmps.size
  slots : ∀ d, (∀ i, i ∈ free → ∀ o, full[i]? = some o → o.dst = some d → l.getD i false = true) → a.tmps[d]? = b.tmps[d]?
theorem Ag.whole {free : List Nat} {l : Array Bool} {a b : Act} (h : Ag full free l a b) (hl : ∀ i, i < full.size → l.getD i false = true) : a = b := by
  obtain ⟨t, df⟩ := a
  obtain ⟨t', df'⟩ := b
  have h1 := h.defers
  have h2 : t = t' := by
    apply Array.ext_getElem?
    intro d
    exact h.slots d (fun i _ o ho _ => hl i (Array.getElem?_eq_some_iff.1 ho).1)
  simp only at h1 h2
  rw [h1, h2]
theorem put_at (a : Act) {d : Nat} (v : Value) (h : d < a.tmps.size) : (a.put (some d) v).tmps[d]? = some v := by
  simp only [Act.put, Array.getElem?_setIfInBounds, if_true, h]
theorem chainly_at {free : List Nat} : ∀ {c : List Nat}, chainly full free c = true → ∀ {p r : List Nat} {x : Nat}, c = p ++ x :: r → x ∉ free ∧ ∀ j, j ∈ r → ∃ o, full[j]? = some o ∧ waitsT full 12 o x = true
  | [], _, p, r, x, e => by cases p <;> cases e
  | y :: c, h, p, r, x, e => by
    unfold chainly at h
    simp only [Bool.and_eq_true] at h
    cases p with
    | nil =>
      injection e with e1 e2
      subst e1 e2
      refine ⟨fun hm => ?_, fun j hj => ?_⟩
      · have h2 := h.1.1
        rw [List.contains_iff_mem.2 hm] at h2
        cases h2
      · have h2 := List.all_eq_true.1 h.1.2 j hj
        cases ho : full[j]? with
        | none => rw [ho] at h2; cases h2
        | some o => rw [ho] at h2; exact ⟨o, rfl, h2⟩
    | cons z p =>
      injection e with e1 e2
      exact chainly_at h.2 e2
theorem free_any {n : Nat} {free chain : List Nat} {a₁ : Act} (hchk : freely full n free chain = true) (_hn : a₁.tmps.size = n)
    (hfree : ∀ i, i ∈ free → ∃ o d v, full[i]? = some o ∧ o.dst = some d ∧ a₁.tmps[d]? = some v ∧ ∀ w, S w → (execOp a₁.eval o).run P w = .ok (.value v) w) :
    ∀ (fuel : Nat) (l : Array Bool) (a b : Act) (w : World) (p r : List Nat), l.size = full.size → l.toList.count false ≤ fuel → Closed full l → chain = p ++ r → (∀ i, i ∈ r → l.getD i false = false) → (∀ i, i < full.size → l.getD i true = false → i ∈ r ∨ i ∈ free) →
      Ag full free l a b → (∀ d, (∀ j, j ∈ chain → ∀ oj, full[j]? = some oj → oj.dst ≠ some d) → b.tmps[d]? = a₁.tmps[d]?) → b.tmps.size = n → S w → Ch P full (Q .normal) S r b w → wpAny P .any full Q fuel l a w := by
  unfold freely at hchk
  simp only [Bool.and_eq_true] at hchk
  obtain ⟨⟨⟨⟨⟨c1, c2⟩, c3⟩, c4⟩, c5⟩, c6⟩ := hchk
  have hup : ∀ {i : Nat} {o : Oper}, full[i]? = some o → ∀ e ∈ o.after, Region.binds .any e = true → e.on < i := fun ho e he hb => by
    have := Array.all_eq_true_iff_forall_mem.1 (eachOp_spec c1 ho) e he
    simpa [hb] using this
  have hgu : ∀ {i : Nat} {o : Oper}, full[i]? = some o → o.guard = none := fun ho => by
    have := eachOp_spec c3 ho
    simp only [Bool.and_eq_true, Option.isNone_iff_eq_none] at this
    exact this.1
  have hsel : ∀ {i : Nat} {o : Oper}, full[i]? = some o → ∀ cs b, o.op ≠ .select cs b := fun {i o} ho cs b => Region.noSelect_spec c2 i o cs b ho
  have hlook : ∀ {i : Nat} {o : Oper}, i ∈ free ∨ i ∈ chain → full[i]? = some o → ∀ d, d ∈ o.looksAt full → ∀ {j : Nat} {oj : Oper}, full[j]? = some oj → oj.dst = some d → (j ∈ free → waitsT full 12 o j = true) ∧ (j ∉ free → i ∈ free → j ∉ chain) := fun {i o} him ho d hd {j oj} hj hdj => by
    have h0 := eachOp_spec c5 ho
    have h1 : (free.contains i || chain.contains i) = true := by
      rw [Bool.or_eq_true, List.contains_iff_mem, List.contains_iff_mem]
      exact him
    rw [h1, Bool.not_true, Bool.false_or] at h0
    have := eachOp_spec (List.all_eq_true.1 h0 d hd) hj
    simp only [hdj, bne_self_eq_false, Bool.false_or] at this
    refine ⟨fun hm => ?_, fun hm hi hc => ?_⟩
    · rwa [if_pos (List.contains_iff_mem.2 hm)] at this
    · rw [if_neg (by rw [List.contains_iff_mem]; exact hm), List.contains_iff_mem.2 hi, List.contains_iff_mem.2 hc] at this
      cases this
  have huniq : ∀ {i j : Nat} {o oj : Oper}, full[i]? = some o → full[j]? = some oj → j ∈ free → oj.dst = o.dst → i = j := fun {i j o oj} ho hj hm e => by
    have := eachOp_spec (eachOp_spec c4 ho) hj
    simp only [List.contains_iff_mem.2 hm, e, bne_self_eq_false, Bool.or_false, Bool.not_true, Bool.false_or, decide_eq_true_eq] at this
    exact this
  -- what an operation sees
  have sees : ∀ {l : Array Bool} {a b : Act} {i : Nat} {o : Oper}, i ∈ free ∨ i ∈ chain → Closed full l → Ag full free l a b → full[i]? = some o → (∀ e ∈ o.after, Region.binds .any e = true → l.getD e.on false = true) → execOp a.eval o = execOp b.eval o := fun {l a b i o} him hcl hA ho hedge => by
    refine execOp_congr o (hsel ho) (fun x hx => ?_)
    cases x with
    | tmp t =>
      have hd : t ∈ o.looksAt full := List.mem_append_left _ (List.mem_filterMap.2 ⟨.tmp t, by simpa using hx, rfl⟩)
      have := hA.slots t (fun j hj oj hoj hdj => waitsT_spec hcl 12 o ((hlook him ho t hd hoj hdj).1 hj) hedge)
      simp only [Act.eval, Array.getD_eq_getD_getElem?, this]
    | _ => rfl
  intro fuel
  induction fuel with
  | zero =>
    intro l a b w p r hsz hc hcl hch hr hun hA hF hbs hSw hQ
    have hall : ∀ i, i < full.size → l.getD i false = true := fun i hi => by
      cases hb : l.getD i true with
      | false => have := count_set hb; omega
      | true =>
        have hi' : i < l.size := by omega
        simpa [hi'] using hb
    cases r with
    | cons c r =>
      have h1 := hr c (by simp)
      obtain ⟨o, d, ho, _⟩ := hQ
      rw [hall c (Array.getElem?_eq_some_iff.1 ho).1] at h1
      cases h1
    | nil =>
      refine ⟨?_, by rw [hA.whole hall]; exact hQ⟩
      apply List.eq_nil_iff_forall_not_mem.2
      intro i hi
      obtain ⟨h1, o, ho, _⟩ := mem_ready.1 hi
      have h2 := hall i (Array.getElem?_eq_some_iff.1 ho).1
      rw [(getD_same h1).1] at h2
      cases h2
  | succ fuel ih =>
    intro l a b w p r hsz hc hcl hch hr hun hA hF hbs hSw hQ
    refine ⟨fun hrd => ?_, fun i hi => ?_⟩
    · have hall := ready_all hup hsz hrd
      cases r with
      | cons c r =>
        have h1 := hr c (by simp)
        obtain ⟨o, d, ho, _⟩ := hQ
        rw [hall c (Array.getElem?_eq_some_iff.1 ho).1] at h1
        cases h1
      | nil => rw [hA.whole hall]; exact hQ
    · obtain ⟨hui, o, ho, hedge⟩ := mem_ready.1 hi
      have hilt : i < full.size := (Array.getElem?_eq_some_iff.1 ho).1
      have hcnt := count_set hui
      have him : i ∈ free ∨ i ∈ chain := by
        rcases hun i hilt hui with h | h
        · exact .inr (by rw [hch]; exact List.mem_append_right _ h)
        · exact .inl h
      have hse := sees him hcl hA ho hedge
      have hwn : Region.wanted o (yielded full a.tmps) = true := by unfold Region.wanted; rw [hgu ho]
      by_cases hfi : i ∈ free
      · obtain ⟨o', d, v, ho', hd, hv, hx⟩ := hfree i hfi
        rw [ho] at ho'
        injection ho' with ho'
        subst ho'
        have hse2 : execOp b.eval o = execOp a₁.eval o := by
          refine execOp_congr o (hsel ho) (fun x hx => ?_)
          cases x with
          | tmp t =>
            have hd : t ∈ o.looksAt full := List.mem_append_left _ (List.mem_filterMap.2 ⟨.tmp t, by simpa using hx, rfl⟩)
            have := hF t (fun j hj oj hoj hdj => by
              have h1 := (hlook (.inl hfi) ho t hd hoj hdj).2 (fun hm => by
                obtain ⟨s1, s2, e⟩ := List.append_of_mem hj
                exact (chainly_at c6 e).1 hm) hfi
              exact h1 hj)
            simp only [Act.eval, Array.getD_eq_getD_getElem?, this]
          | _ => rfl
        refine wpOp_step ho (fun K' hK => ?_)
        rw [if_pos hwn]
        unfold Oper.wp
        rw [hse, hse2, hx w hSw]
        have hbd : b.tmps[d]? = some v := by
          rw [hF d (fun j hj oj hoj hdj => ?_)]
          · exact hv
          · have e := huniq hoj ho hfi (by rw [hd, hdj])
            subst e
            obtain ⟨s1, s2, e⟩ := List.append_of_mem hj
            exact (chainly_at c6 e).1 hfi
        have hdlt : d < a.tmps.size := by rw [hA.size]; exact (Array.getElem?_eq_some_iff.1 hbd).1
        refine hK _ _ (ih _ _ b w p r (by simp [hsz]) (by omega) (hcl.step ho hedge) hch (fun j hj => ?_) (fun j hj hj2 => ?_) ⟨?_, ?_, fun d' hd' => ?_⟩ hF hbs hSw hQ)
        · have hne : i ≠ j := fun e => by
            subst e
            have h3 : i ∈ chain := by rw [hch]; exact List.mem_append_right _ hj
            obtain ⟨s1, s2, e⟩ := List.append_of_mem h3
            exact (chainly_at c6 e).1 hfi
          rw [getD_set_ne false hne]
          exact hr j hj
        · by_cases e : i = j
          · subst e; exact .inr hfi
          · rw [getD_set_ne true e] at hj2
            exact hun j hj hj2
        · rw [hd, put_defers']; exact hA.defers
        · rw [hd, put_size]; exact hA.size
        · by_cases e : d' = d
          · subst e
            rw [hd, put_at a v hdlt, hbd]
          · rw [put_other a o.dst v d' (by rw [hd]; intro h; injection h with h; exact e h.symm)]
            refine hA.slots d' (fun j hj oj hoj hdj => ?_)
            have hne : i ≠ j := fun e2 => by
              subst e2
              rw [ho] at hoj
              injection hoj with hoj
              subst hoj
              rw [hd] at hdj
              injection hdj with hdj
              exact e hdj.symm
            have := hd' j hj oj hoj hdj
            rwa [getD_set_ne false hne] at this
      · have hir := (hun i hilt hui).resolve_right hfi
        cases r with
        | nil => cases hir
        | cons c r =>
          have hcc := chainly_at c6 hch
          have hic : i = c := by
            rcases List.mem_cons.1 hir with e | e
            · exact e
            · obtain ⟨o', ho', hw'⟩ := hcc.2 i e
              rw [ho] at ho'
              injection ho' with ho'
              subst ho'
              have h1 := waitsT_spec hcl 12 o hw' hedge
              rw [hr c (by simp)] at h1
              cases h1
          subst hic
          obtain ⟨o', d, ho', hd, hstep⟩ := hQ
          rw [ho] at ho'
          injection ho' with ho'
          subst ho'
          have hdn : d < n := by
            have := eachOp_spec c3 ho
            simp only [Bool.and_eq_true, hd, decide_eq_true_eq] at this
            exact this.2
          have hnr : i ∉ r := fun hm => by
            obtain ⟨o', ho', hw'⟩ := hcc.2 i hm
            rw [ho] at ho'
            injection ho' with ho'
            subst ho'
            have h1 := waitsT_spec hcl 12 o hw' hedge
            rw [hr i (by simp)] at h1
            cases h1
          have next : ∀ v w', S w' → Ch P full (Q .normal) S r (b.put (some d) v) w' → wpAny P .any full Q fuel (l.setIfInBounds i true) (a.put o.dst v) w' := fun v w' hS' hQ' => by
            refine ih _ _ (b.put (some d) v) w' (p ++ [i]) r (by simp [hsz]) (by omega) (hcl.step ho hedge) (by rw [hch]; simp) (fun j hj => ?_) (fun j hj hj2 => ?_) ⟨?_, ?_, fun d' hd' => ?_⟩ (fun d' hd' => ?_) (by rw [put_size]; exact hbs) hS' hQ'
            · rw [getD_set_ne false (fun e => hnr (by rw [e]; exact hj))]
              exact hr j (by simp [hj])
            · by_cases e : i = j
              · subst e
                have hi' : i < l.size := by omega
                simp [hi'] at hj2
              · rw [getD_set_ne true e] at hj2
                rcases hun j hj hj2 with h | h
                · rcases List.mem_cons.1 h with h | h
                  · exact absurd h.symm e
                  · exact .inl h
                · exact .inr h
            · rw [put_defers', put_defers']; exact hA.defers
            · rw [put_size, put_size]; exact hA.size
            · by_cases e : d' = d
              · subst e
                rw [hd, put_at a v (by rw [hA.size, hbs]; exact hdn), put_at b v (by rw [hbs]; exact hdn)]
              · rw [put_other a o.dst v d' (by rw [hd]; intro h; injection h with h; exact e h.symm), put_other b (some d) v d' (by intro h; injection h with h; exact e h.symm)]
                refine hA.slots d' (fun j hj oj hoj hdj => ?_)
                have hne : i ≠ j := fun e2 => hfi (by rw [e2]; exact hj)
                have := hd' j hj oj hoj hdj
                rwa [getD_set_ne false hne] at this
            · rw [put_other b (some d) v d' (fun h => by
                injection h with h
                exact hd' i (by rw [hch]; simp) o ho (by rw [hd, h]))]
              exact hF d' hd'
          refine wpOp_step ho (fun K' hK => ?_)
          rw [if_pos hwn]
          unfold Oper.wp
          rw [hse]
          rcases hstep with ⟨v, w', hx, hS', hQ'⟩ | ⟨f, args, R, hx, hcall, hQ'⟩
          · rw [hx]
            exact hK _ _ (next v w' hS' hQ')
          · rw [hx]
            refine Calls.mono hcall ?_
            rintro e w' ⟨v, rfl, hR⟩
            exact hK _ _ (next v w' (hQ' v w' hR).1 (hQ' v w' hR).2)
theorem free_first {n : Nat} {free chain rm : List Nat} {a₁ : Act} {E : Act → World → Prop} (hchk : freely full n free chain = true) (hbe : behind full free chain rm = true) (_hn : a₁.tmps.size = n)
    (hfree : ∀ i, i ∈ free → ∃ o d v, full[i]? = some o ∧ o.dst = some d ∧ a₁.tmps[d]? = some v ∧ ∀ w, S w → (execOp a₁.eval o).run P w = .ok (.value v) w)
    (hE : ∀ (fuel : Nat) (l : Array Bool) (a b : Act) (w : World), l.size = full.size → l.toList.count false ≤ fuel → Closed full l → (∀ i, i ∈ rm → l.getD i false = false) → (∀ i, i < full.size → l.getD i true = false → i ∈ rm ∨ i ∈ free) → Ag full free l a b → (∀ d, (∀ j, j ∈ chain → ∀ oj, full[j]? = some oj → oj.dst ≠ some d) → b.tmps[d]? = a₁.tmps[d]?) → b.tmps.size = n → S w → E b w → wpAny P .any full Q fuel l a w) :
    ∀ (fuel : Nat) (l : Array Bool) (a b : Act) (w : World) (p r : List Nat), l.size = full.size → l.toList.count false ≤ fuel → Closed full l → chain = p ++ r → (∀ i, i ∈ r → l.getD i false = false) → (∀ i, i ∈ rm → l.getD i false = false) → (∀ i, i < full.size → l.getD i true = false → i ∈ r ∨ i ∈ free ∨ i ∈ rm) →
      Ag full free l a b → (∀ d, (∀ j, j ∈ chain → ∀ oj, full[j]? = some oj → oj.dst ≠ some d) → b.tmps[d]? = a₁.tmps[d]?) → b.tmps.size = n → S w → Ch P full E S r b w → wpAny P .any full Q fuel l a w := by
  unfold freely at hchk
  simp only [Bool.and_eq_true] at hchk
  obtain ⟨⟨⟨⟨⟨c1, c2⟩, c3⟩, c4⟩, c5⟩, c6⟩ := hchk
  have hup : ∀ {i : Nat} {o : Oper}, full[i]? = some o → ∀ e ∈ o.after, Region.binds .any e = true → e.on < i := fun ho e he hb => by
    have := Array.all_eq_true_iff_forall_mem.1 (eachOp_spec c1 ho) e he
    simpa [hb] using this
  have hgu : ∀ {i : Nat} {o : Oper}, full[i]? = some o → o.guard = none := fun ho => by
    have := eachOp_spec c3 ho
    simp only [Bool.and_eq_true, Option.isNone_iff_eq_none] at this
    exact this.1
  have hsel : ∀ {i : Nat} {o : Oper}, full[i]? = some o → ∀ cs b, o.op ≠ .select cs b := fun {i o} ho cs b => Region.noSelect_spec c2 i o cs b ho
  have hlook : ∀ {i : Nat} {o : Oper}, i ∈ free ∨ i ∈ chain → full[i]? = some o → ∀ d, d ∈ o.looksAt full → ∀ {j : Nat} {oj : Oper}, full[j]? = some oj → oj.dst = some d → (j ∈ free → waitsT full 12 o j = true) ∧ (j ∉ free → i ∈ free → j ∉ chain) := fun {i o} him ho d hd {j oj} hj hdj => by
    have h0 := eachOp_spec c5 ho
    have h1 : (free.contains i || chain.contains i) = true := by
      rw [Bool.or_eq_true, List.contains_iff_mem, List.contains_iff_mem]
      exact him
    rw [h1, Bool.not_true, Bool.false_or] at h0
    have := eachOp_spec (List.all_eq_true.1 h0 d hd) hj
    simp only [hdj, bne_self_eq_false, Bool.false_or] at this
    refine ⟨fun hm => ?_, fun hm hi hc => ?_⟩
    · rwa [if_pos (List.contains_iff_mem.2 hm)] at this
    · rw [if_neg (by rw [List.contains_iff_mem]; exact hm), List.contains_iff_mem.2 hi, List.contains_iff_mem.2 hc] at this
      cases this
  have huniq : ∀ {i j : Nat} {o oj : Oper}, full[i]? = some o → full[j]? = some oj → j ∈ free → oj.dst = o.dst → i = j := fun {i j o oj} ho hj hm e => by
    have := eachOp_spec (eachOp_spec c4 ho) hj
    simp only [List.contains_iff_mem.2 hm, e, bne_self_eq_false, Bool.or_false, Bool.not_true, Bool.false_or, decide_eq_true_eq] at this
    exact this
  -- what an operation sees
  have sees : ∀ {l : Array Bool} {a b : Act} {i : Nat} {o : Oper}, i ∈ free ∨ i ∈ chain → Closed full l → Ag full free l a b → full[i]? = some o → (∀ e ∈ o.after, Region.binds .any e = true → l.getD e.on false = true) → execOp a.eval o = execOp b.eval o := fun {l a b i o} him hcl hA ho hedge => by
    refine execOp_congr o (hsel ho) (fun x hx => ?_)
    cases x with
    | tmp t =>
      have hd : t ∈ o.looksAt full := List.mem_append_left _ (List.mem_filterMap.2 ⟨.tmp t, by simpa using hx, rfl⟩)
      have := hA.slots t (fun j hj oj hoj hdj => waitsT_spec hcl 12 o ((hlook him ho t hd hoj hdj).1 hj) hedge)
      simp only [Act.eval, Array.getD_eq_getD_getElem?, this]
    | _ => rfl
  intro fuel
  induction fuel with
  | zero =>
    intro l a b w p r hsz hc hcl hch hr hrm hun hA hF hbs hSw hQ
    cases r with
    | nil => exact hE 0 l a b w hsz hc hcl hrm (fun i h1 h2 => (hun i h1 h2).elim (fun h => by cases h) Or.symm) hA hF hbs hSw hQ
    | cons c r =>
      have h1 := hr c (by simp)
      obtain ⟨o, d, ho, _⟩ := hQ
      have hlt := (Array.getElem?_eq_some_iff.1 ho).1
      have hb : l.getD c true = false := by
        have hi' : c < l.size := by omega
        simpa [hi'] using h1
      have := count_set hb
      omega
  | succ fuel ih =>
    intro l a b w p r hsz hc hcl hch hr hrm hun hA hF hbs hSw hQ
    by_cases hr0 : r = []
    · subst hr0
      exact hE (fuel + 1) l a b w hsz hc hcl hrm (fun i h1 h2 => (hun i h1 h2).elim (fun h => by cases h) Or.symm) hA hF hbs hSw hQ
    have hlast : ∃ x, chain.getLast? = some x ∧ x ∈ r := by
      refine ⟨r.getLast hr0, ?_, List.getLast_mem hr0⟩
      have e : r.getLast? = some (r.getLast hr0) := by
        first | exact List.getLast?_eq_some_getLast hr0 | exact List.getLast?_eq_getLast _ hr0 | simp [hr0]
      rw [hch, List.getLast?_append, e]
      rfl
    obtain ⟨x, hx1, hx2⟩ := hlast
    refine ⟨fun hrd => ?_, fun i hi => ?_⟩
    · have hall := ready_all hup hsz hrd
      have h1 := hr x hx2
      have hxc : x ∈ chain := by rw [hch]; exact List.mem_append_right _ hx2
      cases r with
      | nil => exact absurd rfl hr0
      | cons c r =>
        have h1 := hr c (by simp)
        obtain ⟨o, d, ho, _⟩ := hQ
        rw [hall c (Array.getElem?_eq_some_iff.1 ho).1] at h1
        cases h1
    · obtain ⟨hui, o, ho, hedge⟩ := mem_ready.1 hi
      have hilt : i < full.size := (Array.getElem?_eq_some_iff.1 ho).1
      have hcnt := count_set hui
      have hnrm : i ∉ rm := fun hm => by
        have h2 := List.all_eq_true.1 hbe i hm
        simp only [hx1, ho, Bool.and_eq_true] at h2
        have h3 := waitsT_spec hcl 12 o h2.2 hedge
        rw [hr x hx2] at h3
        cases h3
      have hun2 : i ∈ r ∨ i ∈ free := by
        rcases hun i hilt hui with h | h | h
        · exact .inl h
        · exact .inr h
        · exact absurd h hnrm
      have him : i ∈ free ∨ i ∈ chain := by
        rcases hun2 with h | h
        · exact .inr (by rw [hch]; exact List.mem_append_right _ h)
        · exact .inl h
      have hse := sees him hcl hA ho hedge
      have hwn : Region.wanted o (yielded full a.tmps) = true := by unfold Region.wanted; rw [hgu ho]
      by_cases hfi : i ∈ free
      · obtain ⟨o', d, v, ho', hd, hv, hx⟩ := hfree i hfi
        rw [ho] at ho'
        injection ho' with ho'
        subst ho'
        have hse2 : execOp b.eval o = execOp a₁.eval o := by
          refine execOp_congr o (hsel ho) (fun x hx => ?_)
          cases x with
          | tmp t =>
            have hd : t ∈ o.looksAt full := List.mem_append_left _ (List.mem_filterMap.2 ⟨.tmp t, by simpa using hx, rfl⟩)
            have := hF t (fun j hj oj hoj hdj => by
              have h1 := (hlook (.inl hfi) ho t hd hoj hdj).2 (fun hm => by
                obtain ⟨s1, s2, e⟩ := List.append_of_mem hj
                exact (chainly_at c6 e).1 hm) hfi
              exact h1 hj)
            simp only [Act.eval, Array.getD_eq_getD_getElem?, this]
          | _ => rfl
        refine wpOp_step ho (fun K' hK => ?_)
        rw [if_pos hwn]
        unfold Oper.wp
        rw [hse, hse2, hx w hSw]
        have hbd : b.tmps[d]? = some v := by
          rw [hF d (fun j hj oj hoj hdj => ?_)]
          · exact hv
          · have e := huniq hoj ho hfi (by rw [hd, hdj])
            subst e
            obtain ⟨s1, s2, e⟩ := List.append_of_mem hj
            exact (chainly_at c6 e).1 hfi
        have hdlt : d < a.tmps.size := by rw [hA.size]; exact (Array.getElem?_eq_some_iff.1 hbd).1
        refine hK _ _ (ih _ _ b w p r (by simp [hsz]) (by omega) (hcl.step ho hedge) hch (fun j hj => ?_) (fun j hj => by rw [getD_set_ne false (fun e => hnrm (by rw [e]; exact hj))]; exact hrm j hj) (fun j hj hj2 => ?_) ⟨?_, ?_, fun d' hd' => ?_⟩ hF hbs hSw hQ)
        · have hne : i ≠ j := fun e => by
            subst e
            have h3 : i ∈ chain := by rw [hch]; exact List.mem_append_right _ hj
            obtain ⟨s1, s2, e⟩ := List.append_of_mem h3
            exact (chainly_at c6 e).1 hfi
          rw [getD_set_ne false hne]
          exact hr j hj
        · by_cases e : i = j
          · subst e; exact .inr (.inl hfi)
          · rw [getD_set_ne true e] at hj2
            exact hun j hj hj2
        · rw [hd, put_defers']; exact hA.defers
        · rw [hd, put_size]; exact hA.size
        · by_cases e : d' = d
          · subst e
            rw [hd, put_at a v hdlt, hbd]
          · rw [put_other a o.dst v d' (by rw [hd]; intro h; injection h with h; exact e h.symm)]
            refine hA.slots d' (fun j hj oj hoj hdj => ?_)
            have hne : i ≠ j := fun e2 => by
              subst e2
              rw [ho] at hoj
              injection hoj with hoj
              subst hoj
              rw [hd] at hdj
              injection hdj with hdj
              exact e hdj.symm
            have := hd' j hj oj hoj hdj
            rwa [getD_set_ne false hne] at this
      · have hir := hun2.resolve_right hfi
        cases r with
        | nil => cases hir
        | cons c r =>
          have hcc := chainly_at c6 hch
          have hic : i = c := by
            rcases List.mem_cons.1 hir with e | e
            · exact e
            · obtain ⟨o', ho', hw'⟩ := hcc.2 i e
              rw [ho] at ho'
              injection ho' with ho'
              subst ho'
              have h1 := waitsT_spec hcl 12 o hw' hedge
              rw [hr c (by simp)] at h1
              cases h1
          subst hic
          obtain ⟨o', d, ho', hd, hstep⟩ := hQ
          rw [ho] at ho'
          injection ho' with ho'
          subst ho'
          have hdn : d < n := by
            have := eachOp_spec c3 ho
            simp only [Bool.and_eq_true, hd, decide_eq_true_eq] at this
            exact this.2
          have hnr : i ∉ r := fun hm => by
            obtain ⟨o', ho', hw'⟩ := hcc.2 i hm
            rw [ho] at ho'
            injection ho' with ho'
            subst ho'
            have h1 := waitsT_spec hcl 12 o hw' hedge
            rw [hr i (by simp)] at h1
            cases h1
          have next : ∀ v w', S w' → Ch P full E S r (b.put (some d) v) w' → wpAny P .any full Q fuel (l.setIfInBounds i true) (a.put o.dst v) w' := fun v w' hS' hQ' => by
            refine ih _ _ (b.put (some d) v) w' (p ++ [i]) r (by simp [hsz]) (by omega) (hcl.step ho hedge) (by rw [hch]; simp) (fun j hj => ?_) (fun j hj => by rw [getD_set_ne false (fun e => hnrm (by rw [e]; exact hj))]; exact hrm j hj) (fun j hj hj2 => ?_) ⟨?_, ?_, fun d' hd' => ?_⟩ (fun d' hd' => ?_) (by rw [put_size]; exact hbs) hS' hQ'
            · rw [getD_set_ne false (fun e => hnr (by rw [e]; exact hj))]
              exact hr j (by simp [hj])
            · by_cases e : i = j
              · subst e
                have hi' : i < l.size := by omega
                simp [hi'] at hj2
              · rw [getD_set_ne true e] at hj2
                rcases hun j hj hj2 with h | h
                · rcases List.mem_cons.1 h with h | h
                  · exact absurd h.symm e
                  · exact .inl h
                · exact .inr h
            · rw [put_defers', put_defers']; exact hA.defers
            · rw [put_size, put_size]; exact hA.size
            · by_cases e : d' = d
              · subst e
                rw [hd, put_at a v (by rw [hA.size, hbs]; exact hdn), put_at b v (by rw [hbs]; exact hdn)]
              · rw [put_other a o.dst v d' (by rw [hd]; intro h; injection h with h; exact e h.symm), put_other b (some d) v d' (by intro h; injection h with h; exact e h.symm)]
                refine hA.slots d' (fun j hj oj hoj hdj => ?_)
                have hne : i ≠ j := fun e2 => hfi (by rw [e2]; exact hj)
                have := hd' j hj oj hoj hdj
                rwa [getD_set_ne false hne] at this
            · rw [put_other b (some d) v d' (fun h => by
                injection h with h
                exact hd' i (by rw [hch]; simp) o ho (by rw [hd, h]))]
              exact hF d' hd'
          refine wpOp_step ho (fun K' hK => ?_)
          rw [if_pos hwn]
          unfold Oper.wp
          rw [hse]
          rcases hstep with ⟨v, w', hx, hS', hQ'⟩ | ⟨f, args, R, hx, hcall, hQ'⟩
          · rw [hx]
            exact hK _ _ (next v w' hS' hQ')
          · rw [hx]
            refine Calls.mono hcall ?_
            rintro e w' ⟨v, rfl, hR⟩
            exact hK _ _ (next v w' (hQ' v w' hR).1 (hQ' v w' hR).2)
/-- Values put into a frame. -/
def fillv : List (Nat × Value) → Act → Act
  | [], a => a
  | (d, v) :: r, a => fillv r (a.put (some d) v)
theorem fillv_size : ∀ (l : List (Nat × Value)) (a : Act), (fillv l a).tmps.size = a.tmps.size
  | [], _ => rfl
  | (d, v) :: r, a => by rw [fillv, fillv_size r, put_size]
theorem fillv_defers : ∀ (l : List (Nat × Value)) (a : Act), (fillv l a).defers = a.defers
  | [], _ => rfl
  | (d, v) :: r, a => by rw [fillv, fillv_defers r, put_defers']
theorem fillv_other : ∀ (l : List (Nat × Value)) (a : Act) {d : Nat}, (∀ p, p ∈ l → p.1 ≠ d) → (fillv l a).tmps[d]? = a.tmps[d]?
  | [], _, _, _ => rfl
  | (d, v) :: r, a, d', h => by
    rw [fillv, fillv_other r _ (fun p hp => h p (by simp [hp])), put_other a (some d) v d' (fun e => by injection e with e; exact h (d, v) (by simp) e)]
/-- The free operations, each with its slot and its value. -/
def FreeOk (P : Program) (full : Array Oper) (S : World → Prop) (b : Act) : List Nat → List (Nat × Value) → Prop
  | i :: r, (d, v) :: s => (∃ o, full[i]? = some o ∧ o.dst = some d ∧ b.tmps[d]? = some v ∧ ∀ w, S w → (execOp b.eval o).run P w = .ok (.value v) w) ∧ FreeOk P full S b r s
  | [], [] => True
  | _, _ => False
theorem FreeOk.at {b : Act} : ∀ {f : List Nat} {s : List (Nat × Value)}, FreeOk P full S b f s → ∀ {i : Nat}, i ∈ f → ∃ o d v, full[i]? = some o ∧ o.dst = some d ∧ (d, v) ∈ s ∧ b.tmps[d]? = some v ∧ ∀ w, S w → (execOp b.eval o).run P w = .ok (.value v) w
  | [], _, _, i, h => by cases h
  | j :: f, [], h, _, _ => by cases h
  | j :: f, (d, v) :: s, h, i, hi => by
    rcases List.mem_cons.1 hi with e | hi
    · subst e
      obtain ⟨o, h1, h2, h3, h4⟩ := h.1
      exact ⟨o, d, v, h1, h2, by simp, h3, h4⟩
    · obtain ⟨o, d', v', h1, h2, h3, h4, h5⟩ := h.2.at hi
      exact ⟨o, d', v', h1, h2, by simp [h3], h4, h5⟩
theorem FreeOk.back {b : Act} : ∀ {f : List Nat} {s : List (Nat × Value)}, FreeOk P full S b f s → ∀ {p : Nat × Value}, p ∈ s → ∃ i o, i ∈ f ∧ full[i]? = some o ∧ o.dst = some p.1
  | [], [], _, p, h => by cases h
  | [], _ :: _, h, _, _ => by cases h
  | j :: f, [], h, _, _ => by cases h
  | j :: f, (d, v) :: s, h, p, hp => by
    rcases List.mem_cons.1 hp with e | hp
    · subst e
      obtain ⟨o, h1, h2, _⟩ := h.1
      exact ⟨j, o, by simp, h1, h2⟩
    · obtain ⟨i, o, h1, h2, h3⟩ := h.2.back hp
      exact ⟨i, o, by simp [h1], h2, h3⟩
/-- What is known where the first chain ends: the values of more operations. -/
def Mid (P : Program) (full : Array Oper) (Q : Act → World → Prop) (S : World → Prop) (free free' chain' : List Nat) (b : Act) (w : World) : Prop :=
  ∃ (vs vs' : List (Nat × Value)) (b' : Act), fillv vs' b = b' ∧ FreeOk P full S b' (free' ++ free) (vs' ++ vs) ∧ FreeOk P full S b' free' vs' ∧ Ch P full Q S chain' b' w
/-- **The law of a region with two chains**, between which the values of more free operations come to be known. -/
theorem walk_free2 {a b : Act} {w : World} {id : Nat} (hm : P.follows .mixedOrders = true) (free chain free' chain' : List Nat) (vs : List (Nat × Value)) (S : World → Prop) (hb : fillv vs a = b)
    (hchk : (freely full a.tmps.size free chain && behind full free chain (free' ++ chain') && freely full a.tmps.size (free' ++ free) chain' && allin full (chain ++ (free ++ (free' ++ chain')))) = true)
    (hok : FreeOk P full S b free vs) (hS : S w.drew) (h : Ch P full (Mid P full (Q .normal) S free free' chain') S chain b w.drew) : (Code.region id full true).wp P Q a w := by
  subst hb
  simp only [Bool.and_eq_true] at hchk
  obtain ⟨⟨⟨k1, k2⟩, k3⟩, k4⟩ := hchk
  refine wp_region_any hm (free_first (a₁ := fillv vs a) (S := S) (rm := free' ++ chain') (E := Mid P full (Q .normal) S free free' chain') k1 k2 (fillv_size vs a) (fun i hi => ?_) ?_ full.size _ a (fillv vs a) w.drew [] chain (by simp) (by simp) (Closed.none _ _) rfl (fun i _ => none_listed _ _) (fun i _ => none_listed _ _) (fun i hi _ => ?_) ⟨(fillv_defers vs a).symm, (fillv_size vs a).symm, fun d hd => ?_⟩ (fun _ _ => rfl) (fillv_size vs a) hS h)
  · obtain ⟨o, d, v, h1, h2, _, h4, h5⟩ := hok.at hi
    exact ⟨o, d, v, h1, h2, h4, h5⟩
  · intro fuel l a2 b2 w2 hsz hc hcl hrm hun hA hF hbs hSw hE
    obtain ⟨vs0, vs', b', rfl, e2, e3, e4⟩ := hE
    refine free_any (a₁ := fillv vs' b2) (S := S) k3 (by rw [fillv_size, hbs]) (fun i hi => ?_) fuel l a2 (fillv vs' b2) w2 [] chain' hsz hc hcl rfl (fun i hi => hrm i (List.mem_append_right _ hi)) (fun i h1 h2 => ?_) ⟨hA.defers.trans (fillv_defers vs' b2).symm, hA.size.trans (fillv_size vs' b2).symm, fun d hd => ?_⟩ (fun _ _ => rfl) (by rw [fillv_size, hbs]) hSw e4
    · obtain ⟨o, d, v, h1, h2, _, h4, h5⟩ := e2.at hi
      exact ⟨o, d, v, h1, h2, h4, h5⟩
    · rcases hun i h1 h2 with h | h
      · rcases List.mem_append.1 h with h | h
        · exact .inr (List.mem_append_left _ h)
        · exact .inl h
      · exact .inr (List.mem_append_right _ h)
    · rw [fillv_other vs' b2 (fun p hp e => ?_)]
      · exact hA.slots d (fun i hi o ho hdi => hd i (List.mem_append_right _ hi) o ho hdi)
      · obtain ⟨i, o, h1, h2, h3⟩ := e3.back hp
        have h4 := hd i (List.mem_append_left _ h1) o h2 (by rw [h3, e])
        rw [hrm i (List.mem_append_left _ h1)] at h4
        cases h4
  · have := List.all_eq_true.1 k4 i (List.mem_range.2 hi)
    rw [List.contains_iff_mem, List.mem_append, List.mem_append] at this
    rcases this with h | h | h
    · exact .inl h
    · exact .inr (.inl h)
    · exact .inr (.inr h)
  · rw [fillv_other vs a (fun p hp e => ?_)]
    obtain ⟨i, o, h1, h2, h3⟩ := hok.back hp
    have := hd i h1 o h2 (by rw [h3, e])
    rw [none_listed] at this
    cases this
end
end Rg
end Go.Proofs.Ytkkippfikfjdpaa
end
section
namespace Go.Proofs.Ytkkippfikfjdpaa
open Go.RowKit
namespace Rg
set_option maxRecDepth 100000
theorem call9 : ∀ args w, (callFunc 9 args).run Try.prog w = .ok (.enter 9 args) w := by intro args w; go_simp
theorem call13 : ∀ args w, (callFunc 13 args).run Try.prog w = .ok (.enter 13 args) w := by intro args w; go_simp
theorem call43 : ∀ args w, (callFunc 43 args).run Try.prog w = .ok (.enter 43 args) w := by intro args w; go_simp
theorem call44 : ∀ args w, (callFunc 44 args).run Try.prog w = .ok (.enter 44 args) w := by intro args w; go_simp
set_option maxHeartbeats 4000000 in
set_option maxRecDepth 100000 in
theorem ltag_any (K N : Nat → Nat) (gk ok ck gn on cn : Nat) (hck : 32 ≤ ck) (hcn : 12 ≤ cn) (q mo : Pt8) (hq : Pok q) (hmo : Pok mo) (hNq0 : q.p = none → q.cp = 0) (hNmo0 : mo.p = none → mo.cp = 0) (hfq : ∀ j, q.f j < 256) (hfmo : ∀ j, mo.f j < 256) (hnq : q.n ≤ 100000) (hnmo : mo.n ≤ 100000) (w : World) (hRk : Rs gk ok 32 K w) (hRn : Rs gn on 12 N w) (hRb : q.rs w) (hRm : mo.rs w) :
    Calls Try.prog 26 #[.slice (some ⟨gk, ok, none⟩) 32 ck, .slice (some ⟨gn, on, none⟩) 12 cn, .slice q.p q.n q.cp, .slice mo.p mo.n mo.cp] w fun e w' => Below w.heap.size w w' ∧ ∃ g, e = .returned (.tuple #[.slice (some ⟨g, 0, none⟩) 16 16, .bool true]) ∧ w.heap.size ≤ g ∧ g < w'.heap.size ∧ Blk w' g (ints .u8 (mt K N mo.f mo.n q.f q.n) 16) := by
  have H0 : Hid (_ ∧ _) := ⟨Mm.nil w, Below.refl w.heap.size w⟩
  have RK : Hid (Rs gk ok 32 K w) := hRk
  have RN : Hid (Rs gn on 12 N w) := hRn
  have Rq : Hid (q.rs w) := hRb
  have Rmo : Hid (mo.rs w) := hRm
  have hNq : Hid _ := hNq0
  have hNmo : Hid _ := hNmo0
  have hz1 : zf mo.n < 16 := by unfold zf; omega
  have hz2 : zf q.n < 16 := by unfold zf; omega
  clear hRk hRn hRb hRm hNq0 hNmo0
  go_enter Try.func26, Try.ntmps26
  refine wp_seq ?_
  refine walk_seqB 2 [.quiet (.slice none 0 0), .quiet (.bool false)] H0 ?ho1 ?he1
  case ho1 => exact ak (fun _ => ⟨rfl, fun _ _ => rfl⟩) (ak (fun _ => ⟨rfl, fun _ _ => rfl⟩) trivial)
  intro _ w1 H1
  refine rest0 rfl (then_normal (wp_seq ?_))
  refine walk_seqB 2 [.quiet (.slice (some ⟨gk, ok, none⟩) 32 ck), .quiet (.slice (some ⟨gn, on, none⟩) 12 cn)] H1 ?ho2 ?he2
  case ho2 => exact ak (fun _ => ⟨rfl, fun _ _ => rfl⟩) (ak (fun _ => ⟨rfl, fun _ _ => rfl⟩) trivial)
  intro _ w2 H2
  clear H1
  refine rest_at (l := [2, 3, 4, 5, 6, 7]) rfl ?_
  refine rest_enter (d := 18) (R := fun vv w' => Below w2.heap.size w2 w' ∧ ∃ g, vv = .tuple #[.slice (some ⟨g, 0, none⟩) 64 64, .int .i64 0] ∧ w2.heap.size ≤ g ∧ g < w'.heap.size ∧ Blk w' g (ints .u8 (bk K N 0) 64)) rfl rfl rfl (exec_call (args := #[.slice (some ⟨gk, ok, none⟩) 32 ck, .slice (some ⟨gn, on, none⟩) 12 cn, .int .u32 0]) rfl call9 rfl (mpn rfl)) (Calls.mono (PBlock_ok K N gk ok ck gn on cn hck hcn 0 w2 (RK.out.below H2.out.2) (RN.out.below H2.out.2)) (fun _ _ ⟨hb, g, he, h1, h2, h3⟩ => ⟨_, he, hb, g, rfl, h1, h2, h3⟩)) ?_
  rintro _ w3 ⟨hb, γt3, rfl, hg1, hg2, hg3⟩
  simp only [Act.put, sa, sz, ss]
  have o_γt3 : Hid (w.heap.size ≤ γt3) := Nat.le_trans H2.out.2.size hg1
  have H3 : Hid (Mm w3 [(γt3, ints .u8 (bk K N 0) 64)] ∧ Below w.heap.size w w3) := ⟨Mm.over H2.out.1 hg1 (H2.out.1.below hb) hg3 hg2, H2.out.2.trans (hb.mono H2.out.2.size)⟩
  clear hb hg1 hg2 hg3 H2
  refine rest_set (d := 15) (v := .tuple #[.slice (some ⟨γt3, 0, none⟩) 64 64, .int .i64 0]) (w' := w3) rfl rfl rfl rfl ?_
  simp only [Act.put, sa, sz, ss]
  refine rest_set (d := 19) (v := .slice (some ⟨γt3, 0, none⟩) 64 64) (w' := w3) rfl rfl rfl (by go_simp) ?_
  simp only [Act.put, sa, sz, ss]
  refine rest_set (d := 20) (v := .int .i64 0) (w' := w3) rfl rfl rfl (by go_simp) ?_
  simp only [Act.put, sa, sz, ss]
  refine rest_set (d := 10) (v := .slice (some ⟨γt3, 0, none⟩) 64 64) (w' := w3) rfl rfl rfl rfl ?_
  simp only [Act.put, sa, sz, ss]
  refine rest_set (d := 11) (v := .int .i64 0) (w' := w3) rfl rfl rfl rfl ?_
  simp only [Act.put, sa, sz, ss]
  refine rest_nil (then_normal ?_)
  refine wp_seq (wp_seq ?_)
  refine walk_seqB 7 [.quiet (.int .i64 0), .quiet (.bool false), .quiet (.bool false), .quiet (.slice (some ⟨γt3, 0, none⟩) 64 64), .quiet (.int .i64 ((64 : Nat) : Int)), .quiet (.bool false), .quiet (.bool false)] H3 ?ho3 ?he3
  case ho3 => exact ak (fun _ => ⟨rfl, fun _ _ => rfl⟩) (ak (fun γ => ⟨rfl, fun w' _ => ex_neE (a := 0) (b := 0) rfl rfl rfl rfl⟩) (ak (fun _ => ⟨rfl, fun _ _ => rfl⟩) (ak (fun _ => ⟨rfl, fun _ _ => rfl⟩) (ak (by refine fun γ => ⟨rfl, fun w' h => ?_⟩; clear h; go_simp) (ak (by refine fun γ => ⟨rfl, fun w' h => ?_⟩; clear h; go_simp <;> omega) (ak (by refine fun γ => ⟨rfl, fun w' h => ?_⟩; clear h; go_simp) trivial))))))
  intro _ w4 H4
  clear H3
  refine rest0 rfl (then_normal (wp_cond_false rfl ?_))
  refine wp_skip (then_normal (wp_seq ?_))
  refine walk_seqB 1 [.quiet (.slice mo.p mo.n mo.cp)] H4 ?ho4 ?he4
  case ho4 => exact ak (fun _ => ⟨rfl, fun _ _ => rfl⟩) trivial
  intro _ w5 H5
  clear H4
  refine rest_at (l := [1, 2, 3, 4, 5]) rfl ?_
  refine rest_enter (d := 29) (R := fun vv w' => Below w5.heap.size w5 w' ∧ ∃ g x, vv = .slice (some ⟨g, 0, none⟩) (mo.n + zf mo.n) ((mo.n + zf mo.n) + x) ∧ w5.heap.size ≤ g ∧ g < w'.heap.size ∧ Blk w' g (ints .u8 (kz mo.f mo.n) (mo.n + zf mo.n)) ∧ ∃ o, w'.heap[g]? = some o ∧ Eo (mo.n + zf mo.n) (kz mo.f mo.n) o x) rfl rfl rfl (exec_call (args := #[.slice mo.p mo.n mo.cp]) rfl call43 rfl (mpn rfl)) (Calls.mono (lfilled_any mo hmo hNmo.out (by omega) w5 (Rmo.out.below H5.out.2)) (fun _ _ ⟨hb, g, x, _, he, h1, h2, h3, h4⟩ => ⟨_, he, hb, g, x, rfl, h1, h2, h3, h4⟩)) ?_
  rintro _ w6 ⟨hb, γt6, ξt6, rfl, hg1, hg2, hg3, hg4⟩
  simp only [Act.put, sa, sz, ss]
  have o_γt6 : Hid (w.heap.size ≤ γt6) := Nat.le_trans H5.out.2.size hg1
  have oo_γt6 : Hid (∃ o, w6.heap[γt6]? = some o ∧ Eo (mo.n + zf mo.n) (kz mo.f mo.n) o ξt6) := hg4
  have H6 : Hid (Mm w6 [(γt6, ints .u8 (kz mo.f mo.n) (mo.n + zf mo.n)), (γt3, ints .u8 (bk K N 0) 64)] ∧ Below w.heap.size w w6) := ⟨Mm.over H5.out.1 hg1 (H5.out.1.below hb) hg3 hg2, H5.out.2.trans (hb.mono H5.out.2.size)⟩
  clear hb hg1 hg2 hg3 hg4 H5
  refine rest_set (d := 30) (v := .slice q.p q.n q.cp) (w' := w6) rfl rfl rfl rfl ?_
  simp only [Act.put, sa, sz, ss]
  refine rest_enter (d := 31) (R := fun vv w' => Below w6.heap.size w6 w' ∧ ∃ g x, vv = .slice (some ⟨g, 0, none⟩) (q.n + zf q.n) ((q.n + zf q.n) + x) ∧ w6.heap.size ≤ g ∧ g < w'.heap.size ∧ Blk w' g (ints .u8 (kz q.f q.n) (q.n + zf q.n)) ∧ ∃ o, w'.heap[g]? = some o ∧ Eo (q.n + zf q.n) (kz q.f q.n) o x) rfl rfl rfl (exec_call (args := #[.slice q.p q.n q.cp]) rfl call43 rfl (mpn rfl)) (Calls.mono (lfilled_any q hq hNq.out (by omega) w6 (Rq.out.below H6.out.2)) (fun _ _ ⟨hb, g, x, _, he, h1, h2, h3, h4⟩ => ⟨_, he, hb, g, x, rfl, h1, h2, h3, h4⟩)) ?_
  rintro _ w7 ⟨hb, γt7, ξt7, rfl, hg1, hg2, hg3, hg4⟩
  simp only [Act.put, sa, sz, ss]
  have o_γt7 : Hid (w.heap.size ≤ γt7) := Nat.le_trans H6.out.2.size hg1
  have oo2 : Hid (∃ o, w7.heap[γt6]? = some o ∧ Eo (mo.n + zf mo.n) (kz mo.f mo.n) o ξt6) := by rw [hb.block γt6 ((H6.out.1.one 0 rfl).blk _ (List.mem_singleton.2 rfl)).1]; exact oo_γt6.out
  clear oo_γt6
  have oo_γt6 := oo2
  clear oo2
  have oo_γt7 : Hid (∃ o, w7.heap[γt7]? = some o ∧ Eo (q.n + zf q.n) (kz q.f q.n) o ξt7) := hg4
  have H7 : Hid (Mm w7 [(γt7, ints .u8 (kz q.f q.n) (q.n + zf q.n)), (γt6, ints .u8 (kz mo.f mo.n) (mo.n + zf mo.n)), (γt3, ints .u8 (bk K N 0) 64)] ∧ Below w.heap.size w w7) := ⟨Mm.over H6.out.1 hg1 (H6.out.1.below hb) hg3 hg2, H6.out.2.trans (hb.mono H6.out.2.size)⟩
  clear hb hg1 hg2 hg3 hg4 H6
  have hM := H7.out.1.sel [0, 2] (by decide) (l' := [(γt7, ints .u8 (kz q.f q.n) (q.n + zf q.n)), (γt3, ints .u8 (bk K N 0) 64)]) rfl
  have hO : Ow w [γt7, γt3] (.slice (some ⟨γt6, 0, none⟩) (mo.n + zf mo.n) ((mo.n + zf mo.n) + ξt6)) (mo.n + zf mo.n) (kz mo.f mo.n) w7 := ⟨H7.out.2, Eo.own oo_γt6.out o_γt6.out, fun g hg => by
    simp only [List.mem_cons, List.not_mem_nil, or_false] at hg
    rcases hg with rfl | rfl
    · exact (fun e => mm_ne H7.out.1 0 1 rfl rfl (by decide) (by simpa [Value.ownBlock] using e))
    · exact (fun e => mm_ne H7.out.1 2 1 rfl rfl (by decide) (by simpa [Value.ownBlock] using e))⟩
  obtain ⟨v8, w8, hr, hZ, hM2⟩ := hO.app hM rfl (a := ⟨γt7, 0, none⟩) (q.n + zf q.n) ((q.n + zf q.n) + ξt7) (kz q.f q.n) (hM.rs 0 rfl (Nat.le_refl _)).add (by omega) 22
  refine rest_set (d := 32) (v := v8) (w' := w8) rfl rfl rfl (ex_app rfl rfl rfl hr) ?_
  simp only [Act.put, sa, sz, ss]
  have HB2 : Hid (some γt3 ≠ v8.ownBlock) := hZ.ne γt3 (by simp)
  skip
  have HB := HB2
  clear HB2
  have H8 : Hid (Mm w8 [(γt3, ints .u8 (bk K N 0) 64)] ∧ Ow w [] v8 ((mo.n + zf mo.n) + (q.n + zf q.n)) (ct (kz mo.f mo.n) (mo.n + zf mo.n) (kz q.f q.n)) w8) := ⟨hM2.tail, hZ.less⟩
  clear hr hZ hM2 hO hM H7
  refine rest_set (d := 12) (v := v8) (w' := w8) rfl rfl rfl rfl ?_
  simp only [Act.put, sa, sz, ss]
  refine rest_nil (then_normal (wp_seq ?_))
  refine walk_free2 (b := ?fz5) (by kernel_rfl) [0, 1, 2, 3, 4, 7, 8] [5, 6, 9, 10, 11, 12] [13, 14] [15, 16] [(34, .slice (some ⟨γt3, 0, none⟩) 64 64), (35, .slice (some ⟨γt3, 0, none⟩) 32 64), (36, v8), (37, .slice mo.p mo.n mo.cp), (38, .int .i64 ((mo.n : Nat) : Int)), (41, .slice q.p q.n q.cp), (42, .int .i64 ((q.n : Nat) : Int))] (fun _ => True) ?fb5 (by kernel_rfl) ?fok5 trivial ?fch5
  case fb5 =>
    simp only [fillv, Act.put, List.setIfInBounds_toArray, List.set_cons_zero, List.set_cons_succ]
    exact rfl
  case fok5 => exact ⟨⟨_, rfl, rfl, rfl, fun w' _ => rfl⟩, ⟨_, rfl, rfl, rfl, fun w' _ => ex_slH22 (l := 32) rfl rfl rfl (by omega)⟩, ⟨_, rfl, rfl, rfl, fun w' _ => rfl⟩, ⟨_, rfl, rfl, rfl, fun w' _ => rfl⟩, ⟨_, rfl, rfl, rfl, fun w' _ => by go_simp⟩, ⟨_, rfl, rfl, rfl, fun w' _ => rfl⟩, ⟨_, rfl, rfl, rfl, fun w' _ => by go_simp⟩, trivial⟩
  have H9 : Hid (Mm w8.drew [(γt3, ints .u8 (bk K N 0) 64)] ∧ Ow w [] v8 ((mo.n + zf mo.n) + (q.n + zf q.n)) (ct (kz mo.f mo.n) (mo.n + zf mo.n) (kz q.f q.n)) w8.drew) := ⟨H8.out.1.drew, Ow.step H8.out.2 ((Below.refl _ _).drew)⟩
  clear H8
  generalize w8.drew = w9 at H9 ⊢
  refine ch_enter (d := 39) (R := fun vv w' => Below w9.heap.size w9 w' ∧ ∃ g x, vv = .slice (some ⟨g, 0, none⟩) 8 (8 + x) ∧ w9.heap.size ≤ g ∧ g < w'.heap.size ∧ Blk w' g (ints .u8 (ebi mo.n) 8) ∧ ∃ o, w'.heap[g]? = some o ∧ Eo 8 (ebi mo.n) o x) rfl rfl trivial (exec_call (args := #[.int .i64 ((mo.n : Nat) : Int)]) rfl call44 rfl (mpn rfl)) (Calls.mono (leight_any mo.n (by omega) w9) (fun _ _ ⟨hb, g, x, _, he, h1, h2, h3, h4⟩ => ⟨_, he, hb, g, x, rfl, h1, h2, h3, h4⟩)) (fun _ _ _ => trivial) ?_
  rintro _ w10 ⟨hb, γt10, ξt10, rfl, hg1, hg2, hg3, hg4⟩
  simp only [Act.put, sa, sz, ss]
  have hN10 : Hid (some γt10 ≠ (v8).ownBlock) := fun e => absurd (World.ownsRow.lt H9.out.2.own _ e.symm).2 (by omega)
  have o_γt10 : Hid (w.heap.size ≤ γt10) := Nat.le_trans H9.out.2.b.size hg1
  have oo_γt10 : Hid (∃ o, w10.heap[γt10]? = some o ∧ Eo 8 (ebi mo.n) o ξt10) := hg4
  have H10 : Hid (Mm w10 [(γt10, ints .u8 (ebi mo.n) 8), (γt3, ints .u8 (bk K N 0) 64)] ∧ Ow w [] v8 ((mo.n + zf mo.n) + (q.n + zf q.n)) (ct (kz mo.f mo.n) (mo.n + zf mo.n) (kz q.f q.n)) w10) := ⟨Mm.over H9.out.1 hg1 (H9.out.1.below hb) hg3 hg2, Ow.step H9.out.2 (hb)⟩
  clear hb hg1 hg2 hg3 hg4 H9
  have hM := H10.out.1.sel [0, 1] (by decide) (l' := [(γt10, ints .u8 (ebi mo.n) 8), (γt3, ints .u8 (bk K N 0) 64)]) rfl
  have hO : Ow w [γt10, γt3] v8 ((mo.n + zf mo.n) + (q.n + zf q.n)) (ct (kz mo.f mo.n) (mo.n + zf mo.n) (kz q.f q.n)) w10 := ⟨H10.out.2.b, H10.out.2.own, fun g hg => by
    simp only [List.mem_cons, List.not_mem_nil, or_false] at hg
    rcases hg with rfl | rfl
    · exact hN10.out
    · exact HB.out⟩
  obtain ⟨v11, w11, hr, hZ, hM2⟩ := hO.app hM rfl (a := ⟨γt10, 0, none⟩) 8 (8 + ξt10) (ebi mo.n) (hM.rs 0 rfl (Nat.le_refl _)).add (by omega) 22
  refine ch_set (d := 40) (v := v11) (w' := w11) rfl rfl trivial (ex_app rfl rfl rfl hr) trivial ?_
  simp only [Act.put, sa, sz, ss]
  have HB2 : Hid (some γt3 ≠ v11.ownBlock) := hZ.ne γt3 (by simp)
  clear HB
  have HB := HB2
  clear HB2
  have H11 : Hid (Mm w11 [(γt3, ints .u8 (bk K N 0) 64)] ∧ Ow w [] v11 (((mo.n + zf mo.n) + (q.n + zf q.n)) + 8) (ct (ct (kz mo.f mo.n) (mo.n + zf mo.n) (kz q.f q.n)) ((mo.n + zf mo.n) + (q.n + zf q.n)) (ebi mo.n)) w11) := ⟨hM2.tail, hZ.less⟩
  clear hr hZ hM2 hO hM H10
  refine ch_enter (d := 43) (R := fun vv w' => Below w11.heap.size w11 w' ∧ ∃ g x, vv = .slice (some ⟨g, 0, none⟩) 8 (8 + x) ∧ w11.heap.size ≤ g ∧ g < w'.heap.size ∧ Blk w' g (ints .u8 (ebi q.n) 8) ∧ ∃ o, w'.heap[g]? = some o ∧ Eo 8 (ebi q.n) o x) rfl rfl trivial (exec_call (args := #[.int .i64 ((q.n : Nat) : Int)]) rfl call44 rfl (mpn rfl)) (Calls.mono (leight_any q.n (by omega) w11) (fun _ _ ⟨hb, g, x, _, he, h1, h2, h3, h4⟩ => ⟨_, he, hb, g, x, rfl, h1, h2, h3, h4⟩)) (fun _ _ _ => trivial) ?_
  rintro _ w12 ⟨hb, γt12, ξt12, rfl, hg1, hg2, hg3, hg4⟩
  simp only [Act.put, sa, sz, ss]
  have hN12 : Hid (some γt12 ≠ (v11).ownBlock) := fun e => absurd (World.ownsRow.lt H11.out.2.own _ e.symm).2 (by omega)
  have o_γt12 : Hid (w.heap.size ≤ γt12) := Nat.le_trans H11.out.2.b.size hg1
  have oo_γt12 : Hid (∃ o, w12.heap[γt12]? = some o ∧ Eo 8 (ebi q.n) o ξt12) := hg4
  have H12 : Hid (Mm w12 [(γt12, ints .u8 (ebi q.n) 8), (γt3, ints .u8 (bk K N 0) 64)] ∧ Ow w [] v11 (((mo.n + zf mo.n) + (q.n + zf q.n)) + 8) (ct (ct (kz mo.f mo.n) (mo.n + zf mo.n) (kz q.f q.n)) ((mo.n + zf mo.n) + (q.n + zf q.n)) (ebi mo.n)) w12) := ⟨Mm.over H11.out.1 hg1 (H11.out.1.below hb) hg3 hg2, Ow.step H11.out.2 (hb)⟩
  clear hb hg1 hg2 hg3 hg4 H11
  have hM := H12.out.1.sel [0, 1] (by decide) (l' := [(γt12, ints .u8 (ebi q.n) 8), (γt3, ints .u8 (bk K N 0) 64)]) rfl
  have hO : Ow w [γt12, γt3] v11 (((mo.n + zf mo.n) + (q.n + zf q.n)) + 8) (ct (ct (kz mo.f mo.n) (mo.n + zf mo.n) (kz q.f q.n)) ((mo.n + zf mo.n) + (q.n + zf q.n)) (ebi mo.n)) w12 := ⟨H12.out.2.b, H12.out.2.own, fun g hg => by
    simp only [List.mem_cons, List.not_mem_nil, or_false] at hg
    rcases hg with rfl | rfl
    · exact hN12.out
    · exact HB.out⟩
  obtain ⟨v13, w13, hr, hZ, hM2⟩ := hO.app hM rfl (a := ⟨γt12, 0, none⟩) 8 (8 + ξt12) (ebi q.n) (hM.rs 0 rfl (Nat.le_refl _)).add (by omega) 22
  refine ch_set (d := 44) (v := v13) (w' := w13) rfl rfl trivial (ex_app rfl rfl rfl hr) trivial ?_
  simp only [Act.put, sa, sz, ss]
  have HB2 : Hid (some γt3 ≠ v13.ownBlock) := hZ.ne γt3 (by simp)
  clear HB
  have HB := HB2
  clear HB2
  have H13 : Hid (Mm w13 [(γt3, ints .u8 (bk K N 0) 64)] ∧ Ow w [] v13 ((((mo.n + zf mo.n) + (q.n + zf q.n)) + 8) + 8) (ct (ct (ct (kz mo.f mo.n) (mo.n + zf mo.n) (kz q.f q.n)) ((mo.n + zf mo.n) + (q.n + zf q.n)) (ebi mo.n)) (((mo.n + zf mo.n) + (q.n + zf q.n)) + 8) (ebi q.n)) w13) := ⟨hM2.tail, hZ.less⟩
  clear hr hZ hM2 hO hM H12
  obtain ⟨qa, hqe, hqa, _, hqn, hqf, hqr, _⟩ := own_part H13.out.2.own
  subst hqe
  have hqf2 : ∀ j, qa.f j < 256 := fun j => by rw [hqf]; exact ct_lt (ct_lt (ct_lt (kz_256 hfmo _) (kz_256 hfq _)) (fun _ => Nat.mod_lt _ (by decide))) (fun _ => Nat.mod_lt _ (by decide)) j
  have hTq : ∀ j, j < 16 → tt (tga (rk (bk K N 0)) qa.f qa.n) (sk (bk K N 0)) j = mt K N mo.f mo.n q.f q.n j := fun j _ => by
    rw [hqf, hqn, ebi_eb8 (by omega), ebi_eb8 (by omega), show ct (ct (ct (kz mo.f mo.n) (mo.n + zf mo.n) (kz q.f q.n)) (mo.n + zf mo.n + (q.n + zf q.n)) (eb8 mo.n)) (mo.n + zf mo.n + (q.n + zf q.n) + 8) (eb8 q.n) = al mo.f mo.n q.f q.n from rfl, show mo.n + zf mo.n + (q.n + zf q.n) + 8 + 8 = ll mo.n q.n from rfl, tga_al]
    rfl
  refine ch_enter (d := 45) (R := fun vv w' => Below w13.heap.size w13 w' ∧ ∃ g, vv = .tuple #[.slice (some ⟨g, 0, none⟩) 16 16, .int .i64 0] ∧ w13.heap.size ≤ g ∧ g < w'.heap.size ∧ Blk w' g (ints .u8 (mt K N mo.f mo.n q.f q.n) 16)) rfl rfl trivial (exec_call (args := #[.slice (some ⟨γt3, 0, none⟩) 32 64, .slice qa.p qa.n qa.cp]) rfl call13 rfl (mpn rfl)) (Calls.mono (PTag_ok (bk K N 0) γt3 0 64 (by decide) (bk_256 K N 0) qa hqa hqf2 (by rw [hqn]; omega) w13 (H13.out.1.rs 0 rfl (show 32 ≤ 64 by decide)) hqr) (fun _ _ ⟨hb, g, he, h1, h2, h3⟩ => ⟨_, he, hb, g, rfl, h1, h2, by rw [← ints_congr hTq]; exact h3⟩)) (fun _ _ _ => trivial) ?_
  rintro _ w14 ⟨hb, γt14, rfl, hg1, hg2, hg3⟩
  simp only [Act.put, sa, sz, ss]
  have o_γt14 : Hid (w.heap.size ≤ γt14) := Nat.le_trans H13.out.2.b.size hg1
  have H14 : Hid (Mm w14 [(γt14, ints .u8 (mt K N mo.f mo.n q.f q.n) 16), (γt3, ints .u8 (bk K N 0) 64)] ∧ Ow w [] (.slice qa.p qa.n qa.cp) ((((mo.n + zf mo.n) + (q.n + zf q.n)) + 8) + 8) (ct (ct (ct (kz mo.f mo.n) (mo.n + zf mo.n) (kz q.f q.n)) ((mo.n + zf mo.n) + (q.n + zf q.n)) (ebi mo.n)) (((mo.n + zf mo.n) + (q.n + zf q.n)) + 8) (ebi q.n)) w14) := ⟨Mm.over H13.out.1 hg1 (H13.out.1.below hb) hg3 hg2, Ow.step H13.out.2 (hb)⟩
  clear hb hg1 hg2 hg3 hTq hqf2 hqn hqf hqr hqa H13
  refine ch_set (d := 33) (v := .tuple #[.slice (some ⟨γt14, 0, none⟩) 16 16, .int .i64 0]) (w' := w14) rfl rfl trivial rfl trivial ?_
  simp only [Act.put, sa, sz, ss]
  refine ch_nil ⟨[(34, .slice (some ⟨γt3, 0, none⟩) 64 64), (35, .slice (some ⟨γt3, 0, none⟩) 32 64), (36, v8), (37, .slice mo.p mo.n mo.cp), (38, .int .i64 ((mo.n : Nat) : Int)), (41, .slice q.p q.n q.cp), (42, .int .i64 ((q.n : Nat) : Int))], [(46, .slice (some ⟨γt14, 0, none⟩) 16 16), (47, .int .i64 0)], ?fa5, ?fd5, ?fe5, ?ff5, ?fg5⟩
  case fd5 =>
    simp only [fillv, Act.put, List.setIfInBounds_toArray, List.set_cons_zero, List.set_cons_succ]
    exact rfl
  case fe5 =>
    simp only [List.cons_append, List.nil_append]
    exact ⟨⟨_, rfl, rfl, rfl, fun w' _ => by go_simp⟩, ⟨_, rfl, rfl, rfl, fun w' _ => by go_simp⟩, ⟨_, rfl, rfl, rfl, fun w' _ => rfl⟩, ⟨_, rfl, rfl, rfl, fun w' _ => ex_slH22 (l := 32) rfl rfl rfl (by omega)⟩, ⟨_, rfl, rfl, rfl, fun w' _ => rfl⟩, ⟨_, rfl, rfl, rfl, fun w' _ => rfl⟩, ⟨_, rfl, rfl, rfl, fun w' _ => by go_simp⟩, ⟨_, rfl, rfl, rfl, fun w' _ => rfl⟩, ⟨_, rfl, rfl, rfl, fun w' _ => by go_simp⟩, trivial⟩
  case ff5 => exact ⟨⟨_, rfl, rfl, rfl, fun w' _ => by go_simp⟩, ⟨_, rfl, rfl, rfl, fun w' _ => by go_simp⟩, trivial⟩
  refine ch_set (d := 13) (v := .slice (some ⟨γt14, 0, none⟩) 16 16) (w' := w14) rfl rfl trivial rfl trivial ?_
  simp only [Act.put, sa, sz, ss]
  refine ch_set (d := 14) (v := .int .i64 0) (w' := w14) rfl rfl trivial rfl trivial ?_
  simp only [Act.put, sa, sz, ss]
  refine ch_nil ?_
  refine then_normal (wp_seq ?_)
  refine walk_seqA 5 [.quiet (.slice (some ⟨γt14, 0, none⟩) 16 16), .quiet (.int .i64 0), .quiet (.bool true), .quiet (.slice (some ⟨γt14, 0, none⟩) 16 16), .quiet (.bool true)] (sB H14) ?ho6 ?he6
  case ho6 => exact ak (fun _ => ⟨rfl, fun _ _ => rfl⟩) (ak (fun _ => ⟨rfl, fun _ _ => rfl⟩) (ak (fun γ => ⟨rfl, fun w' _ => ex_eqE (a := 0) (b := 0) rfl rfl rfl rfl⟩) (ak (fun _ => ⟨rfl, fun _ _ => rfl⟩) (ak (fun _ => ⟨rfl, fun _ _ => rfl⟩) trivial))))
  intro γ w15 l hM hl
  have M15 : Mm w15 [(γt14, ints .u8 (mt K N mo.f mo.n q.f q.n) 16), (γt3, ints .u8 (bk K N 0) 64)] := H14.out.1.grow hM (Nat.le_refl _) hl [] rfl (by decide)
  have B15 : Ow w [] (.slice qa.p qa.n qa.cp) ((((mo.n + zf mo.n) + (q.n + zf q.n)) + 8) + 8) (ct (ct (ct (kz mo.f mo.n) (mo.n + zf mo.n) (kz q.f q.n)) ((mo.n + zf mo.n) + (q.n + zf q.n)) (ebi mo.n)) (((mo.n + zf mo.n) + (q.n + zf q.n)) + 8) (ebi q.n)) w15 := Ow.step H14.out.2 (hM.below)
  clear hM hl l H14
  clear γ
  have H15 : Hid (_ ∧ _) := ⟨M15, B15⟩
  clear M15 B15
  refine rest0 rfl (then_normal (wp_ret ?_))
  repeat (first | refine then_ret ?_ | refine block_ret ?_)
  refine bodyPost_ret (v := .tuple #[.slice (some ⟨γt14, 0, none⟩) 16 16, .bool true]) (by simp [results, Try.results26, go_sem, *]) rfl ?_
  have hM := H15.out.1.one 0 rfl
  exact ⟨H15.out.2.b, _, rfl, o_γt14.out, (hM.blk _ (List.mem_singleton.2 rfl)).1, (hM.blk _ (List.mem_singleton.2 rfl)).2⟩
end Rg
end Go.Proofs.Ytkkippfikfjdpaa
end
section
namespace Go.Proofs.Ytkkippfikfjdpaa
open Go.RowKit
namespace Rg
set_option maxRecDepth 100000
theorem key_born (w : World) : Calls Try.prog 22 #[] w fun e w' => Below w.heap.size w w' ∧ ∃ (g x y : Nat), e = .returned ((fun g x _ => .slice (some ⟨g, 0, none⟩) 32 (32 + x)) g x y) ∧ w.heap.size ≤ g ∧ g < w'.heap.size ∧ Blk w' g (ints .u8 kyf 32) :=
  Calls.mono (key_any w) (fun _ _ ⟨hb, g, x, y, he, h1, h2, h3, _⟩ => ⟨hb, g, x, y, he, h1, h2, h3⟩)
theorem pw_ok (g n : Nat) (f : Nat → Nat) : Pok (pw g n f) := ⟨Bv.start _ _ _ _, Nat.le_refl _⟩
theorem call18 : ∀ args w, (callFunc 18 args).run Try.prog w = .ok (.enter 18 args) w := by intro args w; go_simp
theorem call20 : ∀ args w, (callFunc 20 args).run Try.prog w = .ok (.enter 20 args) w := by intro args w; go_simp
theorem call22 : ∀ args w, (callFunc 22 args).run Try.prog w = .ok (.enter 22 args) w := by intro args w; go_simp
theorem call23 : ∀ args w, (callFunc 23 args).run Try.prog w = .ok (.enter 23 args) w := by intro args w; go_simp
set_option maxHeartbeats 4000000 in
set_option maxRecDepth 100000 in
theorem known_law  (w : World) :
    Calls Try.prog 5 #[] w fun e w' => e = .returned (.bool true) ∧ Below w.heap.size w w' := by
  have H0 : Hid (_ ∧ _) := ⟨Mm.nil w, Below.refl w.heap.size w⟩
  go_enter Try.func5, Try.ntmps5
  refine wp_seq ?_
  refine walk_seqB 1 [.quiet (.bool false)] H0 ?ho1 ?he1
  case ho1 => exact ak (fun _ => ⟨rfl, fun _ _ => rfl⟩) trivial
  intro _ w1 H1
  refine rest0 rfl (then_normal (wp_seq ?_))
  refine walk_seqA 2 [.bornX (fun g x y => .slice (some ⟨g, 0, none⟩) 32 (32 + x)) (ints .u8 kyf 32), .born (fun g => .slice (some ⟨g, 0, none⟩) 12 12) (ints .u8 nof 12)] (sB H1) ?ho2 ?he2
  case ho2 => exact ak (fun γ => ⟨rfl, fun w' h => ⟨22, #[], exec_call rfl call22 rfl (mpn rfl), key_born w'⟩⟩) (ak (fun γ => ⟨rfl, fun w' h => ⟨23, #[], exec_call rfl call23 rfl (mpn rfl), nonce_any w'⟩⟩) trivial)
  intro γ w2 l hM hl
  have H2 : Hid (Mm w2 [(γ 0, ints .u8 kyf 32), (γ 1, ints .u8 nof 12)] ∧ _) := growB H1 hM (Nat.le_refl _) hl [0, 1] rfl (by decide)
  have o2_0 := ownB H1 hM (Nat.le_refl _) hl (i := 0) rfl
  have o2_1 := ownB H1 hM (Nat.le_refl _) hl (i := 1) rfl
  clear hM hl l H1
  generalize γ 0 = γ2_0 at H2 o2_0 ⊢
  generalize γ 1 = γ2_1 at H2 o2_1 ⊢
  generalize γ 65536 = γ2_65536
  clear γ
  refine rest_at (l := [2, 3, 4, 5, 6, 7]) rfl ?_
  refine rest_enter (d := 20) rfl rfl rfl (exec_call (args := #[.slice (some ⟨γ2_0, 0, none⟩) 32 (32 + γ2_65536), .slice (some ⟨γ2_1, 0, none⟩) 12 12, .int .u32 1]) rfl call9 rfl (mpn rfl)) ((Calls.mono (PBlock_ok kyf nof γ2_0 0 (32 + γ2_65536) γ2_1 0 12 (by omega) (by omega) 1 w2 (H2.out.1.rs 0 rfl (show 32 ≤ 32 by decide)) (H2.out.1.rs 1 rfl (show 12 ≤ 12 by decide))) (fun e w2 hh => by obtain ⟨hb, g, he, h1, h2, h3⟩ := hh; exact ⟨_, he, hb, g, rfl, h1, h2, h3⟩) : Calls Try.prog 9 #[.slice (some ⟨γ2_0, 0, none⟩) 32 (32 + γ2_65536), .slice (some ⟨γ2_1, 0, none⟩) 12 12, .int .u32 1] w2 (fun e w' => ∃ v, e = .returned v ∧ (Below w2.heap.size w2 w' ∧ ∃ g, v = .tuple #[.slice (some ⟨g, 0, none⟩) 64 64, .int .i64 0] ∧ w2.heap.size ≤ g ∧ g < w'.heap.size ∧ Blk w' g (ints .u8 (bk kyf nof 1) 64))))) ?_
  rintro _ w3 ⟨hb, γt3, rfl, hg1, hg2, hg3⟩
  have o_γt3 : Hid (w.heap.size ≤ γt3) := Nat.le_trans H2.out.2.size hg1
  have H3 : Hid (Mm w3 [(γt3, ints .u8 (bk kyf nof 1) 64), (γ2_0, ints .u8 kyf 32), (γ2_1, ints .u8 nof 12)] ∧ Below w.heap.size w w3) := ⟨Mm.over H2.out.1 hg1 (H2.out.1.below hb) hg3 hg2, H2.out.2.trans (hb.mono H2.out.2.size)⟩
  clear hb hg1 hg2 hg3 H2
  simp only [Act.put, sa, sz, ss]
  refine rest_set (d := 17) (v := .tuple #[.slice (some ⟨γt3, 0, none⟩) 64 64, .int .i64 0]) (w' := w3) rfl rfl rfl rfl ?_
  simp only [Act.put, sa, sz, ss]
  refine rest_set (d := 21) (v := .slice (some ⟨γt3, 0, none⟩) 64 64) (w' := w3) rfl rfl rfl (by go_simp) ?_
  simp only [Act.put, sa, sz, ss]
  refine rest_set (d := 22) (v := .int .i64 0) (w' := w3) rfl rfl rfl (by go_simp) ?_
  simp only [Act.put, sa, sz, ss]
  refine rest_set (d := 1) (v := .slice (some ⟨γt3, 0, none⟩) 64 64) (w' := w3) rfl rfl rfl rfl ?_
  simp only [Act.put, sa, sz, ss]
  refine rest_set (d := 2) (v := .int .i64 0) (w' := w3) rfl rfl rfl rfl ?_
  simp only [Act.put, sa, sz, ss]
  refine rest_nil (then_normal (wp_seq ?_))
  refine walk_seqA 1 [.row (fun g => .slice (some ⟨g, 0, none⟩) 32 32) (ints .u8 ltO 32) 5] (sB H3) ?ho3 ?he3
  case ho3 => exact ak (fun γ => ⟨rfl, fun w' => ex_litO rfl (fun _ => rfl)⟩) trivial
  intro γ w4 l hM hl
  have H4 : Hid (Mm w4 [(γ 0, ints .u8 ltO 32), (γt3, ints .u8 (bk kyf nof 1) 64), (γ2_0, ints .u8 kyf 32), (γ2_1, ints .u8 nof 12)] ∧ _) := growB H3 hM (Nat.le_refl _) hl [0] rfl (by decide)
  have o3_0 := ownB H3 hM (Nat.le_refl _) hl (i := 0) rfl
  clear hM hl l H3
  generalize γ 0 = γ3_0 at H4 o3_0 ⊢
  clear γ
  refine rest_at (l := [1]) rfl ?_
  refine rest_set (d := 3) (v := .slice (some ⟨γ3_0, 0, none⟩) 32 32) (w' := w4) rfl rfl rfl rfl ?_
  simp only [Act.put, sa, sz, ss]
  refine rest_nil (then_normal (wp_seq ?_))
  refine walk_seqA 3 [.quiet (.slice (some ⟨γ3_0, 0, none⟩) 32 32), .row (fun g => .slice (some ⟨g, 0, none⟩) 34 34) (ints .u8 ltT 34) 5, .same (fun g => .slice (some ⟨g, 0, none⟩) 34 34) 1] (sB H4) ?ho4 ?he4
  case ho4 => exact ak (fun _ => ⟨rfl, fun _ _ => rfl⟩) (ak (fun γ => ⟨rfl, fun w' => ex_litT rfl (fun _ => rfl)⟩) (ak (fun γ => ⟨rfl, fun w' _ => ex_cvS rfl rfl⟩) trivial))
  intro γ w5 l hM hl
  have H5 : Hid (Mm w5 [(γ 1, ints .u8 ltT 34), (γ3_0, ints .u8 ltO 32), (γt3, ints .u8 (bk kyf nof 1) 64), (γ2_0, ints .u8 kyf 32), (γ2_1, ints .u8 nof 12)] ∧ _) := growB H4 hM (Nat.le_refl _) hl [1] rfl (by decide)
  have o4_1 := ownB H4 hM (Nat.le_refl _) hl (i := 1) rfl
  clear hM hl l H4
  generalize γ 1 = γ4_1 at H5 o4_1 ⊢
  clear γ
  refine rest_at (l := [3, 4, 5, 6, 7, 8]) rfl ?_
  refine rest_enter (d := 28) rfl rfl rfl (exec_call (args := #[.slice (some ⟨γ3_0, 0, none⟩) 32 32, .slice (some ⟨γ4_1, 0, none⟩) 34 34]) rfl call13 rfl (mpn rfl)) ((Calls.mono (PTag_ok ltO γ3_0 0 32 (by decide) ltO_256 (pw γ4_1 34 ltT) (pw_ok _ _ _) ltT_256 (show 34 ≤ 1048576 by decide) w5 (H5.out.1.rs 1 rfl (show 32 ≤ 32 by decide)) (H5.out.1.rs 0 rfl (show 34 ≤ 34 by decide))) (fun e w2 hh => by obtain ⟨hb, g, he, h1, h2, h3⟩ := hh; exact ⟨_, he, hb, g, rfl, h1, h2, h3⟩) : Calls Try.prog 13 #[.slice (some ⟨γ3_0, 0, none⟩) 32 32, .slice (some ⟨γ4_1, 0, none⟩) 34 34] w5 (fun e w' => ∃ v, e = .returned v ∧ (Below w5.heap.size w5 w' ∧ ∃ g, v = .tuple #[.slice (some ⟨g, 0, none⟩) 16 16, .int .i64 0] ∧ w5.heap.size ≤ g ∧ g < w'.heap.size ∧ Blk w' g (ints .u8 (tt (tga (rk ltO) ltT 34) (sk ltO)) 16))))) ?_
  rintro _ w6 ⟨hb, γt6, rfl, hg1, hg2, hg3⟩
  have o_γt6 : Hid (w.heap.size ≤ γt6) := Nat.le_trans H5.out.2.size hg1
  have H6 : Hid (Mm w6 [(γt6, ints .u8 (tt (tga (rk ltO) ltT 34) (sk ltO)) 16), (γ4_1, ints .u8 ltT 34), (γ3_0, ints .u8 ltO 32), (γt3, ints .u8 (bk kyf nof 1) 64), (γ2_0, ints .u8 kyf 32), (γ2_1, ints .u8 nof 12)] ∧ Below w.heap.size w w6) := ⟨Mm.over H5.out.1 hg1 (H5.out.1.below hb) hg3 hg2, H5.out.2.trans (hb.mono H5.out.2.size)⟩
  clear hb hg1 hg2 hg3 H5
  simp only [Act.put, sa, sz, ss]
  refine rest_set (d := 24) (v := .tuple #[.slice (some ⟨γt6, 0, none⟩) 16 16, .int .i64 0]) (w' := w6) rfl rfl rfl rfl ?_
  simp only [Act.put, sa, sz, ss]
  refine rest_set (d := 29) (v := .slice (some ⟨γt6, 0, none⟩) 16 16) (w' := w6) rfl rfl rfl (by go_simp) ?_
  simp only [Act.put, sa, sz, ss]
  refine rest_set (d := 30) (v := .int .i64 0) (w' := w6) rfl rfl rfl (by go_simp) ?_
  simp only [Act.put, sa, sz, ss]
  refine rest_set (d := 4) (v := .slice (some ⟨γt6, 0, none⟩) 16 16) (w' := w6) rfl rfl rfl rfl ?_
  simp only [Act.put, sa, sz, ss]
  refine rest_set (d := 5) (v := .int .i64 0) (w' := w6) rfl rfl rfl rfl ?_
  simp only [Act.put, sa, sz, ss]
  refine rest_nil (then_normal (wp_seq ?_))
  refine walk_seqA 2 [.bornX (fun g x y => .slice (some ⟨g, 0, none⟩) 32 (32 + x)) (ints .u8 kyf 32), .born (fun g => .slice (some ⟨g, 0, none⟩) 12 12) (ints .u8 nof 12)] (sB H6) ?ho5 ?he5
  case ho5 => exact ak (fun γ => ⟨rfl, fun w' h => ⟨22, #[], exec_call rfl call22 rfl (mpn rfl), key_born w'⟩⟩) (ak (fun γ => ⟨rfl, fun w' h => ⟨23, #[], exec_call rfl call23 rfl (mpn rfl), nonce_any w'⟩⟩) trivial)
  intro γ w7 l hM hl
  have H7 : Hid (Mm w7 [(γ 0, ints .u8 kyf 32), (γ 1, ints .u8 nof 12), (γt6, ints .u8 (tt (tga (rk ltO) ltT 34) (sk ltO)) 16), (γ4_1, ints .u8 ltT 34), (γ3_0, ints .u8 ltO 32), (γt3, ints .u8 (bk kyf nof 1) 64), (γ2_0, ints .u8 kyf 32), (γ2_1, ints .u8 nof 12)] ∧ _) := growB H6 hM (Nat.le_refl _) hl [0, 1] rfl (by decide)
  have o5_0 := ownB H6 hM (Nat.le_refl _) hl (i := 0) rfl
  have o5_1 := ownB H6 hM (Nat.le_refl _) hl (i := 1) rfl
  clear hM hl l H6
  generalize γ 0 = γ5_0 at H7 o5_0 ⊢
  generalize γ 1 = γ5_1 at H7 o5_1 ⊢
  generalize γ 65536 = γ5_65536
  clear γ
  refine rest_at (l := [2, 3, 4, 5, 6, 7]) rfl ?_
  refine rest_enter (d := 34) rfl rfl rfl (exec_call (args := #[.slice (some ⟨γ5_0, 0, none⟩) 32 (32 + γ5_65536), .slice (some ⟨γ5_1, 0, none⟩) 12 12, .slice none 0 0, .slice none 0 0]) rfl call18 rfl (mpn rfl)) ((Calls.mono (PSeal_ok kyf nof γ5_0 0 (32 + γ5_65536) γ5_1 0 12 (by omega) (by omega) pno pno pno_ok pno_ok (fun _ => (by decide : (0 : Nat) < 256)) (show 0 ≤ 1048576 by decide) (show 0 ≤ 1048576 by decide) w7 (H7.out.1.rs 0 rfl (show 32 ≤ 32 by decide)) (H7.out.1.rs 1 rfl (show 12 ≤ 12 by decide)) (pno_rs _) (pno_rs _)) (fun e w2 hh => by obtain ⟨hb, g, he, h1, h2, h3⟩ := hh; exact ⟨_, he, hb, g, rfl, h1, h2, h3⟩) : Calls Try.prog 18 #[.slice (some ⟨γ5_0, 0, none⟩) 32 (32 + γ5_65536), .slice (some ⟨γ5_1, 0, none⟩) 12 12, .slice none 0 0, .slice none 0 0] w7 (fun e w' => ∃ v, e = .returned v ∧ (Below w7.heap.size w7 w' ∧ ∃ g, v = .tuple #[.slice (some ⟨g, 0, none⟩) 16 16, .int .i64 0] ∧ w7.heap.size ≤ g ∧ g < w'.heap.size ∧ Blk w' g (ints .u8 (sl0 kyf nof pno.f 0 pno.f 0) 16))))) ?_
  rintro _ w8 ⟨hb, γt8, rfl, hg1, hg2, hg3⟩
  have o_γt8 : Hid (w.heap.size ≤ γt8) := Nat.le_trans H7.out.2.size hg1
  have H8 : Hid (Mm w8 [(γt8, ints .u8 (sl0 kyf nof pno.f 0 pno.f 0) 16), (γ5_0, ints .u8 kyf 32), (γ5_1, ints .u8 nof 12), (γt6, ints .u8 (tt (tga (rk ltO) ltT 34) (sk ltO)) 16), (γ4_1, ints .u8 ltT 34), (γ3_0, ints .u8 ltO 32), (γt3, ints .u8 (bk kyf nof 1) 64), (γ2_0, ints .u8 kyf 32), (γ2_1, ints .u8 nof 12)] ∧ Below w.heap.size w w8) := ⟨Mm.over H7.out.1 hg1 (H7.out.1.below hb) hg3 hg2, H7.out.2.trans (hb.mono H7.out.2.size)⟩
  clear hb hg1 hg2 hg3 H7
  simp only [Act.put, sa, sz, ss]
  refine rest_set (d := 31) (v := .tuple #[.slice (some ⟨γt8, 0, none⟩) 16 16, .int .i64 0]) (w' := w8) rfl rfl rfl rfl ?_
  simp only [Act.put, sa, sz, ss]
  refine rest_set (d := 35) (v := .slice (some ⟨γt8, 0, none⟩) 16 16) (w' := w8) rfl rfl rfl (by go_simp) ?_
  simp only [Act.put, sa, sz, ss]
  refine rest_set (d := 36) (v := .int .i64 0) (w' := w8) rfl rfl rfl (by go_simp) ?_
  simp only [Act.put, sa, sz, ss]
  refine rest_set (d := 6) (v := .slice (some ⟨γt8, 0, none⟩) 16 16) (w' := w8) rfl rfl rfl rfl ?_
  simp only [Act.put, sa, sz, ss]
  refine rest_set (d := 7) (v := .int .i64 0) (w' := w8) rfl rfl rfl rfl ?_
  simp only [Act.put, sa, sz, ss]
  refine rest_nil (then_normal ?_)
  refine wp_seq (wp_seq ?_)
  refine walk_seqB 20 [.quiet (.int .i64 0), .quiet (.bool false), .quiet (.bool false), .quiet (.int .i64 0), .quiet (.bool false), .quiet (.bool false), .quiet (.bool false), .quiet (.int .i64 0), .quiet (.bool false), .quiet (.bool false), .quiet (.bool false), .quiet (.slice (some ⟨γt3, 0, none⟩) 64 64), .quiet (.int .i64 ((64 : Nat) : Int)), .quiet (.bool false), .quiet (.bool false), .quiet (.bool false), .quiet (.slice (some ⟨γt8, 0, none⟩) 16 16), .quiet (.int .i64 ((16 : Nat) : Int)), .quiet (.bool false), .quiet (.bool false)] H8 ?ho6 ?he6
  case ho6 => exact ak (fun _ => ⟨rfl, fun _ _ => rfl⟩) (ak (fun γ => ⟨rfl, fun w' _ => ex_neE (a := 0) (b := 0) rfl rfl rfl rfl⟩) (ak (fun _ => ⟨rfl, fun _ _ => rfl⟩) (ak (fun _ => ⟨rfl, fun _ _ => rfl⟩) (ak (fun γ => ⟨rfl, fun w' _ => ex_neE (a := 0) (b := 0) rfl rfl rfl rfl⟩) (ak (by refine fun γ => ⟨rfl, fun w' h => ?_⟩; clear h; go_simp) (ak (fun _ => ⟨rfl, fun _ _ => rfl⟩) (ak (fun _ => ⟨rfl, fun _ _ => rfl⟩) (ak (fun γ => ⟨rfl, fun w' _ => ex_neE (a := 0) (b := 0) rfl rfl rfl rfl⟩) (ak (by refine fun γ => ⟨rfl, fun w' h => ?_⟩; clear h; go_simp) (ak (fun _ => ⟨rfl, fun _ _ => rfl⟩) (ak (fun _ => ⟨rfl, fun _ _ => rfl⟩) (ak (by refine fun γ => ⟨rfl, fun w' h => ?_⟩; clear h; go_simp) (ak (by refine fun γ => ⟨rfl, fun w' h => ?_⟩; clear h; go_simp <;> omega) (ak (by refine fun γ => ⟨rfl, fun w' h => ?_⟩; clear h; go_simp) (ak (fun _ => ⟨rfl, fun _ _ => rfl⟩) (ak (fun _ => ⟨rfl, fun _ _ => rfl⟩) (ak (by refine fun γ => ⟨rfl, fun w' h => ?_⟩; clear h; go_simp) (ak (by refine fun γ => ⟨rfl, fun w' h => ?_⟩; clear h; go_simp <;> omega) (ak (by refine fun γ => ⟨rfl, fun w' h => ?_⟩; clear h; go_simp) trivial)))))))))))))))))))
  intro _ w9 H9
  clear H8
  refine rest0 rfl (then_normal (wp_cond_false rfl ?_))
  refine wp_skip (then_normal (wp_seq ?_))
  refine walk_seqA 3 [.bornX (fun g x y => .slice (some ⟨g, 0, none⟩) 32 (32 + x)) (ints .u8 kyf 32), .born (fun g => .slice (some ⟨g, 0, none⟩) 12 12) (ints .u8 nof 12), .quiet (.slice (some ⟨γt8, 0, none⟩) 16 16)] (sB H9) ?ho7 ?he7
  case ho7 => exact ak (fun γ => ⟨rfl, fun w' h => ⟨22, #[], exec_call rfl call22 rfl (mpn rfl), key_born w'⟩⟩) (ak (fun γ => ⟨rfl, fun w' h => ⟨23, #[], exec_call rfl call23 rfl (mpn rfl), nonce_any w'⟩⟩) (ak (fun _ => ⟨rfl, fun _ _ => rfl⟩) trivial))
  intro γ w10 l hM hl
  have H10 : Hid (Mm w10 [(γ 0, ints .u8 kyf 32), (γ 1, ints .u8 nof 12), (γt8, ints .u8 (sl0 kyf nof pno.f 0 pno.f 0) 16), (γ5_0, ints .u8 kyf 32), (γ5_1, ints .u8 nof 12), (γt6, ints .u8 (tt (tga (rk ltO) ltT 34) (sk ltO)) 16), (γ4_1, ints .u8 ltT 34), (γ3_0, ints .u8 ltO 32), (γt3, ints .u8 (bk kyf nof 1) 64), (γ2_0, ints .u8 kyf 32), (γ2_1, ints .u8 nof 12)] ∧ _) := growB H9 hM (Nat.le_refl _) hl [0, 1] rfl (by decide)
  have o7_0 := ownB H9 hM (Nat.le_refl _) hl (i := 0) rfl
  have o7_1 := ownB H9 hM (Nat.le_refl _) hl (i := 1) rfl
  clear hM hl l H9
  generalize γ 0 = γ7_0 at H10 o7_0 ⊢
  generalize γ 1 = γ7_1 at H10 o7_1 ⊢
  generalize γ 65536 = γ7_65536
  clear γ
  refine rest_at (l := [3, 4, 5, 6, 7, 8]) rfl ?_
  refine rest_enter (d := 61) rfl rfl rfl (exec_call (args := #[.slice (some ⟨γ7_0, 0, none⟩) 32 (32 + γ7_65536), .slice (some ⟨γ7_1, 0, none⟩) 12 12, .slice (some ⟨γt8, 0, none⟩) 16 16, .slice none 0 0]) rfl call20 rfl (mpn rfl)) ((Calls.mono (POpen_ok kyf nof γ7_0 0 (32 + γ7_65536) γ7_1 0 12 (by omega) (by omega) (sl0 kyf nof pno.f 0 pno.f 0) γt8 0 16 16 pno pno_ok (sl0_256 _ _ _ _ _ _) (fun _ => (by decide : (0 : Nat) < 256)) (by decide) (by decide) (by decide) (show 0 ≤ 1048576 by decide) (open_seal kyf nof pno.f 0 pno.f 0) w10 (H10.out.1.rs 0 rfl (show 32 ≤ 32 by decide)) (H10.out.1.rs 1 rfl (show 12 ≤ 12 by decide)) (H10.out.1.rs 2 rfl (show 16 ≤ 16 by decide)) (pno_rs _)) (fun e w2 hh => by obtain ⟨hb, g, he, h1, h2, h3⟩ := hh; exact ⟨_, he, hb, g, rfl, h1, h2, h3⟩) : Calls Try.prog 20 #[.slice (some ⟨γ7_0, 0, none⟩) 32 (32 + γ7_65536), .slice (some ⟨γ7_1, 0, none⟩) 12 12, .slice (some ⟨γt8, 0, none⟩) 16 16, .slice none 0 0] w10 (fun e w' => ∃ v, e = .returned v ∧ (Below w10.heap.size w10 w' ∧ ∃ g, v = .tuple #[.slice (some ⟨g, 0, none⟩) 0 0, .int .i64 0] ∧ w10.heap.size ≤ g ∧ g < w'.heap.size ∧ Blk w' g (ints .u8 (so kyf nof 1 (sl0 kyf nof pno.f 0 pno.f 0)) 0))))) ?_
  rintro _ w11 ⟨hb, γt11, rfl, hg1, hg2, hg3⟩
  have o_γt11 : Hid (w.heap.size ≤ γt11) := Nat.le_trans H10.out.2.size hg1
  have H11 : Hid (Mm w11 [(γt11, ints .u8 (so kyf nof 1 (sl0 kyf nof pno.f 0 pno.f 0)) 0), (γ7_0, ints .u8 kyf 32), (γ7_1, ints .u8 nof 12), (γt8, ints .u8 (sl0 kyf nof pno.f 0 pno.f 0) 16), (γ5_0, ints .u8 kyf 32), (γ5_1, ints .u8 nof 12), (γt6, ints .u8 (tt (tga (rk ltO) ltT 34) (sk ltO)) 16), (γ4_1, ints .u8 ltT 34), (γ3_0, ints .u8 ltO 32), (γt3, ints .u8 (bk kyf nof 1) 64), (γ2_0, ints .u8 kyf 32), (γ2_1, ints .u8 nof 12)] ∧ Below w.heap.size w w11) := ⟨Mm.over H10.out.1 hg1 (H10.out.1.below hb) hg3 hg2, H10.out.2.trans (hb.mono H10.out.2.size)⟩
  clear hb hg1 hg2 hg3 H10
  simp only [Act.put, sa, sz, ss]
  refine rest_set (d := 57) (v := .tuple #[.slice (some ⟨γt11, 0, none⟩) 0 0, .int .i64 0]) (w' := w11) rfl rfl rfl rfl ?_
  simp only [Act.put, sa, sz, ss]
  refine rest_set (d := 62) (v := .slice (some ⟨γt11, 0, none⟩) 0 0) (w' := w11) rfl rfl rfl (by go_simp) ?_
  simp only [Act.put, sa, sz, ss]
  refine rest_set (d := 63) (v := .int .i64 0) (w' := w11) rfl rfl rfl (by go_simp) ?_
  simp only [Act.put, sa, sz, ss]
  refine rest_set (d := 8) (v := .slice (some ⟨γt11, 0, none⟩) 0 0) (w' := w11) rfl rfl rfl rfl ?_
  simp only [Act.put, sa, sz, ss]
  refine rest_set (d := 9) (v := .int .i64 0) (w' := w11) rfl rfl rfl rfl ?_
  simp only [Act.put, sa, sz, ss]
  refine rest_nil (then_normal (wp_seq ?_))
  refine walk_anyA 10 [.bornX (fun g x y => .slice (some ⟨g, 0, none⟩) 32 (32 + x)) (ints .u8 kyf 32), .born (fun g => .slice (some ⟨g, 0, none⟩) 12 12) (ints .u8 nof 12), .quiet (.slice (some ⟨γt8, 0, none⟩) 16 16), .quiet (.slice (some ⟨γt8, 0, none⟩) 15 16), .call (.tuple #[.slice none 0 0, .int .i64 200]), .quiet (.tuple #[.slice none 0 0, .int .i64 200]), .quiet (.slice none 0 0), .quiet (.int .i64 200), .quiet (.slice none 0 0), .quiet (.int .i64 200)] (sB H11) ?ho8 ?he8
  case ho8 => exact ak (fun γ => ⟨rfl, fun w' h => ⟨22, #[], exec_call rfl call22 rfl (mpn rfl), key_born w'⟩⟩) (ak (fun γ => ⟨rfl, fun w' h => ⟨23, #[], exec_call rfl call23 rfl (mpn rfl), nonce_any w'⟩⟩) (ak (fun _ => ⟨rfl, fun _ _ => rfl⟩) (ak (fun γ => ⟨rfl, fun w' _ => ex_slH22 (l := 15) rfl rfl rfl (by omega)⟩) (ak (fun γ => ⟨rfl, fun w' _ => ⟨20, #[.slice (some ⟨(γ 0), 0, none⟩) 32 (32 + (γ 65536)), .slice (some ⟨(γ 1), 0, none⟩) 12 12, .slice (some ⟨γt8, 0, none⟩) 15 16, .slice none 0 0], exec_call rfl call20 rfl (mpn rfl), POpen_short _ _ _ _ (pa γt8 0 15 16 (fun _ => 0)) pno (show 15 < 16 by decide) (show 0 ≤ 1048576 by decide) w'⟩⟩) (ak (fun _ => ⟨rfl, fun _ _ => rfl⟩) (ak (by refine fun γ => ⟨rfl, fun w' h => ?_⟩; clear h; go_simp) (ak (by refine fun γ => ⟨rfl, fun w' h => ?_⟩; clear h; go_simp) (ak (fun _ => ⟨rfl, fun _ _ => rfl⟩) (ak (fun _ => ⟨rfl, fun _ _ => rfl⟩) trivial)))))))))
  intro γ w12 l hM hl
  have H12 : Hid (Mm w12 [(γ 0, ints .u8 kyf 32), (γ 1, ints .u8 nof 12), (γt11, ints .u8 (so kyf nof 1 (sl0 kyf nof pno.f 0 pno.f 0)) 0), (γ7_0, ints .u8 kyf 32), (γ7_1, ints .u8 nof 12), (γt8, ints .u8 (sl0 kyf nof pno.f 0 pno.f 0) 16), (γ5_0, ints .u8 kyf 32), (γ5_1, ints .u8 nof 12), (γt6, ints .u8 (tt (tga (rk ltO) ltT 34) (sk ltO)) 16), (γ4_1, ints .u8 ltT 34), (γ3_0, ints .u8 ltO 32), (γt3, ints .u8 (bk kyf nof 1) 64), (γ2_0, ints .u8 kyf 32), (γ2_1, ints .u8 nof 12)] ∧ _) := growB H11 hM (Nat.le_refl _) hl [0, 1] rfl (by decide)
  have o8_0 := ownB H11 hM (Nat.le_refl _) hl (i := 0) rfl
  have o8_1 := ownB H11 hM (Nat.le_refl _) hl (i := 1) rfl
  clear hM hl l H11
  generalize γ 0 = γ8_0 at H12 o8_0 ⊢
  generalize γ 1 = γ8_1 at H12 o8_1 ⊢
  generalize γ 65536 = γ8_65536
  clear γ
  refine rest0 rfl (then_normal (wp_seq ?_))
  refine walk_seqA 3 [.quiet (.slice (some ⟨γ3_0, 0, none⟩) 32 32), .born (fun g => .slice (some ⟨g, 0, none⟩) 12 12) (ints .u8 nof 12), .quiet (.slice (some ⟨γt8, 0, none⟩) 16 16)] (sB H12) ?ho9 ?he9
  case ho9 => exact ak (fun _ => ⟨rfl, fun _ _ => rfl⟩) (ak (fun γ => ⟨rfl, fun w' h => ⟨23, #[], exec_call rfl call23 rfl (mpn rfl), nonce_any w'⟩⟩) (ak (fun _ => ⟨rfl, fun _ _ => rfl⟩) trivial))
  intro γ w13 l hM hl
  have H13 : Hid (Mm w13 [(γ 1, ints .u8 nof 12), (γ8_0, ints .u8 kyf 32), (γ8_1, ints .u8 nof 12), (γt11, ints .u8 (so kyf nof 1 (sl0 kyf nof pno.f 0 pno.f 0)) 0), (γ7_0, ints .u8 kyf 32), (γ7_1, ints .u8 nof 12), (γt8, ints .u8 (sl0 kyf nof pno.f 0 pno.f 0) 16), (γ5_0, ints .u8 kyf 32), (γ5_1, ints .u8 nof 12), (γt6, ints .u8 (tt (tga (rk ltO) ltT 34) (sk ltO)) 16), (γ4_1, ints .u8 ltT 34), (γ3_0, ints .u8 ltO 32), (γt3, ints .u8 (bk kyf nof 1) 64), (γ2_0, ints .u8 kyf 32), (γ2_1, ints .u8 nof 12)] ∧ _) := growB H12 hM (Nat.le_refl _) hl [1] rfl (by decide)
  have o9_1 := ownB H12 hM (Nat.le_refl _) hl (i := 1) rfl
  clear hM hl l H12
  generalize γ 1 = γ9_1 at H13 o9_1 ⊢
  clear γ
  refine rest_at (l := [3, 4, 5, 6, 7, 8]) rfl ?_
  refine rest_enter (d := 76) rfl rfl rfl (exec_call (args := #[.slice (some ⟨γ3_0, 0, none⟩) 32 32, .slice (some ⟨γ9_1, 0, none⟩) 12 12, .slice (some ⟨γt8, 0, none⟩) 16 16, .slice none 0 0]) rfl call20 rfl (mpn rfl)) ((Calls.mono (POpen_bad ltO nof γ3_0 0 32 γ9_1 0 12 (by omega) (by omega) (sl0 kyf nof pno.f 0 pno.f 0) γt8 0 16 16 pno pno_ok (sl0_256 _ _ _ _ _ _) (fun _ => (by decide : (0 : Nat) < 256)) (by decide) (by decide) (by decide) (show 0 ≤ 1048576 by decide) known_other w13 (H13.out.1.rs 11 rfl (show 32 ≤ 32 by decide)) (H13.out.1.rs 0 rfl (show 12 ≤ 12 by decide)) (H13.out.1.rs 6 rfl (show 16 ≤ 16 by decide)) (pno_rs _)) (fun e w2 hh => ⟨_, hh.1, rfl, hh.2⟩) : Calls Try.prog 20 #[.slice (some ⟨γ3_0, 0, none⟩) 32 32, .slice (some ⟨γ9_1, 0, none⟩) 12 12, .slice (some ⟨γt8, 0, none⟩) 16 16, .slice none 0 0] w13 (fun e w' => ∃ v, e = .returned v ∧ (v = .tuple #[.slice none 0 0, .int .i64 200] ∧ Below w13.heap.size w13 w')))) ?_
  rintro _ w14 ⟨rfl, hb⟩
  have H14 : Hid (Mm w14 [(γ9_1, ints .u8 nof 12), (γ8_0, ints .u8 kyf 32), (γ8_1, ints .u8 nof 12), (γt11, ints .u8 (so kyf nof 1 (sl0 kyf nof pno.f 0 pno.f 0)) 0), (γ7_0, ints .u8 kyf 32), (γ7_1, ints .u8 nof 12), (γt8, ints .u8 (sl0 kyf nof pno.f 0 pno.f 0) 16), (γ5_0, ints .u8 kyf 32), (γ5_1, ints .u8 nof 12), (γt6, ints .u8 (tt (tga (rk ltO) ltT 34) (sk ltO)) 16), (γ4_1, ints .u8 ltT 34), (γ3_0, ints .u8 ltO 32), (γt3, ints .u8 (bk kyf nof 1) 64), (γ2_0, ints .u8 kyf 32), (γ2_1, ints .u8 nof 12)] ∧ Below w.heap.size w w14) := ⟨H13.out.1.below hb, H13.out.2.trans (hb.mono H13.out.2.size)⟩
  clear hb H13
  simp only [Act.put, sa, sz, ss]
  refine rest_set (d := 72) (v := .tuple #[.slice none 0 0, .int .i64 200]) (w' := w14) rfl rfl rfl rfl ?_
  simp only [Act.put, sa, sz, ss]
  refine rest_set (d := 77) (v := .slice none 0 0) (w' := w14) rfl rfl rfl (by go_simp) ?_
  simp only [Act.put, sa, sz, ss]
  refine rest_set (d := 78) (v := .int .i64 200) (w' := w14) rfl rfl rfl (by go_simp) ?_
  simp only [Act.put, sa, sz, ss]
  refine rest_set (d := 12) (v := .slice none 0 0) (w' := w14) rfl rfl rfl rfl ?_
  simp only [Act.put, sa, sz, ss]
  refine rest_set (d := 13) (v := .int .i64 200) (w' := w14) rfl rfl rfl rfl ?_
  simp only [Act.put, sa, sz, ss]
  refine rest_nil (then_normal (wp_seq ?_))
  refine walk_anyA 9 [.quiet (.slice (some ⟨γ3_0, 0, none⟩) 32 32), .quiet (.slice (some ⟨γ3_0, 0, none⟩) 31 32), .born (fun g => .slice (some ⟨g, 0, none⟩) 12 12) (ints .u8 nof 12), .over (.tuple #[.slice none 0 0, .int .i64 2]) 2 (ints .u8 nof 12), .quiet (.tuple #[.slice none 0 0, .int .i64 2]), .quiet (.slice none 0 0), .quiet (.int .i64 2), .quiet (.slice none 0 0), .quiet (.int .i64 2)] (sB H14) ?ho10 ?he10 (hL := ?hL10)
  case hL10 => exact ⟨⟨_, rfl⟩, trivial⟩
  case ho10 => exact ak (fun _ => ⟨rfl, fun _ _ => rfl⟩) (ak (fun γ => ⟨rfl, fun w' _ => ex_slH22 (l := 31) rfl rfl rfl (by omega)⟩) (ak (fun γ => ⟨rfl, fun w' h => ⟨23, #[], exec_call rfl call23 rfl (mpn rfl), nonce_any w'⟩⟩) (ak (fun γ => ⟨rfl, fun u w' h0 hge h1 hb hlt => by have h := Mm.over h0 hge h1 hb hlt; exact ⟨9, #[.slice (some ⟨γ3_0, 0, none⟩) 31 32, .slice (some ⟨(γ 2), 0, none⟩) 12 12, .int .u32 0], exec_call rfl call9 rfl (mpn rfl), PBlock_err _ _ 31 12 _ _ 0 (.inl (by decide)) w'⟩⟩) (ak (fun _ => ⟨rfl, fun _ _ => rfl⟩) (ak (by refine fun γ => ⟨rfl, fun w' h => ?_⟩; clear h; go_simp) (ak (by refine fun γ => ⟨rfl, fun w' h => ?_⟩; clear h; go_simp) (ak (fun _ => ⟨rfl, fun _ _ => rfl⟩) (ak (fun _ => ⟨rfl, fun _ _ => rfl⟩) trivial))))))))
  intro γ w15 l hM hl
  have H15 : Hid (Mm w15 [(γ 2, ints .u8 nof 12), (γ9_1, ints .u8 nof 12), (γ8_0, ints .u8 kyf 32), (γ8_1, ints .u8 nof 12), (γt11, ints .u8 (so kyf nof 1 (sl0 kyf nof pno.f 0 pno.f 0)) 0), (γ7_0, ints .u8 kyf 32), (γ7_1, ints .u8 nof 12), (γt8, ints .u8 (sl0 kyf nof pno.f 0 pno.f 0) 16), (γ5_0, ints .u8 kyf 32), (γ5_1, ints .u8 nof 12), (γt6, ints .u8 (tt (tga (rk ltO) ltT 34) (sk ltO)) 16), (γ4_1, ints .u8 ltT 34), (γ3_0, ints .u8 ltO 32), (γt3, ints .u8 (bk kyf nof 1) 64), (γ2_0, ints .u8 kyf 32), (γ2_1, ints .u8 nof 12)] ∧ _) := growB H14 hM (Nat.le_refl _) hl [2] rfl (by decide)
  have o10_2 := ownB H14 hM (Nat.le_refl _) hl (i := 2) rfl
  clear hM hl l H14
  generalize γ 2 = γ10_2 at H15 o10_2 ⊢
  clear γ
  refine rest0 rfl (then_normal (wp_seq ?_))
  refine walk_seqA 10 [.quiet (.slice (some ⟨γt3, 0, none⟩) 64 64), .quiet (.slice (some ⟨γt3, 0, none⟩) 8 64), .row (fun g => .slice (some ⟨g, 0, none⟩) 8 8) (ints .u8 ltB 8) 5, .over (.bool true) 2 (ints .u8 ltB 8), .quiet (.bool true), .quiet (.slice (some ⟨γt6, 0, none⟩) 16 16), .row (fun g => .slice (some ⟨g, 0, none⟩) 16 16) (ints .u8 ltG 16) 5, .over (.bool true) 6 (ints .u8 ltG 16), .quiet (.bool true), .quiet (.bool true)] (sB H15) ?ho11 ?he11 (hL := ?hL11)
  case hL11 => exact ⟨⟨_, rfl⟩, ⟨_, rfl⟩, trivial⟩
  case ho11 => exact ak (fun _ => ⟨rfl, fun _ _ => rfl⟩) (ak (fun γ => ⟨rfl, fun w' _ => ex_slH22 (l := 8) rfl rfl rfl (by omega)⟩) (ak (fun γ => ⟨rfl, fun w' => ex_litB rfl (fun _ => rfl)⟩) (ak (fun γ => ⟨rfl, fun u w' h0 hge h1 hb hlt => by have h := Mm.over h0 hge h1 hb hlt; exact ⟨15, #[.slice (some ⟨γt3, 0, none⟩) 8 64, .slice (some ⟨(γ 2), 0, none⟩) 8 8], exec_call rfl call15 rfl (mpn rfl), same_pt (pa γt3 0 8 64 (bk kyf nof 1)) (pa (γ 2) 0 8 8 ltB) (pa_ok _ _ _ (show 8 ≤ 64 by decide)) (pa_ok _ _ _ (Nat.le_refl _)) (bk_256 _ _ _) ltB_256 true ⟨fun _ => ⟨rfl, known_block⟩, fun _ => rfl⟩ w' (h.rs 14 rfl (show 8 ≤ 64 by decide)) (h.rs 0 rfl (Nat.le_refl _))⟩⟩) (ak (fun _ => ⟨rfl, fun _ _ => rfl⟩) (ak (fun _ => ⟨rfl, fun _ _ => rfl⟩) (ak (fun γ => ⟨rfl, fun w' => ex_litG rfl (fun _ => rfl)⟩) (ak (fun γ => ⟨rfl, fun u w' h0 hge h1 hb hlt => by have h := Mm.over h0 hge h1 hb hlt; exact ⟨15, #[.slice (some ⟨γt6, 0, none⟩) 16 16, .slice (some ⟨(γ 6), 0, none⟩) 16 16], exec_call rfl call15 rfl (mpn rfl), same_pt (pa γt6 0 16 16 (tt (tga (rk ltO) ltT 34) (sk ltO))) (pa (γ 6) 0 16 16 ltG) (pa_ok _ _ _ (show 16 ≤ 16 by decide)) (pa_ok _ _ _ (Nat.le_refl _)) (dg_lt _) ltG_256 true ⟨fun _ => ⟨rfl, known_tag⟩, fun _ => rfl⟩ w' (h.rs 11 rfl (show 16 ≤ 16 by decide)) (h.rs 0 rfl (Nat.le_refl _))⟩⟩) (ak (by refine fun γ => ⟨rfl, fun w' h => ?_⟩; clear h; go_simp) (ak (fun _ => ⟨rfl, fun _ _ => rfl⟩) trivial)))))))))
  intro γ w16 l hM hl
  have H16 : Hid (Mm w16 [(γ 2, ints .u8 ltB 8), (γ 6, ints .u8 ltG 16), (γ10_2, ints .u8 nof 12), (γ9_1, ints .u8 nof 12), (γ8_0, ints .u8 kyf 32), (γ8_1, ints .u8 nof 12), (γt11, ints .u8 (so kyf nof 1 (sl0 kyf nof pno.f 0 pno.f 0)) 0), (γ7_0, ints .u8 kyf 32), (γ7_1, ints .u8 nof 12), (γt8, ints .u8 (sl0 kyf nof pno.f 0 pno.f 0) 16), (γ5_0, ints .u8 kyf 32), (γ5_1, ints .u8 nof 12), (γt6, ints .u8 (tt (tga (rk ltO) ltT 34) (sk ltO)) 16), (γ4_1, ints .u8 ltT 34), (γ3_0, ints .u8 ltO 32), (γt3, ints .u8 (bk kyf nof 1) 64), (γ2_0, ints .u8 kyf 32), (γ2_1, ints .u8 nof 12)] ∧ _) := growB H15 hM (Nat.le_refl _) hl [2, 6] rfl (by decide)
  have o11_2 := ownB H15 hM (Nat.le_refl _) hl (i := 2) rfl
  have o11_6 := ownB H15 hM (Nat.le_refl _) hl (i := 6) rfl
  clear hM hl l H15
  generalize γ 2 = γ11_2 at H16 o11_2 ⊢
  generalize γ 6 = γ11_6 at H16 o11_6 ⊢
  clear γ
  refine rest0 rfl (then_normal (wp_seq ?_))
  refine walk_seqB 23 [.quiet (.bool true), .quiet (.bool true), .quiet (.int .i64 0), .quiet (.bool true), .quiet (.bool true), .quiet (.bool true), .quiet (.slice (some ⟨γt11, 0, none⟩) 0 0), .quiet (.int .i64 ((0 : Nat) : Int)), .quiet (.bool true), .quiet (.bool true), .quiet (.bool true), .quiet (.int .i64 200), .quiet (.bool true), .quiet (.bool true), .quiet (.bool true), .quiet (.int .i64 200), .quiet (.bool true), .quiet (.bool true), .quiet (.bool true), .quiet (.int .i64 2), .quiet (.bool true), .quiet (.bool true), .quiet (.bool true)] H16 ?ho12 ?he12
  case ho12 => exact ak (fun _ => ⟨rfl, fun _ _ => rfl⟩) (ak (fun _ => ⟨rfl, fun _ _ => rfl⟩) (ak (fun _ => ⟨rfl, fun _ _ => rfl⟩) (ak (fun γ => ⟨rfl, fun w' _ => ex_eqE (a := 0) (b := 0) rfl rfl rfl rfl⟩) (ak (by refine fun γ => ⟨rfl, fun w' h => ?_⟩; clear h; go_simp) (ak (fun _ => ⟨rfl, fun _ _ => rfl⟩) (ak (fun _ => ⟨rfl, fun _ _ => rfl⟩) (ak (by refine fun γ => ⟨rfl, fun w' h => ?_⟩; clear h; go_simp) (ak (by refine fun γ => ⟨rfl, fun w' h => ?_⟩; clear h; go_simp <;> omega) (ak (by refine fun γ => ⟨rfl, fun w' h => ?_⟩; clear h; go_simp) (ak (fun _ => ⟨rfl, fun _ _ => rfl⟩) (ak (fun _ => ⟨rfl, fun _ _ => rfl⟩) (ak (fun γ => ⟨rfl, fun w' _ => ex_eqE (a := 200) (b := 200) rfl rfl rfl rfl⟩) (ak (by refine fun γ => ⟨rfl, fun w' h => ?_⟩; clear h; go_simp) (ak (fun _ => ⟨rfl, fun _ _ => rfl⟩) (ak (fun _ => ⟨rfl, fun _ _ => rfl⟩) (ak (fun γ => ⟨rfl, fun w' _ => ex_eqE (a := 200) (b := 200) rfl rfl rfl rfl⟩) (ak (by refine fun γ => ⟨rfl, fun w' h => ?_⟩; clear h; go_simp) (ak (fun _ => ⟨rfl, fun _ _ => rfl⟩) (ak (fun _ => ⟨rfl, fun _ _ => rfl⟩) (ak (fun γ => ⟨rfl, fun w' _ => ex_eqE (a := 2) (b := 2) rfl rfl rfl rfl⟩) (ak (by refine fun γ => ⟨rfl, fun w' h => ?_⟩; clear h; go_simp) (ak (fun _ => ⟨rfl, fun _ _ => rfl⟩) trivial))))))))))))))))))))))
  intro _ w17 H17
  clear H16
  refine rest0 rfl (then_normal (wp_ret ?_))
  repeat (first | refine then_ret ?_ | refine block_ret ?_)
  refine bodyPost_ret (v := .bool true) (by simp [results, Try.results5, go_sem, *]) rfl ?_
  exact ⟨rfl, H17.out.2⟩
end Rg
end Go.Proofs.Ytkkippfikfjdpaa
end
