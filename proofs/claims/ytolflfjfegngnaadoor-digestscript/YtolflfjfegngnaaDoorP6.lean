/- Texts of the proof, joined. -/
import Derived.Test.YtolflfjfegngnaaDoorP5
section
namespace Go.Proofs.YtolflfjfegngnaaDoor
open Go.RowKit
namespace Rg
set_option maxRecDepth 100000
/-- A hash that so many bytes were written to. -/
def hq (f : Nat → Nat) (n : Nat) : Hq := hby f ⟨fT, fun _ => 0, 0⟩ n
theorem hq_c (f : Nat → Nat) (n : Nat) : (hq f n).c = n := by
  unfold hq
  rw [hby_c]
  exact Nat.zero_add _
/-- Where the script is: which hash goes on, the hashes' blocks, the messages. -/
structure Ds where
  k : Nat
  now : Nat
  g0 : Nat
  g1 : Nat
  q0 : Pt8
  q1 : Pt8
structure Mk (q : Pt8) : Prop where
  ok : Pok q
  nn : q.p = none → q.cp = 0
  lt : ∀ j, q.f j < 256
structure SI (w : World) (gh gm m : Nat) (D : Ds) (w' : World) : Prop where
  km : D.k ≤ m
  nw : D.now < 2
  l0 : D.q0.n ≤ 4000 * D.k
  l1 : D.q1.n ≤ 4000 * D.k
  p0 : Mk D.q0
  p1 : Mk D.q1
  o0 : w.heap.size ≤ D.g0
  o1 : w.heap.size ≤ D.g1
  s : Sr w [gh, gm, D.g0, D.g1] D.q0 D.q1 w'
theorem script_cases (kd now n : Nat) (h : now < 2) : 4000 < n ∨ (n ≤ 4000 ∧ ((now = 0 ∧ kd = 0) ∨ (now = 0 ∧ kd = 1) ∨ (now = 0 ∧ kd = 2) ∨ (now = 0 ∧ kd = 3) ∨ (now = 0 ∧ 3 < kd) ∨ (now = 1 ∧ kd = 0) ∨ (now = 1 ∧ kd = 1) ∨ (now = 1 ∧ kd = 2) ∨ (now = 1 ∧ kd = 3) ∨ (now = 1 ∧ 3 < kd))) := by omega
theorem pt_doc {q : Pt8} (h : Pok q) (hN : q.p = none → q.cp = 0) {w : World} (hr : q.rs w) : Dv (.slice q.p q.n q.cp) q.n q.f w := by
  obtain ⟨gb, o, n, cp, p, f⟩ := q
  obtain ⟨hB, hle⟩ := h
  simp only [Pt8.rs] at hB hN hr hle ⊢
  cases p with
  | none =>
    have hn : n = 0 := by
      rcases Nat.eq_zero_or_pos n with e | e
      · exact e
      · have := hB.1 e
        simp at this
    have hc := hN rfl
    subst hn hc
    exact .inl ⟨rfl, rfl⟩
  | some a =>
    refine .inr ⟨a, cp, rfl, fun hn => ?_, fun j hj => ?_⟩
    · have e := hB.1 hn
      injection e with e1
      injection e1 with e1
      rw [e1]
      exact hr.lt hn
    · have e := hB.1 (by omega)
      injection e with e1
      injection e1 with e1
      rw [e1]
      exact hr.add j hj
theorem Mm.grown {w w2 : World} {g : Nat} {cs : List Value} {l : List (Nat × List Value)} (h : Mm w ((g, cs) :: l)) (h3 : w.grownBy w2 (some g)) : Mm w2 l := by
  have nd := List.pairwise_cons.1 h.nd
  refine ⟨fun p hp => ?_, nd.2⟩
  have hb := h.blk p (List.mem_cons_of_mem _ hp)
  have hblk := h3.block p.1 hb.1 (fun e => nd.1 p hp (Option.some.inj e).symm)
  refine ⟨Nat.lt_of_lt_of_le hb.1 h3.size, fun j v hj => ?_⟩
  rw [World.cell?_of_block (a := ⟨p.1, j, none⟩) hblk, World.frozen?_of_block (a := ⟨p.1, j, none⟩) hblk]
  exact hb.2 j v hj
theorem grown_kp {w w2 : World} {g : Nat} (h : w.grownBy w2 (some g)) : Kp g w w2 := ⟨h.os, h.tape, h.output, h.size, fun k hk hne => h.block k hk (fun e => hne (Option.some.inj e))⟩
theorem new_apart {w : World} {g g' : Nat} {cs : List Value} {l : List (Nat × List Value)} {v : Value} (h : Mm w ((g, cs) :: l)) (h5 : v.ownBlock = some g ∨ v.ownBlock = some w.heap.size) (hb : v.ownBlock = some g') : g' ∉ l.map Prod.fst := fun hm => by
  obtain ⟨p, hp, e⟩ := List.mem_map.1 hm
  rcases h5 with e5 | e5
  · rw [hb] at e5
    exact (List.pairwise_cons.1 h.nd).1 p hp (by rw [e]; exact (Option.some.inj e5).symm)
  · rw [hb] at e5
    have := (h.blk p (List.mem_cons_of_mem _ hp)).1
    have := Option.some.inj e5
    omega
theorem Sr.less {w w1 : World} {L L' : List Nat} {q0 q1 : Pt8} (h : Sr w L q0 q1 w1) (hl : ∀ x ∈ L', x ∈ L) : Sr w L' q0 q1 w1 := ⟨h.b, h.r0, h.r1, fun hn hm => h.a0 hn (hl _ hm), fun hn hm => h.a1 hn (hl _ hm)⟩
theorem Sr.both0 {w w1 : World} {L : List Nat} {q0 q1 : Pt8} (h : Sr w L q0 q1 w1) : Sr w L q0 q0 w1 := ⟨h.b, h.r0, h.r0, h.a0, h.a0⟩
theorem Sr.both1 {w w1 : World} {L : List Nat} {q0 q1 : Pt8} (h : Sr w L q0 q1 w1) : Sr w L q1 q1 w1 := ⟨h.b, h.r1, h.r1, h.a1, h.a1⟩
theorem Write_hq (g gb n cp : Nat) (q : Pt8) (f : Nat → Nat) (hcp : n ≤ cp) (hb : q.n + n < 4611686018427387904) (w : World) (hm : Mm w [(g, hs true (hq q.f q.n).s (hq q.f q.n).r (hq q.f q.n).c), (1, ints .u32 kT 64)]) (hS : Src g gb 0 n f w) :
    Calls Tryd.prog 26 #[PT g 0, .slice (some ⟨gb, 0, none⟩) n cp] w fun e w' => e = .returned (.int .i64 0) ∧ Mm w' [(g, hs true (hq (ct q.f q.n f) (q.n + n)).s (hq (ct q.f q.n f) (q.n + n)).r (hq (ct q.f q.n f) (q.n + n)).c)] ∧ Kp g w w' := by
  have hh := Write_ok g gb 0 n cp (hq q.f q.n) f _ (Bv.start _ _ _ _) hcp (by rw [hq_c]; exact hb) w hm hS
  have e : hq (ct q.f q.n f) (q.n + n) = hby f (hq q.f q.n) n := hby_ct _ _ _ _ _
  rw [e]
  exact hh
theorem Len_hq (g : Nat) (q : Pt8) (hc : q.n < 4611686018427387904) (w : World) (hm : Mm w [(g, hs true (hq q.f q.n).s (hq q.f q.n).r (hq q.f q.n).c)]) : Calls Tryd.prog 31 #[PT g 0] w fun e w' => e = .returned (.int .i64 ((q.n : Nat) : Int)) ∧ Below w.heap.size w w' := by
  have hh := Len_ok g (hq q.f q.n) (by rw [hq_c]; exact hc) w hm
  rw [hq_c] at hh
  exact hh
theorem Over_kp (g n c : Nat) (f : Nat → Nat) (hc : c ≤ 1048576) (w : World) (hm : Mm w [(g, ints .u8 f c)]) : Calls Tryd.prog 27 #[.slice (some ⟨g, 0, none⟩) n c] w fun e w' => e = .returned (.tuple #[]) ∧ Mm w' [(g, ints .u8 (mk8 f 90) c)] ∧ Kp g w w' :=
  Calls.mono (Over_some g n c f hc w hm) (fun _e _w2 hh => ⟨hh.1, hh.2.1, hh.2.2.k⟩)
theorem pno_mk : Mk pno := ⟨pno_ok, fun _ => rfl, fun _ => by show (0 : Nat) < 256; decide⟩
set_option maxHeartbeats 16000000 in
set_option maxRecDepth 100000 in
theorem script_long (pl : Option Addr) (X : Nat → Ac) (m c2 : Nat) (hp20 : 0 < m → ∃ g o, pl = some ⟨g, o, none⟩) (hAr0 : ∀ i, i < m → Ar (X i).xs (X i).q) (hl : 40 < m) (w : World) (hm : Mm w [(0, ints .u32 fT 8), (1, ints .u32 kT 64)]) (hL : Lc pl X m w) :
    Calls Tryd.prog 5 #[.slice pl m c2] w fun e w' => e = .returned (.bool true) ∧ Below w.heap.size w w' := by
  have H0 : Hid (_ ∧ _) := ⟨hm, Below.refl w.heap.size w⟩
  clear hm
  have hp2 : Hid _ := hp20
  have hAr : Hid _ := hAr0
  have LC : Hid (Lc pl X m w) := hL
  clear hp20 hAr0 hL
  go_enter Tryd.func5, Tryd.ntmps5
  refine wp_seq ?_
  refine walk_seqB 1 [.quiet (.bool false)] H0 ?ho1 ?he1
  case ho1 => exact ak (fun _ => ⟨rfl, fun _ _ => rfl⟩) trivial
  intro _ w1 H1
  refine rest0 rfl (then_normal (wp_seq (wp_seq ?_)))
  refine walk_seqB 3 [.quiet (.slice pl m c2), .quiet (.int .i64 ((m : Nat) : Int)), .quiet (.bool true)] H1 ?ho2 ?he2
  case ho2 => exact ak (fun _ => ⟨rfl, fun _ _ => rfl⟩) (ak (by refine fun γ => ⟨rfl, fun w' h => ?_⟩; clear h; go_simp) (ak (by refine fun γ => ⟨rfl, fun w' h => ?_⟩; clear h; go_simp <;> omega) trivial))
  intro _ w2 H2
  clear H1
  refine rest0 rfl (then_normal (wp_cond_true rfl (wp_seq ?_)))
  refine walk_seqB 1 [.quiet (.bool true)] H2 ?ho3 ?he3
  case ho3 => exact ak (fun _ => ⟨rfl, fun _ _ => rfl⟩) trivial
  intro _ w3 H3
  clear H2
  refine rest0 rfl (then_normal (wp_ret ?_))
  repeat (first | refine then_ret ?_ | refine block_ret ?_)
  refine bodyPost_ret (v := .bool true) (by simp [results, Tryd.results5, go_sem, *]) rfl ?_
  exact ⟨rfl, H3.out.2⟩
set_option maxHeartbeats 16000000 in
set_option maxRecDepth 100000 in
theorem script_main (pl : Option Addr) (X : Nat → Ac) (m c2 : Nat) (hp20 : 0 < m → ∃ g o, pl = some ⟨g, o, none⟩) (hAr0 : ∀ i, i < m → Ar (X i).xs (X i).q) (hl : m ≤ 40) (w : World) (hm : Mm w [(0, ints .u32 fT 8), (1, ints .u32 kT 64)]) (hL : Lc pl X m w) :
    Calls Tryd.prog 5 #[.slice pl m c2] w fun e w' => e = .returned (.bool true) ∧ Below w.heap.size w w' := by
  have H0 : Hid (_ ∧ _) := ⟨hm, Below.refl w.heap.size w⟩
  clear hm
  have hp2 : Hid _ := hp20
  have hAr : Hid _ := hAr0
  have LC : Hid (Lc pl X m w) := hL
  clear hp20 hAr0 hL
  go_enter Tryd.func5, Tryd.ntmps5
  refine wp_seq ?_
  refine walk_seqB 1 [.quiet (.bool false)] H0 ?ho1 ?he1
  case ho1 => exact ak (fun _ => ⟨rfl, fun _ _ => rfl⟩) trivial
  intro _ w1 H1
  refine rest0 rfl (then_normal (wp_seq (wp_seq ?_)))
  refine walk_seqB 3 [.quiet (.slice pl m c2), .quiet (.int .i64 ((m : Nat) : Int)), .quiet (.bool false)] H1 ?ho2 ?he2
  case ho2 => exact ak (fun _ => ⟨rfl, fun _ _ => rfl⟩) (ak (by refine fun γ => ⟨rfl, fun w' h => ?_⟩; clear h; go_simp) (ak (by refine fun γ => ⟨rfl, fun w' h => ?_⟩; clear h; go_simp <;> omega) trivial))
  intro _ w2 H2
  clear H1
  refine rest0 rfl (then_normal (wp_cond_false rfl ?_))
  refine wp_skip (then_normal (wp_seq ?_))
  refine walk_seqA 2 [.born (fun g => PT g 0) (hs true fT (fun _ => 0) 0), .born (fun g => PT g 0) (hs true fT (fun _ => 0) 0)] (sB H2) ?ho3 ?he3
  case ho3 => exact ak (fun γ => ⟨rfl, fun w' h => ⟨25, #[], exec_call rfl call25 rfl (mpn rfl), New_any w' (h.one 0 rfl)⟩⟩) (ak (fun γ => ⟨rfl, fun w' h => ⟨25, #[], exec_call rfl call25 rfl (mpn rfl), New_any w' (h.one 0 rfl)⟩⟩) trivial)
  intro γ w3 l hM hl
  have H3 : Hid (Mm w3 [(γ 0, hs true fT (fun _ => 0) 0), (γ 1, hs true fT (fun _ => 0) 0), (0, ints .u32 fT 8), (1, ints .u32 kT 64)] ∧ _) := growB H2 hM (Nat.le_refl _) hl [0, 1] rfl (by decide)
  have o3_0 := ownB H2 hM (Nat.le_refl _) hl (i := 0) rfl
  have o3_1 := ownB H2 hM (Nat.le_refl _) hl (i := 1) rfl
  clear hM hl l H2
  generalize γ 0 = γ3_0 at H3 o3_0 ⊢
  generalize γ 1 = γ3_1 at H3 o3_1 ⊢
  clear γ
  refine rest_at (l := [2, 3]) rfl ?_
  refine rest_set (d := 14) (v := .slice (some ⟨w3.heap.size, 0, none⟩) 2 2) (w' := (w3.alloc (.cells ([PT γ3_0 0, PT γ3_1 0] : List Value).toArray 41))) rfl rfl rfl (ex_bsH rfl rfl rfl) ?_
  simp only [Act.put, sa, sz, ss]
  have o_gh : Hid (w.heap.size ≤ w3.heap.size) := H3.out.2.size
  have H4 : Hid (Mm (w3.alloc (.cells ([PT γ3_0 0, PT γ3_1 0] : List Value).toArray 41)) ((w3.heap.size, [PT γ3_0 0, PT γ3_1 0]) :: [(γ3_0, hs true fT (fun _ => 0) 0), (γ3_1, hs true fT (fun _ => 0) 0), (0, ints .u32 fT 8), (1, ints .u32 kT 64)]) ∧ Below w.heap.size w (w3.alloc (.cells ([PT γ3_0 0, PT γ3_1 0] : List Value).toArray 41))) := ⟨H3.out.1.alloc _ 41 rfl, H3.out.2.trans (((Below.refl _ _).alloc (Nat.le_refl _) _).mono H3.out.2.size)⟩
  clear H3
  generalize hgw : (w3.alloc (.cells ([PT γ3_0 0, PT γ3_1 0] : List Value).toArray 41)) = w4 at H4 ⊢
  clear hgw
  generalize w3.heap.size = gh at o_gh H4 ⊢
  refine rest_set (d := 3) (v := .slice (some ⟨gh, 0, none⟩) 2 2) (w' := w4) rfl rfl rfl rfl ?_
  simp only [Act.put, sa, sz, ss]
  refine rest_nil (then_normal (wp_seq ?_))
  refine walk_seqB 0 [] H4 ?ho4 ?he4
  case ho4 => exact trivial
  intro _ w5 H5
  clear H4
  refine rest_at (l := [0, 1]) rfl ?_
  refine rest_set (d := 15) (v := .slice (some ⟨w5.heap.size, 0, none⟩) 2 2) (w' := (w5.alloc (.cells ([.slice none 0 0, .slice none 0 0] : List Value).toArray 22))) rfl rfl rfl (ex_bsM rfl (fun _ => rfl)) ?_
  simp only [Act.put, sa, sz, ss]
  have o_gm : Hid (w.heap.size ≤ w5.heap.size) := H5.out.2.size
  have H6 : Hid (Mm (w5.alloc (.cells ([.slice none 0 0, .slice none 0 0] : List Value).toArray 22)) ((w5.heap.size, [.slice none 0 0, .slice none 0 0]) :: [(gh, [PT γ3_0 0, PT γ3_1 0]), (γ3_0, hs true fT (fun _ => 0) 0), (γ3_1, hs true fT (fun _ => 0) 0), (0, ints .u32 fT 8), (1, ints .u32 kT 64)]) ∧ Below w.heap.size w (w5.alloc (.cells ([.slice none 0 0, .slice none 0 0] : List Value).toArray 22))) := ⟨H5.out.1.alloc _ 22 rfl, H5.out.2.trans (((Below.refl _ _).alloc (Nat.le_refl _) _).mono H5.out.2.size)⟩
  clear H5
  generalize hgw : (w5.alloc (.cells ([.slice none 0 0, .slice none 0 0] : List Value).toArray 22)) = w6 at H6 ⊢
  clear hgw
  generalize w5.heap.size = gm at o_gm H6 ⊢
  refine rest_set (d := 4) (v := .slice (some ⟨gm, 0, none⟩) 2 2) (w' := w6) rfl rfl rfl rfl ?_
  simp only [Act.put, sa, sz, ss]
  refine rest_nil (then_normal (wp_seq ?_))
  refine walk_seqB 1 [.quiet (.int .i64 0)] H6 ?ho5 ?he5
  case ho5 => exact ak (fun _ => ⟨rfl, fun _ _ => rfl⟩) trivial
  intro _ w7 H7
  clear H6
  refine rest0 rfl (then_normal (wp_seq (wp_seq ?_)))
  refine walk_seqB 1 [.quiet (.int .i64 0)] H7 ?ho6 ?he6
  case ho6 => exact ak (fun _ => ⟨rfl, fun _ _ => rfl⟩) trivial
  intro _ w8 H8
  clear H7
  refine rest0 rfl (then_normal (wp_block ?_))
  refine loop_ghost (α := Ds) (fun D a' w' => ∃ s0 : Nat → Value, a' = ⟨#[.slice pl m c2, undef, s0 2, .slice (some ⟨gh, 0, none⟩) 2 2, .slice (some ⟨gm, 0, none⟩) 2 2, .int .i64 ((D.now : Nat) : Int), .int .i64 ((D.k : Nat) : Int), s0 7, s0 8, .slice pl m c2, .int .i64 ((m : Nat) : Int), .bool false, PT γ3_0 0, PT γ3_1 0, .slice (some ⟨gh, 0, none⟩) 2 2, .slice (some ⟨gm, 0, none⟩) 2 2, s0 16, s0 17, s0 18, s0 19, s0 20, s0 21, s0 22, s0 23, s0 24, s0 25, s0 26, s0 27, s0 28, s0 29, s0 30, s0 31, s0 32, s0 33, s0 34, s0 35, s0 36, s0 37, s0 38, s0 39, s0 40, s0 41, s0 42, s0 43, s0 44, s0 45, s0 46, s0 47, s0 48, s0 49, s0 50, s0 51, s0 52, s0 53, s0 54, s0 55, s0 56, s0 57, s0 58, s0 59, s0 60, s0 61, s0 62, s0 63, s0 64, s0 65, s0 66, s0 67, s0 68, s0 69, s0 70, s0 71, s0 72, s0 73, s0 74, s0 75, s0 76, s0 77, s0 78, s0 79, s0 80, s0 81, s0 82, s0 83, s0 84, s0 85, s0 86, s0 87, s0 88, s0 89, s0 90, s0 91, s0 92, s0 93, s0 94, s0 95, s0 96, s0 97, s0 98, s0 99, s0 100, s0 101, s0 102, s0 103, s0 104, s0 105, s0 106, s0 107, s0 108, s0 109, s0 110, s0 111, s0 112, s0 113, s0 114, s0 115, s0 116, s0 117, s0 118, s0 119, s0 120, s0 121, s0 122, s0 123, s0 124, undef, undef, undef, undef, undef, undef, undef, undef, undef, undef, undef, undef, undef, undef, undef, undef, undef, undef], []⟩ ∧ (Mm w' [(gm, [Value.slice D.q0.p D.q0.n D.q0.cp, Value.slice D.q1.p D.q1.n D.q1.cp]), (gh, [PT D.g0 0, PT D.g1 0]), (D.g0, hs true ((hq D.q0.f D.q0.n).s) ((hq D.q0.f D.q0.n).r) ((hq D.q0.f D.q0.n).c)), (D.g1, hs true ((hq D.q1.f D.q1.n).s) ((hq D.q1.f D.q1.n).r) ((hq D.q1.f D.q1.n).c)), (0, ints .u32 fT 8), (1, ints .u32 kT 64)] ∧ Below w.heap.size w w') ∧ SI w gh gm m D w') (fun D => m - D.k) ⟨0, 0, γ3_0, γ3_1, pno, pno⟩ ?st0 ?rd0
  case st0 => exact ⟨(slotfn [undef, undef, .bool false, undef, undef, undef, undef, undef, undef, undef, undef, undef, undef, undef, undef, undef, undef, undef, undef, undef, undef, undef, undef, undef, undef, undef, undef, undef, undef, undef, undef, undef, undef, undef, undef, undef, undef, undef, undef, undef, undef, undef, undef, undef, undef, undef, undef, undef, undef, undef, undef, undef, undef, undef, undef, undef, undef, undef, undef, undef, undef, undef, undef, undef, undef, undef, undef, undef, undef, undef, undef, undef, undef, undef, undef, undef, undef, undef, undef, undef, undef, undef, undef, undef, undef, undef, undef, undef, undef, undef, undef, undef, undef, undef, undef, undef, undef, undef, undef, undef, undef, undef, undef, undef, undef, undef, undef, undef, undef, undef, undef, undef, undef, undef, undef, undef, undef, undef, undef, undef, undef, undef, undef, undef, undef]), rfl, ⟨H8.out.1, H8.out.2⟩, ⟨Nat.zero_le _, (show 0 < 2 by decide), Nat.zero_le _, Nat.zero_le _, pno_mk, pno_mk, o3_0.out, o3_1.out, H8.out.2, pno_rs _, pno_rs _, (fun h => absurd h (Nat.lt_irrefl _)), (fun h => absurd h (Nat.lt_irrefl _))⟩⟩
  intro D a' w9 hI
  obtain ⟨s0, rfl, hMB, hk0⟩ := hI
  have H9 : Hid (_ ∧ _) := hMB
  clear hMB H8
  by_cases hlt : D.k < m
  · have hrd : True := trivial
    clear hrd
    obtain ⟨k, now, g0, g1, q0, q1⟩ := D
    obtain ⟨hkm, hnw, hl0, hl1, hp0, hp1, ho0, ho1, hsr⟩ := hk0
    dsimp only at hkm hnw hl0 hl1 hp0 hp1 ho0 ho1 hsr hlt
    have o_g0 : Hid (w.heap.size ≤ g0) := ho0
    have o_g1 : Hid (w.heap.size ≤ g1) := ho1
    have H10 : Hid (Mm w9 [(gm, [Value.slice q0.p q0.n q0.cp, Value.slice q1.p q1.n q1.cp]), (gh, [PT g0 0, PT g1 0]), (g0, hs true ((hq q0.f q0.n).s) ((hq q0.f q0.n).r) ((hq q0.f q0.n).c)), (g1, hs true ((hq q1.f q1.n).s) ((hq q1.f q1.n).r) ((hq q1.f q1.n).c)), (0, ints .u32 fT 8), (1, ints .u32 kT 64)] ∧ Sr w [gh, gm, g0, g1] q0 q1 w9) := ⟨H9.out.1, hsr⟩
    clear hsr ho0 ho1 H9
    obtain ⟨ga, oa, e2⟩ := hp2.out (by omega)
    have E2 : Hid (pl = some ⟨ga, oa, none⟩) := e2
    clear e2
    rcases script_cases (X k).kd now (X k).q.n hnw with hL | ⟨hS, ⟨rfl, hK⟩ | ⟨rfl, hK⟩ | ⟨rfl, hK⟩ | ⟨rfl, hK⟩ | ⟨rfl, hK⟩ | ⟨rfl, hK⟩ | ⟨rfl, hK⟩ | ⟨rfl, hK⟩ | ⟨rfl, hK⟩ | ⟨rfl, hK⟩⟩
    · have hrd : True := trivial
      clear hrd
      refine wp_seq (wp_seq ?_)
      refine walk_seqA 4 [.quiet (.int .i64 ((k : Nat) : Int)), .quiet (.slice pl m c2), .quiet (.int .i64 ((m : Nat) : Int)), .quiet (.bool true)] (sB H10) ?ho7KLn0 ?he7KLn0
      case ho7KLn0 => exact ak (fun _ => ⟨rfl, fun _ _ => rfl⟩) (ak (fun _ => ⟨rfl, fun _ _ => rfl⟩) (ak (by refine fun γ => ⟨rfl, fun w' h => ?_⟩; clear h; go_simp) (ak (by refine fun γ => ⟨rfl, fun w' h => ?_⟩; clear h; go_simp <;> omega) trivial)))
      intro γ w11 l hM hl
      have M11 : Mm w11 [(gm, [Value.slice q0.p q0.n q0.cp, Value.slice q1.p q1.n q1.cp]), (gh, [PT g0 0, PT g1 0]), (g0, hs true ((hq q0.f q0.n).s) ((hq q0.f q0.n).r) ((hq q0.f q0.n).c)), (g1, hs true ((hq q1.f q1.n).s) ((hq q1.f q1.n).r) ((hq q1.f q1.n).c)), (0, ints .u32 fT 8), (1, ints .u32 kT 64)] := H10.out.1.grow hM (Nat.le_refl _) hl [] rfl (by decide)
      have B11 : Sr w [gh, gm, g0, g1] q0 q1 w11 := Sr.step H10.out.2 (hM.below)
      clear hM hl l H10
      clear γ
      have H11 : Hid (_ ∧ _) := ⟨M11, B11⟩
      clear M11 B11
      refine rest0 rfl (then_normal (wp_cond_true rfl ?_))
      refine wp_skip (then_normal ?_)
      refine wp_seq (wp_block (wp_seq ?_))
      refine (walk_seq) 6 [.quiet (.slice pl m c2), .quiet (.int .i64 ((k : Nat) : Int)), .quiet (PT ga (oa + 2 * k)), .quiet (.agg (ac (X k)).toArray), .made [Z8 0, .slice none 0 0] 45, .laid 4 [Z8 0, .slice none 0 0] (ac (X k))] (fun u' => Mm u' [(gm, [Value.slice q0.p q0.n q0.cp, Value.slice q1.p q1.n q1.cp]), (gh, [PT g0 0, PT g1 0]), (g0, hs true ((hq q0.f q0.n).s) ((hq q0.f q0.n).r) ((hq q0.f q0.n).c)), (g1, hs true ((hq q1.f q1.n).s) ((hq q1.f q1.n).r) ((hq q1.f q1.n).c)), (0, ints .u32 fT 8), (1, ints .u32 kT 64)] ∧ (q0.rs u' ∧ q1.rs u' ∧ Lc pl X m u')) ?pre8KLn0 ?F8KLn0 ?hpre8KLn0 (fun γ => ?hF8KLn0) (by kernel_rfl) ?hL8KLn0 ?hS8KLn0 ?ho8KLn0 ?he8KLn0
      case hpre8KLn0 => simp only [tk, tz]; rfl
      case hF8KLn0 => simp only [fill, Kind.val, Act.put, sa, sz, ss]; rfl
      case hL8KLn0 => exact ⟨⟨_, rfl⟩, trivial⟩
      case hS8KLn0 => exact fun w' hb => ⟨H11.out.1.below hb, ⟨(Sr.step H11.out.2 (hb)).r0, (Sr.step H11.out.2 (hb)).r1, LC.out.below (Sr.step H11.out.2 (hb)).b⟩⟩
      case ho8KLn0 =>
        refine ak (fun _ => ⟨rfl, fun _ _ => rfl⟩) ?_
        refine ak (fun _ => ⟨rfl, fun _ _ => rfl⟩) ?_
        refine ak (fun γ => ⟨rfl, fun w' _ => ex_ixP40 (j := k) E2.out rfl rfl rfl (by omega)⟩) ?_
        refine ak (fun γ => ⟨rfl, fun w' hX => ex_ld45 (j := k) hX.2.2.2 E2.out (by omega) rfl rfl⟩) ?_
        refine ak (fun γ => ⟨rfl, fun w' => ex_mk45 rfl⟩) ?_
        refine ak (fun γ => ⟨rfl, rfl, rfl, fun w' h => ex_laidT h rfl rfl Tryd.sizeOf45 rfl rfl rfl⟩) ?_
        exact trivial
      intro γ w12 l hM hl
      have M12 : Mm w12 [(γ 4, ac (X k)), (gm, [Value.slice q0.p q0.n q0.cp, Value.slice q1.p q1.n q1.cp]), (gh, [PT g0 0, PT g1 0]), (g0, hs true ((hq q0.f q0.n).s) ((hq q0.f q0.n).r) ((hq q0.f q0.n).c)), (g1, hs true ((hq q1.f q1.n).s) ((hq q1.f q1.n).r) ((hq q1.f q1.n).c)), (0, ints .u32 fT 8), (1, ints .u32 kT 64)] := H11.out.1.grow hM (Nat.le_refl _) hl [4] rfl (by decide)
      have B12 : Sr w [gh, gm, g0, g1] q0 q1 w12 := Sr.step H11.out.2 (hM.below)
      have o8_4 : Hid (w.heap.size ≤ γ 4) := Nat.le_trans H11.out.2.size (hM.fin (Nat.le_refl _) hl (i := 4) rfl).2.1
      clear hM hl l H11
      generalize γ 4 = γ8_4 at M12 o8_4 ⊢
      clear γ
      have H12 : Hid (_ ∧ _) := ⟨M12, B12⟩
      clear M12 B12
      refine rest0 rfl (then_normal (wp_seq (wp_seq ?_)))
      refine walk_seqA 4 [.quiet (PT γ8_4 1), .quiet (.slice (X k).q.p (X k).q.n (X k).q.cp), .quiet (.int .i64 (((X k).q.n : Nat) : Int)), .quiet (.bool true)] (sB H12) ?ho9KLn0 ?he9KLn0
      case ho9KLn0 => exact ak (by refine fun γ => ⟨rfl, fun w' h => ?_⟩; clear h; go_simp) (ak (fun γ => ⟨rfl, fun w' h => ex_loadC h 0 rfl rfl rfl Tryd.isAgg22 rfl⟩) (ak (by refine fun γ => ⟨rfl, fun w' h => ?_⟩; clear h; go_simp) (ak (by refine fun γ => ⟨rfl, fun w' h => ?_⟩; clear h; go_simp <;> omega) trivial)))
      intro γ w13 l hM hl
      have M13 : Mm w13 [(γ8_4, ac (X k)), (gm, [Value.slice q0.p q0.n q0.cp, Value.slice q1.p q1.n q1.cp]), (gh, [PT g0 0, PT g1 0]), (g0, hs true ((hq q0.f q0.n).s) ((hq q0.f q0.n).r) ((hq q0.f q0.n).c)), (g1, hs true ((hq q1.f q1.n).s) ((hq q1.f q1.n).r) ((hq q1.f q1.n).c)), (0, ints .u32 fT 8), (1, ints .u32 kT 64)] := H12.out.1.grow hM (Nat.le_refl _) hl [] rfl (by decide)
      have B13 : Sr w [gh, gm, g0, g1] q0 q1 w13 := Sr.step H12.out.2 (hM.below)
      clear hM hl l H12
      clear γ
      have H13 : Hid (_ ∧ _) := ⟨M13, B13⟩
      clear M13 B13
      refine rest0 rfl (then_normal (wp_cond_true rfl (wp_seq ?_)))
      refine walk_seqA 1 [.quiet (.bool true)] (sB H13) ?ho10KLn0 ?he10KLn0
      case ho10KLn0 => exact ak (fun _ => ⟨rfl, fun _ _ => rfl⟩) trivial
      intro γ w14 l hM hl
      have M14 : Mm w14 [(γ8_4, ac (X k)), (gm, [Value.slice q0.p q0.n q0.cp, Value.slice q1.p q1.n q1.cp]), (gh, [PT g0 0, PT g1 0]), (g0, hs true ((hq q0.f q0.n).s) ((hq q0.f q0.n).r) ((hq q0.f q0.n).c)), (g1, hs true ((hq q1.f q1.n).s) ((hq q1.f q1.n).r) ((hq q1.f q1.n).c)), (0, ints .u32 fT 8), (1, ints .u32 kT 64)] := H13.out.1.grow hM (Nat.le_refl _) hl [] rfl (by decide)
      have B14 : Sr w [gh, gm, g0, g1] q0 q1 w14 := Sr.step H13.out.2 (hM.below)
      clear hM hl l H13
      clear γ
      have H14 : Hid (_ ∧ _) := ⟨M14, B14⟩
      clear M14 B14
      refine rest0 rfl (then_normal (wp_ret ?_))
      repeat (first | refine then_ret ?_ | refine block_ret ?_)
      refine bodyPost_ret (v := .bool true) (by simp [results, Tryd.results5, go_sem, *]) rfl ?_
      exact ⟨rfl, H14.out.2.b⟩
    · have hrd : True := trivial
      clear hrd
      refine wp_seq (wp_seq ?_)
      refine walk_seqA 4 [.quiet (.int .i64 ((k : Nat) : Int)), .quiet (.slice pl m c2), .quiet (.int .i64 ((m : Nat) : Int)), .quiet (.bool true)] (sB H10) ?ho11K0n0 ?he11K0n0
      case ho11K0n0 => exact ak (fun _ => ⟨rfl, fun _ _ => rfl⟩) (ak (fun _ => ⟨rfl, fun _ _ => rfl⟩) (ak (by refine fun γ => ⟨rfl, fun w' h => ?_⟩; clear h; go_simp) (ak (by refine fun γ => ⟨rfl, fun w' h => ?_⟩; clear h; go_simp <;> omega) trivial)))
      intro γ w15 l hM hl
      have M15 : Mm w15 [(gm, [Value.slice q0.p q0.n q0.cp, Value.slice q1.p q1.n q1.cp]), (gh, [PT g0 0, PT g1 0]), (g0, hs true ((hq q0.f q0.n).s) ((hq q0.f q0.n).r) ((hq q0.f q0.n).c)), (g1, hs true ((hq q1.f q1.n).s) ((hq q1.f q1.n).r) ((hq q1.f q1.n).c)), (0, ints .u32 fT 8), (1, ints .u32 kT 64)] := H10.out.1.grow hM (Nat.le_refl _) hl [] rfl (by decide)
      have B15 : Sr w [gh, gm, g0, g1] q0 q1 w15 := Sr.step H10.out.2 (hM.below)
      clear hM hl l H10
      clear γ
      have H15 : Hid (_ ∧ _) := ⟨M15, B15⟩
      clear M15 B15
      refine rest0 rfl (then_normal (wp_cond_true rfl ?_))
      refine wp_skip (then_normal ?_)
      refine wp_seq (wp_block (wp_seq ?_))
      refine (walk_seq) 6 [.quiet (.slice pl m c2), .quiet (.int .i64 ((k : Nat) : Int)), .quiet (PT ga (oa + 2 * k)), .quiet (.agg (ac (X k)).toArray), .made [Z8 0, .slice none 0 0] 45, .laid 4 [Z8 0, .slice none 0 0] (ac (X k))] (fun u' => Mm u' [(gm, [Value.slice q0.p q0.n q0.cp, Value.slice q1.p q1.n q1.cp]), (gh, [PT g0 0, PT g1 0]), (g0, hs true ((hq q0.f q0.n).s) ((hq q0.f q0.n).r) ((hq q0.f q0.n).c)), (g1, hs true ((hq q1.f q1.n).s) ((hq q1.f q1.n).r) ((hq q1.f q1.n).c)), (0, ints .u32 fT 8), (1, ints .u32 kT 64)] ∧ (q0.rs u' ∧ q1.rs u' ∧ Lc pl X m u')) ?pre12K0n0 ?F12K0n0 ?hpre12K0n0 (fun γ => ?hF12K0n0) (by kernel_rfl) ?hL12K0n0 ?hS12K0n0 ?ho12K0n0 ?he12K0n0
      case hpre12K0n0 => simp only [tk, tz]; rfl
      case hF12K0n0 => simp only [fill, Kind.val, Act.put, sa, sz, ss]; rfl
      case hL12K0n0 => exact ⟨⟨_, rfl⟩, trivial⟩
      case hS12K0n0 => exact fun w' hb => ⟨H15.out.1.below hb, ⟨(Sr.step H15.out.2 (hb)).r0, (Sr.step H15.out.2 (hb)).r1, LC.out.below (Sr.step H15.out.2 (hb)).b⟩⟩
      case ho12K0n0 =>
        refine ak (fun _ => ⟨rfl, fun _ _ => rfl⟩) ?_
        refine ak (fun _ => ⟨rfl, fun _ _ => rfl⟩) ?_
        refine ak (fun γ => ⟨rfl, fun w' _ => ex_ixP40 (j := k) E2.out rfl rfl rfl (by omega)⟩) ?_
        refine ak (fun γ => ⟨rfl, fun w' hX => ex_ld45 (j := k) hX.2.2.2 E2.out (by omega) rfl rfl⟩) ?_
        refine ak (fun γ => ⟨rfl, fun w' => ex_mk45 rfl⟩) ?_
        refine ak (fun γ => ⟨rfl, rfl, rfl, fun w' h => ex_laidT h rfl rfl Tryd.sizeOf45 rfl rfl rfl⟩) ?_
        exact trivial
      intro γ w16 l hM hl
      have M16 : Mm w16 [(γ 4, ac (X k)), (gm, [Value.slice q0.p q0.n q0.cp, Value.slice q1.p q1.n q1.cp]), (gh, [PT g0 0, PT g1 0]), (g0, hs true ((hq q0.f q0.n).s) ((hq q0.f q0.n).r) ((hq q0.f q0.n).c)), (g1, hs true ((hq q1.f q1.n).s) ((hq q1.f q1.n).r) ((hq q1.f q1.n).c)), (0, ints .u32 fT 8), (1, ints .u32 kT 64)] := H15.out.1.grow hM (Nat.le_refl _) hl [4] rfl (by decide)
      have B16 : Sr w [gh, gm, g0, g1] q0 q1 w16 := Sr.step H15.out.2 (hM.below)
      have o12_4 : Hid (w.heap.size ≤ γ 4) := Nat.le_trans H15.out.2.size (hM.fin (Nat.le_refl _) hl (i := 4) rfl).2.1
      clear hM hl l H15
      generalize γ 4 = γ12_4 at M16 o12_4 ⊢
      clear γ
      have H16 : Hid (_ ∧ _) := ⟨M16, B16⟩
      clear M16 B16
      refine rest0 rfl (then_normal (wp_seq (wp_seq ?_)))
      refine walk_seqA 4 [.quiet (PT γ12_4 1), .quiet (.slice (X k).q.p (X k).q.n (X k).q.cp), .quiet (.int .i64 (((X k).q.n : Nat) : Int)), .quiet (.bool false)] (sB H16) ?ho13K0n0 ?he13K0n0
      case ho13K0n0 => exact ak (by refine fun γ => ⟨rfl, fun w' h => ?_⟩; clear h; go_simp) (ak (fun γ => ⟨rfl, fun w' h => ex_loadC h 0 rfl rfl rfl Tryd.isAgg22 rfl⟩) (ak (by refine fun γ => ⟨rfl, fun w' h => ?_⟩; clear h; go_simp) (ak (by refine fun γ => ⟨rfl, fun w' h => ?_⟩; clear h; go_simp <;> omega) trivial)))
      intro γ w17 l hM hl
      have M17 : Mm w17 [(γ12_4, ac (X k)), (gm, [Value.slice q0.p q0.n q0.cp, Value.slice q1.p q1.n q1.cp]), (gh, [PT g0 0, PT g1 0]), (g0, hs true ((hq q0.f q0.n).s) ((hq q0.f q0.n).r) ((hq q0.f q0.n).c)), (g1, hs true ((hq q1.f q1.n).s) ((hq q1.f q1.n).r) ((hq q1.f q1.n).c)), (0, ints .u32 fT 8), (1, ints .u32 kT 64)] := H16.out.1.grow hM (Nat.le_refl _) hl [] rfl (by decide)
      have B17 : Sr w [gh, gm, g0, g1] q0 q1 w17 := Sr.step H16.out.2 (hM.below)
      clear hM hl l H16
      clear γ
      have H17 : Hid (_ ∧ _) := ⟨M17, B17⟩
      clear M17 B17
      refine rest0 rfl (then_normal (wp_cond_false rfl ?_))
      refine wp_skip (then_normal ?_)
      refine wp_seq (wp_seq ?_)
      refine walk_seqA 5 [.quiet (.slice (some ⟨gh, 0, none⟩) 2 2), .quiet (.int .i64 0), .quiet (PT gh 0), .quiet (PT g0 0), .quiet (.bool false)] (sB H17) ?ho14K0n0 ?he14K0n0
      case ho14K0n0 => exact ak (fun _ => ⟨rfl, fun _ _ => rfl⟩) (ak (fun _ => ⟨rfl, fun _ _ => rfl⟩) (ak (fun γ => ⟨rfl, fun w' _ => ex_ixP43 (j := 0) (off := 0) rfl rfl rfl rfl (by decide)⟩) (ak (fun γ => ⟨rfl, fun w' h => ex_loadC h 2 rfl rfl rfl Tryd.isAgg41 rfl⟩) (ak (by refine fun γ => ⟨rfl, fun w' h => ?_⟩; clear h; go_simp) trivial))))
      intro γ w18 l hM hl
      have M18 : Mm w18 [(γ12_4, ac (X k)), (gm, [Value.slice q0.p q0.n q0.cp, Value.slice q1.p q1.n q1.cp]), (gh, [PT g0 0, PT g1 0]), (g0, hs true ((hq q0.f q0.n).s) ((hq q0.f q0.n).r) ((hq q0.f q0.n).c)), (g1, hs true ((hq q1.f q1.n).s) ((hq q1.f q1.n).r) ((hq q1.f q1.n).c)), (0, ints .u32 fT 8), (1, ints .u32 kT 64)] := H17.out.1.grow hM (Nat.le_refl _) hl [] rfl (by decide)
      have B18 : Sr w [gh, gm, g0, g1] q0 q1 w18 := Sr.step H17.out.2 (hM.below)
      clear hM hl l H17
      clear γ
      have H18 : Hid (_ ∧ _) := ⟨M18, B18⟩
      clear M18 B18
      refine rest0 rfl (then_normal (wp_cond_false rfl ?_))
      refine wp_skip (then_normal ?_)
      refine wp_seq (wp_seq ?_)
      refine walk_seqA 2 [.quiet (PT γ12_4 0), .quiet (Z8 ((X k).kd))] (sB H18) ?ho15K0n0 ?he15K0n0
      case ho15K0n0 => exact ak (by refine fun γ => ⟨rfl, fun w' h => ?_⟩; clear h; go_simp) (ak (fun γ => ⟨rfl, fun w' h => ex_loadC h 0 rfl rfl rfl Tryd.isAgg5 rfl⟩) trivial)
      intro γ w19 l hM hl
      have M19 : Mm w19 [(γ12_4, ac (X k)), (gm, [Value.slice q0.p q0.n q0.cp, Value.slice q1.p q1.n q1.cp]), (gh, [PT g0 0, PT g1 0]), (g0, hs true ((hq q0.f q0.n).s) ((hq q0.f q0.n).r) ((hq q0.f q0.n).c)), (g1, hs true ((hq q1.f q1.n).s) ((hq q1.f q1.n).r) ((hq q1.f q1.n).c)), (0, ints .u32 fT 8), (1, ints .u32 kT 64)] := H18.out.1.grow hM (Nat.le_refl _) hl [] rfl (by decide)
      have B19 : Sr w [gh, gm, g0, g1] q0 q1 w19 := Sr.step H18.out.2 (hM.below)
      clear hM hl l H18
      clear γ
      have H19 : Hid (_ ∧ _) := ⟨M19, B19⟩
      clear M19 B19
      refine rest0 rfl (then_normal (wp_block (wp_seq ?_)))
      refine walk_seqA 2 [.quiet (.bool true), .quiet (.bool true)] (sB H19) ?ho16K0n0 ?he16K0n0
      case ho16K0n0 => exact ak (fun γ => ⟨rfl, fun w' _ => ex_eq8 (b := 0) (decide_eq_true (by omega)) rfl rfl rfl⟩) (ak (fun _ => ⟨rfl, fun _ _ => rfl⟩) trivial)
      intro γ w20 l hM hl
      have M20 : Mm w20 [(γ12_4, ac (X k)), (gm, [Value.slice q0.p q0.n q0.cp, Value.slice q1.p q1.n q1.cp]), (gh, [PT g0 0, PT g1 0]), (g0, hs true ((hq q0.f q0.n).s) ((hq q0.f q0.n).r) ((hq q0.f q0.n).c)), (g1, hs true ((hq q1.f q1.n).s) ((hq q1.f q1.n).r) ((hq q1.f q1.n).c)), (0, ints .u32 fT 8), (1, ints .u32 kT 64)] := H19.out.1.grow hM (Nat.le_refl _) hl [] rfl (by decide)
      have B20 : Sr w [gh, gm, g0, g1] q0 q1 w20 := Sr.step H19.out.2 (hM.below)
      clear hM hl l H19
      clear γ
      have H20 : Hid (_ ∧ _) := ⟨M20, B20⟩
      clear M20 B20
      refine rest0 rfl (then_normal (wp_cond_true rfl (wp_seq ?_)))
      refine (walk_seq) 3 [.quiet (PT γ12_4 1), .quiet (.slice (X k).q.p (X k).q.n (X k).q.cp), .born (fun g => .slice (some ⟨g, 0, none⟩) ((X k).q.n) ((X k).q.n + 3)) (ints .u8 (lf (X k).xs) ((X k).q.n + 3))] (fun u' => Mm u' [(γ12_4, ac (X k)), (gm, [Value.slice q0.p q0.n q0.cp, Value.slice q1.p q1.n q1.cp]), (gh, [PT g0 0, PT g1 0]), (g0, hs true ((hq q0.f q0.n).s) ((hq q0.f q0.n).r) ((hq q0.f q0.n).c)), (g1, hs true ((hq q1.f q1.n).s) ((hq q1.f q1.n).r) ((hq q1.f q1.n).c)), (0, ints .u32 fT 8), (1, ints .u32 kT 64)] ∧ (q0.rs u' ∧ q1.rs u' ∧ Lc pl X m u')) ?pre17K0n0 ?F17K0n0 ?hpre17K0n0 (fun γ => ?hF17K0n0) (by kernel_rfl) ?hL17K0n0 ?hS17K0n0 ?ho17K0n0 ?he17K0n0
      case hpre17K0n0 => simp only [tk, tz]; rfl
      case hF17K0n0 => simp only [fill, Kind.val, Act.put, sa, sz, ss]; rfl
      case hL17K0n0 => exact trivial
      case hS17K0n0 => exact fun w' hb => ⟨H20.out.1.below hb, ⟨(Sr.step H20.out.2 (hb)).r0, (Sr.step H20.out.2 (hb)).r1, LC.out.below (Sr.step H20.out.2 (hb)).b⟩⟩
      case ho17K0n0 =>
        refine ak (by refine fun γ => ⟨rfl, fun w' h => ?_⟩; clear h; go_simp) ?_
        refine ak (fun γ => ⟨rfl, fun w' hX => have h := hX.1; ex_loadC h 0 rfl rfl rfl Tryd.isAgg22 rfl⟩) ?_
        refine ak (fun γ => ⟨rfl, fun w' hX => ⟨13, #[.slice (X k).q.p (X k).q.n (X k).q.cp], exec_call rfl call13 rfl (mpn rfl), lent_part (hAr.out k hlt) (by omega) w' (hX.2.2.2 ga oa E2.out k hlt).2.2.2⟩⟩) ?_
        exact trivial
      intro γ w21 l hM hl
      have M21 : Mm w21 [(γ 2, ints .u8 (lf (X k).xs) ((X k).q.n + 3)), (γ12_4, ac (X k)), (gm, [Value.slice q0.p q0.n q0.cp, Value.slice q1.p q1.n q1.cp]), (gh, [PT g0 0, PT g1 0]), (g0, hs true ((hq q0.f q0.n).s) ((hq q0.f q0.n).r) ((hq q0.f q0.n).c)), (g1, hs true ((hq q1.f q1.n).s) ((hq q1.f q1.n).r) ((hq q1.f q1.n).c)), (0, ints .u32 fT 8), (1, ints .u32 kT 64)] := H20.out.1.grow hM (Nat.le_refl _) hl [2] rfl (by decide)
      have B21 : Sr w [gh, gm, g0, g1] q0 q1 w21 := Sr.step H20.out.2 (hM.below)
      have o17_2 : Hid (w.heap.size ≤ γ 2) := Nat.le_trans H20.out.2.size (hM.fin (Nat.le_refl _) hl (i := 2) rfl).2.1
      have og17_2 : Hid ((0 < q0.n → q0.gb < γ 2) ∧ (0 < q1.n → q1.gb < γ 2)) := ⟨fun hn => Nat.lt_of_lt_of_le (H20.out.2.r0.lt hn) (hM.fin (Nat.le_refl _) hl (i := 2) rfl).2.1, fun hn => Nat.lt_of_lt_of_le (H20.out.2.r1.lt hn) (hM.fin (Nat.le_refl _) hl (i := 2) rfl).2.1⟩
      clear hM hl l H20
      generalize γ 2 = γ17_2 at M21 o17_2 og17_2 ⊢
      clear γ
      have H21 : Hid (_ ∧ _) := ⟨M21, B21⟩
      clear M21 B21
      refine rest_at (l := [3]) rfl ?_
      refine rest_set (d := 8) (v := .slice (some ⟨γ17_2, 0, none⟩) ((X k).q.n) ((X k).q.n + 3)) (w' := w21) rfl rfl rfl rfl ?_
      simp only [Act.put, sa, sz, ss]
      refine rest_nil ?_
      have H22 : Hid (Mm w21 [(γ17_2, ints .u8 (lf (X k).xs) ((X k).q.n + 3)), (γ12_4, ac (X k)), (gm, [Value.slice q0.p q0.n q0.cp, Value.slice q1.p q1.n q1.cp]), (gh, [PT g0 0, PT g1 0]), (g0, hs true ((hq q0.f q0.n).s) ((hq q0.f q0.n).r) ((hq q0.f q0.n).c)), (g1, hs true ((hq q1.f q1.n).s) ((hq q1.f q1.n).r) ((hq q1.f q1.n).c)), (0, ints .u32 fT 8), (1, ints .u32 kT 64)] ∧ Sr w [γ17_2, gh, gm, g0, g1] q0 q1 w21) := ⟨H21.out.1, H21.out.2.more og17_2.out.1 og17_2.out.2⟩
      clear  H21
      refine then_normal (wp_seq (wp_seq ?_))
      refine walk_seqA 5 [.quiet (.slice (some ⟨gh, 0, none⟩) 2 2), .quiet (.int .i64 0), .quiet (PT gh 0), .quiet (PT g0 0), .quiet (.slice (some ⟨γ17_2, 0, none⟩) ((X k).q.n) ((X k).q.n + 3))] (sB H22) ?ho18K0n0 ?he18K0n0
      case ho18K0n0 => exact ak (fun _ => ⟨rfl, fun _ _ => rfl⟩) (ak (fun _ => ⟨rfl, fun _ _ => rfl⟩) (ak (fun γ => ⟨rfl, fun w' _ => ex_ixP43 (j := 0) (off := 0) rfl rfl rfl rfl (by decide)⟩) (ak (fun γ => ⟨rfl, fun w' h => ex_loadC h 3 rfl rfl rfl Tryd.isAgg41 rfl⟩) (ak (fun _ => ⟨rfl, fun _ _ => rfl⟩) trivial))))
      intro γ w23 l hM hl
      have M23 : Mm w23 [(γ17_2, ints .u8 (lf (X k).xs) ((X k).q.n + 3)), (γ12_4, ac (X k)), (gm, [Value.slice q0.p q0.n q0.cp, Value.slice q1.p q1.n q1.cp]), (gh, [PT g0 0, PT g1 0]), (g0, hs true ((hq q0.f q0.n).s) ((hq q0.f q0.n).r) ((hq q0.f q0.n).c)), (g1, hs true ((hq q1.f q1.n).s) ((hq q1.f q1.n).r) ((hq q1.f q1.n).c)), (0, ints .u32 fT 8), (1, ints .u32 kT 64)] := H22.out.1.grow hM (Nat.le_refl _) hl [] rfl (by decide)
      have B23 : Sr w [γ17_2, gh, gm, g0, g1] q0 q1 w23 := Sr.step H22.out.2 (hM.below)
      clear hM hl l H22
      clear γ
      have H23 : Hid (_ ∧ _) := ⟨M23, B23⟩
      clear M23 B23
      refine rest_at (l := [5, 6, 7, 8, 9, 10, 11, 12, 13]) rfl ?_
      refine rest_enter (d := 47) (R := fun vv w' => vv = .int .i64 0 ∧ Mm w' [(g0, hs true ((hq (ct q0.f q0.n (lf (X k).xs)) (q0.n + (X k).q.n)).s) ((hq (ct q0.f q0.n (lf (X k).xs)) (q0.n + (X k).q.n)).r) ((hq (ct q0.f q0.n (lf (X k).xs)) (q0.n + (X k).q.n)).c))] ∧ Kp g0 w23 w') rfl rfl rfl (exec_call (args := #[PT g0 0, .slice (some ⟨γ17_2, 0, none⟩) ((X k).q.n) ((X k).q.n + 3)]) rfl call26 rfl (mpn rfl)) (Calls.mono (Write_hq g0 γ17_2 (X k).q.n ((X k).q.n + 3) q0 (lf (X k).xs) (Nat.le_add_right _ _) (by omega) w23 (H23.out.1.two 4 7 rfl rfl (by decide)) (H23.out.1.src 4 0 rfl rfl (by decide) (Nat.le_add_right _ _))) (fun e w2 hh => ⟨_, hh.1, rfl, hh.2⟩)) ?_
      rintro _ w24 ⟨rfl, hn, hp⟩
      have H24 : Hid (Mm w24 [(γ17_2, ints .u8 (lf (X k).xs) ((X k).q.n + 3)), (γ12_4, ac (X k)), (gm, [Value.slice q0.p q0.n q0.cp, Value.slice q1.p q1.n q1.cp]), (gh, [PT g0 0, PT g1 0]), (g0, hs true ((hq (ct q0.f q0.n (lf (X k).xs)) (q0.n + (X k).q.n)).s) ((hq (ct q0.f q0.n (lf (X k).xs)) (q0.n + (X k).q.n)).r) ((hq (ct q0.f q0.n (lf (X k).xs)) (q0.n + (X k).q.n)).c)), (g1, hs true ((hq q1.f q1.n).s) ((hq q1.f q1.n).r) ((hq q1.f q1.n).c)), (0, ints .u32 fT 8), (1, ints .u32 kT 64)] ∧ Sr w [γ17_2, gh, gm, g0, g1] q0 q1 w24) := ⟨H23.out.1.change 4 rfl hp hn, H23.out.2.kp hp (by simp) o_g0.out⟩
      clear hn hp H23
      simp only [Act.put, sa, sz, ss]
      refine rest_set (d := 48) (v := .bool false) (w' := w24) rfl rfl rfl (by go_simp) ?_
      simp only [Act.put, sa, sz, ss]
      refine rest_set (d := 49) (v := .bool false) (w' := w24) rfl rfl rfl rfl ?_
      simp only [Act.put, sa, sz, ss]
      refine rest_set (d := 50) (v := .slice (some ⟨γ17_2, 0, none⟩) ((X k).q.n) ((X k).q.n + 3)) (w' := w24) rfl rfl rfl rfl ?_
      simp only [Act.put, sa, sz, ss]
      refine rest_set (d := 51) (v := PT γ12_4 1) (w' := w24) rfl rfl rfl (by go_simp) ?_
      simp only [Act.put, sa, sz, ss]
      refine rest_set (d := 52) (v := .slice (X k).q.p (X k).q.n (X k).q.cp) (w' := w24) rfl rfl rfl (ex_loadC H24.out.1 1 rfl rfl rfl Tryd.isAgg22 rfl) ?_
      simp only [Act.put, sa, sz, ss]
      refine rest_enter (d := 53) (R := fun vv w' => vv = .bool true ∧ Below w24.heap.size w24 w') rfl rfl rfl (exec_call (args := #[.slice (some ⟨γ17_2, 0, none⟩) ((X k).q.n) ((X k).q.n + 3), .slice (X k).q.p (X k).q.n (X k).q.cp]) rfl call16 rfl (mpn rfl)) (Calls.mono (kept_part (hAr.out k hlt) (by omega) H24.out.1 0 rfl ((LC.out.below H24.out.2.b) ga oa E2.out k hlt).2.2.2) (fun e w2 hh => ⟨_, hh.1, rfl, hh.2⟩)) ?_
      rintro _ w25 ⟨rfl, hb⟩
      have H25 : Hid (_ ∧ _) := ⟨H24.out.1.below hb, Sr.step H24.out.2 (hb)⟩
      clear hb H24
      simp only [Act.put, sa, sz, ss]
      refine rest_set (d := 54) (v := .bool false) (w' := w25) rfl rfl rfl (by go_simp) ?_
      simp only [Act.put, sa, sz, ss]
      refine rest_set (d := 55) (v := .bool false) (w' := w25) rfl rfl rfl (by go_simp) ?_
      simp only [Act.put, sa, sz, ss]
      refine rest_nil (then_normal ?_)
      refine wp_cond_false rfl (wp_skip ?_)
      refine then_normal (wp_seq ?_)
      refine walk_seqA 1 [.quiet (.slice (some ⟨γ17_2, 0, none⟩) ((X k).q.n) ((X k).q.n + 3))] (sB H25) ?ho19K0n0 ?he19K0n0
      case ho19K0n0 => exact ak (fun _ => ⟨rfl, fun _ _ => rfl⟩) trivial
      intro γ w26 l hM hl
      have M26 : Mm w26 [(γ17_2, ints .u8 (lf (X k).xs) ((X k).q.n + 3)), (γ12_4, ac (X k)), (gm, [Value.slice q0.p q0.n q0.cp, Value.slice q1.p q1.n q1.cp]), (gh, [PT g0 0, PT g1 0]), (g0, hs true ((hq (ct q0.f q0.n (lf (X k).xs)) (q0.n + (X k).q.n)).s) ((hq (ct q0.f q0.n (lf (X k).xs)) (q0.n + (X k).q.n)).r) ((hq (ct q0.f q0.n (lf (X k).xs)) (q0.n + (X k).q.n)).c)), (g1, hs true ((hq q1.f q1.n).s) ((hq q1.f q1.n).r) ((hq q1.f q1.n).c)), (0, ints .u32 fT 8), (1, ints .u32 kT 64)] := H25.out.1.grow hM (Nat.le_refl _) hl [] rfl (by decide)
      have B26 : Sr w [γ17_2, gh, gm, g0, g1] q0 q1 w26 := Sr.step H25.out.2 (hM.below)
      clear hM hl l H25
      clear γ
      have H26 : Hid (_ ∧ _) := ⟨M26, B26⟩
      clear M26 B26
      refine rest_at (l := [1]) rfl ?_
      refine rest_enter (d := 57) (R := fun vv w' => vv = .tuple #[] ∧ Mm w' [(γ17_2, ints .u8 (mk8 (lf (X k).xs) 90) ((X k).q.n + 3))] ∧ Kp γ17_2 w26 w') rfl rfl rfl (exec_call (args := #[.slice (some ⟨γ17_2, 0, none⟩) ((X k).q.n) ((X k).q.n + 3)]) rfl call27 rfl (mpn rfl)) (Calls.mono (Over_kp γ17_2 (X k).q.n ((X k).q.n + 3) (lf (X k).xs) (by omega) w26 (H26.out.1.one 0 rfl)) (fun e w2 hh => ⟨_, hh.1, rfl, hh.2⟩)) ?_
      rintro _ w27 ⟨rfl, hn, hp⟩
      have H27 : Hid (Mm w27 [(γ17_2, ints .u8 (mk8 (lf (X k).xs) 90) ((X k).q.n + 3)), (γ12_4, ac (X k)), (gm, [Value.slice q0.p q0.n q0.cp, Value.slice q1.p q1.n q1.cp]), (gh, [PT g0 0, PT g1 0]), (g0, hs true ((hq (ct q0.f q0.n (lf (X k).xs)) (q0.n + (X k).q.n)).s) ((hq (ct q0.f q0.n (lf (X k).xs)) (q0.n + (X k).q.n)).r) ((hq (ct q0.f q0.n (lf (X k).xs)) (q0.n + (X k).q.n)).c)), (g1, hs true ((hq q1.f q1.n).s) ((hq q1.f q1.n).r) ((hq q1.f q1.n).c)), (0, ints .u32 fT 8), (1, ints .u32 kT 64)] ∧ Sr w [γ17_2, gh, gm, g0, g1] q0 q1 w27) := ⟨H26.out.1.change 0 rfl hp hn, H26.out.2.kp hp (by simp) o17_2.out⟩
      clear hn hp H26
      simp only [Act.put, sa, sz, ss]
      refine rest_nil (then_normal ?_)
      refine walk_value (by kernel_rfl) 9 [0, 1] [.quiet (.slice (some ⟨gm, 0, none⟩) 2 2), .quiet (.int .i64 0), .quiet (.slice (some ⟨gm, 0, none⟩) 2 2), .quiet (.int .i64 0), .quiet (PT gm 0), .quiet (.slice q0.p q0.n q0.cp), .ownX (fun g x y => .slice (some ⟨g, 0, none⟩) q0.n (q0.n + x)) (ints .u8 q0.f q0.n) (Eo q0.n q0.f), .quiet (PT γ12_4 1), .quiet (.slice (X k).q.p (X k).q.n (X k).q.cp)] (fun u' => Mm u' [(γ17_2, ints .u8 (mk8 (lf (X k).xs) 90) ((X k).q.n + 3)), (γ12_4, ac (X k)), (gm, [Value.slice q0.p q0.n q0.cp, Value.slice q1.p q1.n q1.cp]), (gh, [PT g0 0, PT g1 0]), (g0, hs true ((hq (ct q0.f q0.n (lf (X k).xs)) (q0.n + (X k).q.n)).s) ((hq (ct q0.f q0.n (lf (X k).xs)) (q0.n + (X k).q.n)).r) ((hq (ct q0.f q0.n (lf (X k).xs)) (q0.n + (X k).q.n)).c)), (g1, hs true ((hq q1.f q1.n).s) ((hq q1.f q1.n).r) ((hq q1.f q1.n).c)), (0, ints .u32 fT 8), (1, ints .u32 kT 64)] ∧ (q0.rs u' ∧ q1.rs u' ∧ Lc pl X m u')) ?pre20K0n0 ?F20K0n0 ?G20K0n0 _ 67 ?hpre20K0n0 (fun γ => ?hF20K0n0) (fun v γ => ?hG20K0n0) (by kernel_rfl) rfl ?hL20K0n0 ?hS20K0n0 ?ho20K0n0 (fun v => ?hla20K0n0) ?he20K0n0
      case hpre20K0n0 => simp only [tk, tz]; rfl
      case hF20K0n0 => simp only [fill, Kind.val, Act.put, sa, sz, ss]; rfl
      case hG20K0n0 => simp only [fill, Kind.val, Act.put, sa, sz, ss]; rfl
      case hL20K0n0 => exact trivial
      case hS20K0n0 => exact fun w' hb => ⟨H27.out.1.below hb, ⟨(Sr.step H27.out.2 (hb)).r0, (Sr.step H27.out.2 (hb)).r1, LC.out.below (Sr.step H27.out.2 (hb)).b⟩⟩
      case ho20K0n0 =>
        refine ak (fun _ => ⟨rfl, fun _ _ => rfl⟩) ?_
        refine ak (fun _ => ⟨rfl, fun _ _ => rfl⟩) ?_
        refine ak (fun _ => ⟨rfl, fun _ _ => rfl⟩) ?_
        refine ak (fun _ => ⟨rfl, fun _ _ => rfl⟩) ?_
        refine ak (fun γ => ⟨rfl, fun w' _ => ex_ixP29 (j := 0) (off := 0) rfl rfl rfl rfl (by decide)⟩) ?_
        refine ak (fun γ => ⟨rfl, fun w' hX => have h := hX.1; ex_loadC h 2 rfl rfl rfl Tryd.isAgg22 rfl⟩) ?_
        refine ak (fun γ => ⟨rfl, fun w' hX => ⟨28, #[.slice q0.p q0.n q0.cp], exec_call rfl call28 rfl (mpn rfl), copy_own q0 hp0.ok hp0.nn (by omega) w' hX.2.1⟩⟩) ?_
        refine ak (by refine fun γ => ⟨rfl, fun w' h => ?_⟩; clear h; go_simp) ?_
        refine ak (fun γ => ⟨rfl, fun w' hX => have h := hX.1; ex_loadC h 1 rfl rfl rfl Tryd.isAgg22 rfl⟩) ?_
        exact trivial
      case hla20K0n0 => exact ⟨⟨_, _, rfl, rfl, fun γ => ⟨rfl, fun w' => rfl⟩⟩, ⟨_, _, rfl, rfl, fun γ => ⟨rfl, fun w' => rfl⟩⟩, trivial⟩
      intro γ w28 l hM hl
      have M28 : Mm w28 [(γ 6, ints .u8 q0.f q0.n), (γ17_2, ints .u8 (mk8 (lf (X k).xs) 90) ((X k).q.n + 3)), (γ12_4, ac (X k)), (gm, [Value.slice q0.p q0.n q0.cp, Value.slice q1.p q1.n q1.cp]), (gh, [PT g0 0, PT g1 0]), (g0, hs true ((hq (ct q0.f q0.n (lf (X k).xs)) (q0.n + (X k).q.n)).s) ((hq (ct q0.f q0.n (lf (X k).xs)) (q0.n + (X k).q.n)).r) ((hq (ct q0.f q0.n (lf (X k).xs)) (q0.n + (X k).q.n)).c)), (g1, hs true ((hq q1.f q1.n).s) ((hq q1.f q1.n).r) ((hq q1.f q1.n).c)), (0, ints .u32 fT 8), (1, ints .u32 kT 64)] := H27.out.1.grow hM (Nat.le_refl _) hl [6] rfl (by decide)
      have B28 : Sr w [γ17_2, gh, gm, g0, g1] q0 q1 w28 := Sr.step H27.out.2 (hM.below)
      have o20_6 : Hid (w.heap.size ≤ γ 6) := Nat.le_trans H27.out.2.size (hM.fin (Nat.le_refl _) hl (i := 6) rfl).2.1
      have oo20_6 : Hid (∃ o, w28.heap[γ 6]? = some o ∧ (Eo q0.n q0.f) o (γ 65542)) := hM.owns 6 _ _ _ rfl (hl 6 (by decide))
      have og20_6 : Hid ((0 < q0.n → q0.gb < γ 6) ∧ (0 < q1.n → q1.gb < γ 6)) := ⟨fun hn => Nat.lt_of_lt_of_le (H27.out.2.r0.lt hn) (hM.fin (Nat.le_refl _) hl (i := 6) rfl).2.1, fun hn => Nat.lt_of_lt_of_le (H27.out.2.r1.lt hn) (hM.fin (Nat.le_refl _) hl (i := 6) rfl).2.1⟩
      clear hM hl l H27
      generalize γ 6 = γ20_6 at M28 o20_6 og20_6 oo20_6 ⊢
      generalize γ 65542 = γ20_65542 at oo20_6 ⊢
      clear γ
      have H28 : Hid (_ ∧ _) := ⟨M28, B28⟩
      clear M28 B28
      have hown := Eo.own (B := w.heap.size) oo20_6.out o20_6.out
      obtain ⟨vq, w29, hr, h2, h3, h5⟩ := own_appQ hown H28.out.2.size (hAr.out k hlt).ok (hAr.out k hlt).nn ((LC.out.below H28.out.2.b) ga oa E2.out k hlt).2.2.2.2 (by omega) 22
      refine ⟨vq, w29, ex_app rfl rfl rfl hr, ?_⟩
      obtain ⟨nq, hnv, hnok, hnN, hnn, hnf, hnr, hnb⟩ := own_part h2
      subst hnv
      have hap : 0 < nq.n → nq.gb ∉ [γ17_2, γ12_4, gm, gh, g0, g1, 0, 1] := fun hn => new_apart H28.out.1 h5 (hnb hn)
      have hkp := ((H28.out.2.more og20_6.out.1 og20_6.out.2).kp (grown_kp h3) (by simp) o20_6.out)
      have hM := H28.out.1.grown h3
      have H29 : Hid (Mm w29 [(γ17_2, ints .u8 (mk8 (lf (X k).xs) 90) ((X k).q.n + 3)), (γ12_4, ac (X k)), (gm, [Value.slice q0.p q0.n q0.cp, Value.slice q1.p q1.n q1.cp]), (gh, [PT g0 0, PT g1 0]), (g0, hs true ((hq nq.f nq.n).s) ((hq nq.f nq.n).r) ((hq nq.f nq.n).c)), (g1, hs true ((hq q1.f q1.n).s) ((hq q1.f q1.n).r) ((hq q1.f q1.n).c)), (0, ints .u32 fT 8), (1, ints .u32 kT 64)] ∧ Sr w [γ17_2, gh, gm, g0, g1] nq q1 w29) := ⟨by rw [hnf, hnn, (hAr.out k hlt).f]; exact hM, hkp.b, hnr, hkp.r1, (fun hn hm => hap hn (by simp at hm ⊢; rcases hm with hm | hm | hm | hm | hm <;> simp [hm])), fun hn hm => hkp.a1 hn (List.mem_cons_of_mem _ hm)⟩
      have NQ : Hid (Mk nq ∧ nq.n = q0.n + (X k).q.n) := ⟨⟨hnok, hnN, by rw [hnf]; exact ct_lt hp0.lt (by rw [(hAr.out k hlt).f]; exact lf_lt (hAr.out k hlt).by_)⟩, hnn⟩
      clear hown hr h2 h3 h5 hnok hnN hnf hnr hnb hap hkp hM H28
      refine rest_at (l := [10, 11]) rfl ?_
      refine rest_set (d := 68) (v := PT gm 0) (w' := w29) rfl rfl rfl (ex_ixP29 (j := 0) (off := 0) rfl rfl rfl rfl (by decide)) ?_
      simp only [Act.put, sa, sz, ss]
      refine rest_store rfl rfl rfl (ex_storeS H29.out.1 2 rfl rfl rfl rfl (show 0 < 2 by decide)) ?_
      have H30 : Hid (Mm (w29.setCells gm 0 [Value.slice nq.p nq.n nq.cp]) [(γ17_2, ints .u8 (mk8 (lf (X k).xs) 90) ((X k).q.n + 3)), (γ12_4, ac (X k)), (gm, [Value.slice nq.p nq.n nq.cp, Value.slice q1.p q1.n q1.cp]), (gh, [PT g0 0, PT g1 0]), (g0, hs true ((hq nq.f nq.n).s) ((hq nq.f nq.n).r) ((hq nq.f nq.n).c)), (g1, hs true ((hq q1.f q1.n).s) ((hq q1.f q1.n).r) ((hq q1.f q1.n).c)), (0, ints .u32 fT 8), (1, ints .u32 kT 64)] ∧ Sr w [γ17_2, gh, gm, g0, g1] nq q1 (w29.setCells gm 0 [Value.slice nq.p nq.n nq.cp])) := ⟨H29.out.1.put 2 (off := 0) (vs := [Value.slice nq.p nq.n nq.cp]) rfl (show 0 + 1 ≤ 2 by decide), H29.out.2.put (by simp) o_gm.out⟩
      clear H29
      generalize hgw : World.setCells _ _ _ _ = w30 at H30 ⊢
      clear hgw
      refine rest_nil (block_normal ?_)
      refine then_normal (wp_seq ?_)
      refine walk_anyA 18 [.quiet (.slice (some ⟨gh, 0, none⟩) 2 2), .quiet (.int .i64 0), .quiet (PT gh 0), .quiet (PT g0 0), .quiet (.bool false), .quiet (.bool false), .quiet (.slice (some ⟨gh, 0, none⟩) 2 2), .quiet (.int .i64 0), .quiet (PT gh 0), .quiet (PT g0 0), .call (.int .i64 ((nq.n : Nat) : Int)), .quiet (.slice (some ⟨gm, 0, none⟩) 2 2), .quiet (.int .i64 0), .quiet (PT gm 0), .quiet (.slice nq.p nq.n nq.cp), .quiet (.int .i64 ((nq.n : Nat) : Int)), .quiet (.bool false), .quiet (.bool false)] (sB H30) ?ho21K0n0 ?he21K0n0
      case ho21K0n0 => exact ak (fun _ => ⟨rfl, fun _ _ => rfl⟩) (ak (fun _ => ⟨rfl, fun _ _ => rfl⟩) (ak (fun γ => ⟨rfl, fun w' _ => ex_ixP43 (j := 0) (off := 0) rfl rfl rfl rfl (by decide)⟩) (ak (fun γ => ⟨rfl, fun w' h => ex_loadC h 3 rfl rfl rfl Tryd.isAgg41 rfl⟩) (ak (by refine fun γ => ⟨rfl, fun w' h => ?_⟩; clear h; go_simp) (ak (fun _ => ⟨rfl, fun _ _ => rfl⟩) (ak (fun _ => ⟨rfl, fun _ _ => rfl⟩) (ak (fun _ => ⟨rfl, fun _ _ => rfl⟩) (ak (fun γ => ⟨rfl, fun w' _ => ex_ixP43 (j := 0) (off := 0) rfl rfl rfl rfl (by decide)⟩) (ak (fun γ => ⟨rfl, fun w' h => ex_loadC h 3 rfl rfl rfl Tryd.isAgg41 rfl⟩) (ak (fun γ => ⟨rfl, fun w' h => ⟨31, #[PT g0 0], exec_call rfl call31 rfl (mpn rfl), Len_hq g0 nq (by have := NQ.out.2; omega) w' (h.one 4 rfl)⟩⟩) (ak (fun _ => ⟨rfl, fun _ _ => rfl⟩) (ak (fun _ => ⟨rfl, fun _ _ => rfl⟩) (ak (fun γ => ⟨rfl, fun w' _ => ex_ixP29 (j := 0) (off := 0) rfl rfl rfl rfl (by decide)⟩) (ak (fun γ => ⟨rfl, fun w' h => ex_loadC h 2 rfl rfl rfl Tryd.isAgg22 rfl⟩) (ak (by refine fun γ => ⟨rfl, fun w' h => ?_⟩; clear h; go_simp) (ak (by refine fun γ => ⟨rfl, fun w' h => ?_⟩; clear h; go_simp <;> omega) (ak (by refine fun γ => ⟨rfl, fun w' h => ?_⟩; clear h; go_simp) trivial)))))))))))))))))
      intro γ w31 l hM hl
      have M31 : Mm w31 [(γ17_2, ints .u8 (mk8 (lf (X k).xs) 90) ((X k).q.n + 3)), (γ12_4, ac (X k)), (gm, [Value.slice nq.p nq.n nq.cp, Value.slice q1.p q1.n q1.cp]), (gh, [PT g0 0, PT g1 0]), (g0, hs true ((hq nq.f nq.n).s) ((hq nq.f nq.n).r) ((hq nq.f nq.n).c)), (g1, hs true ((hq q1.f q1.n).s) ((hq q1.f q1.n).r) ((hq q1.f q1.n).c)), (0, ints .u32 fT 8), (1, ints .u32 kT 64)] := H30.out.1.grow hM (Nat.le_refl _) hl [] rfl (by decide)
      have B31 : Sr w [γ17_2, gh, gm, g0, g1] nq q1 w31 := Sr.step H30.out.2 (hM.below)
      clear hM hl l H30
      clear γ
      have H31 : Hid (_ ∧ _) := ⟨M31, B31⟩
      clear M31 B31
      refine rest0 rfl (then_normal (wp_cond_false rfl ?_))
      refine wp_skip (block_normal (then_normal ?_))
      refine walk_seqA 2 [.quiet (.int .i64 ((k : Nat) : Int)), .quiet (.int .i64 ((k + 1 : Nat) : Int))] (sB H31) ?ho22K0n0 ?he22K0n0
      case ho22K0n0 => exact ak (fun _ => ⟨rfl, fun _ _ => rfl⟩) (ak (by refine fun γ => ⟨rfl, fun w' h => ?_⟩; clear h; go_simp; rw [IntKind.wrap_i64]; omega) trivial)
      intro γ w32 l hM hl
      have M32 : Mm w32 [(γ17_2, ints .u8 (mk8 (lf (X k).xs) 90) ((X k).q.n + 3)), (γ12_4, ac (X k)), (gm, [Value.slice nq.p nq.n nq.cp, Value.slice q1.p q1.n q1.cp]), (gh, [PT g0 0, PT g1 0]), (g0, hs true ((hq nq.f nq.n).s) ((hq nq.f nq.n).r) ((hq nq.f nq.n).c)), (g1, hs true ((hq q1.f q1.n).s) ((hq q1.f q1.n).r) ((hq q1.f q1.n).c)), (0, ints .u32 fT 8), (1, ints .u32 kT 64)] := H31.out.1.grow hM (Nat.le_refl _) hl [] rfl (by decide)
      have B32 : Sr w [γ17_2, gh, gm, g0, g1] nq q1 w32 := Sr.step H31.out.2 (hM.below)
      clear hM hl l H31
      clear γ
      have H32 : Hid (_ ∧ _) := ⟨M32, B32⟩
      clear M32 B32
      refine rest_at (l := [2]) rfl ?_
      refine rest_set (d := 6) (v := .int .i64 ((k + 1 : Nat) : Int)) (w' := w32) rfl rfl rfl rfl ?_
      simp only [Act.put, sa, sz, ss]
      refine rest_nil (then_normal ?_)
      exact ⟨⟨k + 1, 0, g0, g1, nq, q1⟩, ⟨(slotfn [undef, undef, s0 2, undef, undef, undef, undef, PT γ12_4 0, .slice (some ⟨γ17_2, 0, none⟩) ((X k).q.n) ((X k).q.n + 3), undef, undef, undef, undef, undef, undef, undef, .int .i64 ((k : Nat) : Int), .slice pl m c2, .int .i64 ((m : Nat) : Int), .bool true, .int .i64 ((k : Nat) : Int), .int .i64 ((k + 1 : Nat) : Int), .slice pl m c2, .int .i64 ((k : Nat) : Int), PT ga (oa + 2 * k), .agg (ac (X k)).toArray, PT γ12_4 1, .slice (X k).q.p (X k).q.n (X k).q.cp, .int .i64 (((X k).q.n : Nat) : Int), .bool false, .slice (some ⟨gh, 0, none⟩) 2 2, .int .i64 0, PT gh 0, PT g0 0, .bool false, PT γ12_4 0, Z8 ((X k).kd), .bool true, .bool true, PT γ12_4 1, .slice (X k).q.p (X k).q.n (X k).q.cp, .slice (some ⟨γ17_2, 0, none⟩) ((X k).q.n) ((X k).q.n + 3), .slice (some ⟨gh, 0, none⟩) 2 2, .int .i64 0, PT gh 0, PT g0 0, .slice (some ⟨γ17_2, 0, none⟩) ((X k).q.n) ((X k).q.n + 3), .int .i64 0, .bool false, .bool false, .slice (some ⟨γ17_2, 0, none⟩) ((X k).q.n) ((X k).q.n + 3), PT γ12_4 1, .slice (X k).q.p (X k).q.n (X k).q.cp, .bool true, .bool false, .bool false, .slice (some ⟨γ17_2, 0, none⟩) ((X k).q.n) ((X k).q.n + 3), .tuple #[], .slice (some ⟨gm, 0, none⟩) 2 2, .int .i64 0, .slice (some ⟨gm, 0, none⟩) 2 2, .int .i64 0, PT gm 0, .slice q0.p q0.n q0.cp, .slice (some ⟨γ20_6, 0, none⟩) q0.n (q0.n + γ20_65542), PT γ12_4 1, .slice (X k).q.p (X k).q.n (X k).q.cp, .slice nq.p nq.n nq.cp, PT gm 0, s0 69, s0 70, s0 71, s0 72, s0 73, s0 74, s0 75, s0 76, s0 77, s0 78, s0 79, s0 80, s0 81, s0 82, s0 83, s0 84, s0 85, s0 86, s0 87, s0 88, s0 89, s0 90, s0 91, s0 92, s0 93, s0 94, s0 95, s0 96, s0 97, s0 98, s0 99, s0 100, s0 101, s0 102, s0 103, s0 104, s0 105, s0 106, .slice (some ⟨gh, 0, none⟩) 2 2, .int .i64 0, PT gh 0, PT g0 0, .bool false, .bool false, .slice (some ⟨gh, 0, none⟩) 2 2, .int .i64 0, PT gh 0, PT g0 0, .int .i64 ((nq.n : Nat) : Int), .slice (some ⟨gm, 0, none⟩) 2 2, .int .i64 0, PT gm 0, .slice nq.p nq.n nq.cp, .int .i64 ((nq.n : Nat) : Int), .bool false, .bool false]), rfl, ⟨H32.out.1.sel [2, 3, 4, 5, 6, 7] (by decide) rfl, H32.out.2.b⟩, ⟨by show k + 1 ≤ m; omega, by show 0 < 2; decide, by show nq.n ≤ 4000 * (k + 1); have := NQ.out.2; omega, by show q1.n ≤ 4000 * (k + 1); omega, NQ.out.1, hp1, o_g0.out, o_g1.out, H32.out.2.less (by simp)⟩⟩, by show m - (k + 1) < m - k; omega⟩
    · have hrd : True := trivial
      clear hrd
      refine wp_seq (wp_seq ?_)
      refine walk_seqA 4 [.quiet (.int .i64 ((k : Nat) : Int)), .quiet (.slice pl m c2), .quiet (.int .i64 ((m : Nat) : Int)), .quiet (.bool true)] (sB H10) ?ho23K1n0 ?he23K1n0
      case ho23K1n0 => exact ak (fun _ => ⟨rfl, fun _ _ => rfl⟩) (ak (fun _ => ⟨rfl, fun _ _ => rfl⟩) (ak (by refine fun γ => ⟨rfl, fun w' h => ?_⟩; clear h; go_simp) (ak (by refine fun γ => ⟨rfl, fun w' h => ?_⟩; clear h; go_simp <;> omega) trivial)))
      intro γ w33 l hM hl
      have M33 : Mm w33 [(gm, [Value.slice q0.p q0.n q0.cp, Value.slice q1.p q1.n q1.cp]), (gh, [PT g0 0, PT g1 0]), (g0, hs true ((hq q0.f q0.n).s) ((hq q0.f q0.n).r) ((hq q0.f q0.n).c)), (g1, hs true ((hq q1.f q1.n).s) ((hq q1.f q1.n).r) ((hq q1.f q1.n).c)), (0, ints .u32 fT 8), (1, ints .u32 kT 64)] := H10.out.1.grow hM (Nat.le_refl _) hl [] rfl (by decide)
      have B33 : Sr w [gh, gm, g0, g1] q0 q1 w33 := Sr.step H10.out.2 (hM.below)
      clear hM hl l H10
      clear γ
      have H33 : Hid (_ ∧ _) := ⟨M33, B33⟩
      clear M33 B33
      refine rest0 rfl (then_normal (wp_cond_true rfl ?_))
      refine wp_skip (then_normal ?_)
      refine wp_seq (wp_block (wp_seq ?_))
      refine (walk_seq) 6 [.quiet (.slice pl m c2), .quiet (.int .i64 ((k : Nat) : Int)), .quiet (PT ga (oa + 2 * k)), .quiet (.agg (ac (X k)).toArray), .made [Z8 0, .slice none 0 0] 45, .laid 4 [Z8 0, .slice none 0 0] (ac (X k))] (fun u' => Mm u' [(gm, [Value.slice q0.p q0.n q0.cp, Value.slice q1.p q1.n q1.cp]), (gh, [PT g0 0, PT g1 0]), (g0, hs true ((hq q0.f q0.n).s) ((hq q0.f q0.n).r) ((hq q0.f q0.n).c)), (g1, hs true ((hq q1.f q1.n).s) ((hq q1.f q1.n).r) ((hq q1.f q1.n).c)), (0, ints .u32 fT 8), (1, ints .u32 kT 64)] ∧ (q0.rs u' ∧ q1.rs u' ∧ Lc pl X m u')) ?pre24K1n0 ?F24K1n0 ?hpre24K1n0 (fun γ => ?hF24K1n0) (by kernel_rfl) ?hL24K1n0 ?hS24K1n0 ?ho24K1n0 ?he24K1n0
      case hpre24K1n0 => simp only [tk, tz]; rfl
      case hF24K1n0 => simp only [fill, Kind.val, Act.put, sa, sz, ss]; rfl
      case hL24K1n0 => exact ⟨⟨_, rfl⟩, trivial⟩
      case hS24K1n0 => exact fun w' hb => ⟨H33.out.1.below hb, ⟨(Sr.step H33.out.2 (hb)).r0, (Sr.step H33.out.2 (hb)).r1, LC.out.below (Sr.step H33.out.2 (hb)).b⟩⟩
      case ho24K1n0 =>
        refine ak (fun _ => ⟨rfl, fun _ _ => rfl⟩) ?_
        refine ak (fun _ => ⟨rfl, fun _ _ => rfl⟩) ?_
        refine ak (fun γ => ⟨rfl, fun w' _ => ex_ixP40 (j := k) E2.out rfl rfl rfl (by omega)⟩) ?_
        refine ak (fun γ => ⟨rfl, fun w' hX => ex_ld45 (j := k) hX.2.2.2 E2.out (by omega) rfl rfl⟩) ?_
        refine ak (fun γ => ⟨rfl, fun w' => ex_mk45 rfl⟩) ?_
        refine ak (fun γ => ⟨rfl, rfl, rfl, fun w' h => ex_laidT h rfl rfl Tryd.sizeOf45 rfl rfl rfl⟩) ?_
        exact trivial
      intro γ w34 l hM hl
      have M34 : Mm w34 [(γ 4, ac (X k)), (gm, [Value.slice q0.p q0.n q0.cp, Value.slice q1.p q1.n q1.cp]), (gh, [PT g0 0, PT g1 0]), (g0, hs true ((hq q0.f q0.n).s) ((hq q0.f q0.n).r) ((hq q0.f q0.n).c)), (g1, hs true ((hq q1.f q1.n).s) ((hq q1.f q1.n).r) ((hq q1.f q1.n).c)), (0, ints .u32 fT 8), (1, ints .u32 kT 64)] := H33.out.1.grow hM (Nat.le_refl _) hl [4] rfl (by decide)
      have B34 : Sr w [gh, gm, g0, g1] q0 q1 w34 := Sr.step H33.out.2 (hM.below)
      have o24_4 : Hid (w.heap.size ≤ γ 4) := Nat.le_trans H33.out.2.size (hM.fin (Nat.le_refl _) hl (i := 4) rfl).2.1
      clear hM hl l H33
      generalize γ 4 = γ24_4 at M34 o24_4 ⊢
      clear γ
      have H34 : Hid (_ ∧ _) := ⟨M34, B34⟩
      clear M34 B34
      refine rest0 rfl (then_normal (wp_seq (wp_seq ?_)))
      refine walk_seqA 4 [.quiet (PT γ24_4 1), .quiet (.slice (X k).q.p (X k).q.n (X k).q.cp), .quiet (.int .i64 (((X k).q.n : Nat) : Int)), .quiet (.bool false)] (sB H34) ?ho25K1n0 ?he25K1n0
      case ho25K1n0 => exact ak (by refine fun γ => ⟨rfl, fun w' h => ?_⟩; clear h; go_simp) (ak (fun γ => ⟨rfl, fun w' h => ex_loadC h 0 rfl rfl rfl Tryd.isAgg22 rfl⟩) (ak (by refine fun γ => ⟨rfl, fun w' h => ?_⟩; clear h; go_simp) (ak (by refine fun γ => ⟨rfl, fun w' h => ?_⟩; clear h; go_simp <;> omega) trivial)))
      intro γ w35 l hM hl
      have M35 : Mm w35 [(γ24_4, ac (X k)), (gm, [Value.slice q0.p q0.n q0.cp, Value.slice q1.p q1.n q1.cp]), (gh, [PT g0 0, PT g1 0]), (g0, hs true ((hq q0.f q0.n).s) ((hq q0.f q0.n).r) ((hq q0.f q0.n).c)), (g1, hs true ((hq q1.f q1.n).s) ((hq q1.f q1.n).r) ((hq q1.f q1.n).c)), (0, ints .u32 fT 8), (1, ints .u32 kT 64)] := H34.out.1.grow hM (Nat.le_refl _) hl [] rfl (by decide)
      have B35 : Sr w [gh, gm, g0, g1] q0 q1 w35 := Sr.step H34.out.2 (hM.below)
      clear hM hl l H34
      clear γ
      have H35 : Hid (_ ∧ _) := ⟨M35, B35⟩
      clear M35 B35
      refine rest0 rfl (then_normal (wp_cond_false rfl ?_))
      refine wp_skip (then_normal ?_)
      refine wp_seq (wp_seq ?_)
      refine walk_seqA 5 [.quiet (.slice (some ⟨gh, 0, none⟩) 2 2), .quiet (.int .i64 0), .quiet (PT gh 0), .quiet (PT g0 0), .quiet (.bool false)] (sB H35) ?ho26K1n0 ?he26K1n0
      case ho26K1n0 => exact ak (fun _ => ⟨rfl, fun _ _ => rfl⟩) (ak (fun _ => ⟨rfl, fun _ _ => rfl⟩) (ak (fun γ => ⟨rfl, fun w' _ => ex_ixP43 (j := 0) (off := 0) rfl rfl rfl rfl (by decide)⟩) (ak (fun γ => ⟨rfl, fun w' h => ex_loadC h 2 rfl rfl rfl Tryd.isAgg41 rfl⟩) (ak (by refine fun γ => ⟨rfl, fun w' h => ?_⟩; clear h; go_simp) trivial))))
      intro γ w36 l hM hl
      have M36 : Mm w36 [(γ24_4, ac (X k)), (gm, [Value.slice q0.p q0.n q0.cp, Value.slice q1.p q1.n q1.cp]), (gh, [PT g0 0, PT g1 0]), (g0, hs true ((hq q0.f q0.n).s) ((hq q0.f q0.n).r) ((hq q0.f q0.n).c)), (g1, hs true ((hq q1.f q1.n).s) ((hq q1.f q1.n).r) ((hq q1.f q1.n).c)), (0, ints .u32 fT 8), (1, ints .u32 kT 64)] := H35.out.1.grow hM (Nat.le_refl _) hl [] rfl (by decide)
      have B36 : Sr w [gh, gm, g0, g1] q0 q1 w36 := Sr.step H35.out.2 (hM.below)
      clear hM hl l H35
      clear γ
      have H36 : Hid (_ ∧ _) := ⟨M36, B36⟩
      clear M36 B36
      refine rest0 rfl (then_normal (wp_cond_false rfl ?_))
      refine wp_skip (then_normal ?_)
      refine wp_seq (wp_seq ?_)
      refine walk_seqA 2 [.quiet (PT γ24_4 0), .quiet (Z8 ((X k).kd))] (sB H36) ?ho27K1n0 ?he27K1n0
      case ho27K1n0 => exact ak (by refine fun γ => ⟨rfl, fun w' h => ?_⟩; clear h; go_simp) (ak (fun γ => ⟨rfl, fun w' h => ex_loadC h 0 rfl rfl rfl Tryd.isAgg5 rfl⟩) trivial)
      intro γ w37 l hM hl
      have M37 : Mm w37 [(γ24_4, ac (X k)), (gm, [Value.slice q0.p q0.n q0.cp, Value.slice q1.p q1.n q1.cp]), (gh, [PT g0 0, PT g1 0]), (g0, hs true ((hq q0.f q0.n).s) ((hq q0.f q0.n).r) ((hq q0.f q0.n).c)), (g1, hs true ((hq q1.f q1.n).s) ((hq q1.f q1.n).r) ((hq q1.f q1.n).c)), (0, ints .u32 fT 8), (1, ints .u32 kT 64)] := H36.out.1.grow hM (Nat.le_refl _) hl [] rfl (by decide)
      have B37 : Sr w [gh, gm, g0, g1] q0 q1 w37 := Sr.step H36.out.2 (hM.below)
      clear hM hl l H36
      clear γ
      have H37 : Hid (_ ∧ _) := ⟨M37, B37⟩
      clear M37 B37
      refine rest0 rfl (then_normal (wp_block (wp_seq ?_)))
      refine walk_seqA 2 [.quiet (.bool false), .quiet (.bool false)] (sB H37) ?ho28K1n0 ?he28K1n0
      case ho28K1n0 => exact ak (fun γ => ⟨rfl, fun w' _ => ex_eq8 (b := 0) (decide_eq_false (by omega)) rfl rfl rfl⟩) (ak (fun _ => ⟨rfl, fun _ _ => rfl⟩) trivial)
      intro γ w38 l hM hl
      have M38 : Mm w38 [(γ24_4, ac (X k)), (gm, [Value.slice q0.p q0.n q0.cp, Value.slice q1.p q1.n q1.cp]), (gh, [PT g0 0, PT g1 0]), (g0, hs true ((hq q0.f q0.n).s) ((hq q0.f q0.n).r) ((hq q0.f q0.n).c)), (g1, hs true ((hq q1.f q1.n).s) ((hq q1.f q1.n).r) ((hq q1.f q1.n).c)), (0, ints .u32 fT 8), (1, ints .u32 kT 64)] := H37.out.1.grow hM (Nat.le_refl _) hl [] rfl (by decide)
      have B38 : Sr w [gh, gm, g0, g1] q0 q1 w38 := Sr.step H37.out.2 (hM.below)
      clear hM hl l H37
      clear γ
      have H38 : Hid (_ ∧ _) := ⟨M38, B38⟩
      clear M38 B38
      refine rest0 rfl (then_normal (wp_cond_false rfl (wp_seq ?_)))
      refine walk_seqA 2 [.quiet (.bool true), .quiet (.bool true)] (sB H38) ?ho29K1n0 ?he29K1n0
      case ho29K1n0 => exact ak (fun γ => ⟨rfl, fun w' _ => ex_eq8 (b := 1) (decide_eq_true (by omega)) rfl rfl rfl⟩) (ak (fun _ => ⟨rfl, fun _ _ => rfl⟩) trivial)
      intro γ w39 l hM hl
      have M39 : Mm w39 [(γ24_4, ac (X k)), (gm, [Value.slice q0.p q0.n q0.cp, Value.slice q1.p q1.n q1.cp]), (gh, [PT g0 0, PT g1 0]), (g0, hs true ((hq q0.f q0.n).s) ((hq q0.f q0.n).r) ((hq q0.f q0.n).c)), (g1, hs true ((hq q1.f q1.n).s) ((hq q1.f q1.n).r) ((hq q1.f q1.n).c)), (0, ints .u32 fT 8), (1, ints .u32 kT 64)] := H38.out.1.grow hM (Nat.le_refl _) hl [] rfl (by decide)
      have B39 : Sr w [gh, gm, g0, g1] q0 q1 w39 := Sr.step H38.out.2 (hM.below)
      clear hM hl l H38
      clear γ
      have H39 : Hid (_ ∧ _) := ⟨M39, B39⟩
      clear M39 B39
      refine rest0 rfl (then_normal (wp_cond_true rfl (wp_seq ?_)))
      refine (walk_any) (by kernel_rfl) 11 [.quiet (.slice (some ⟨gh, 0, none⟩) 2 2), .quiet (.int .i64 0), .quiet (PT gh 0), .quiet (PT g0 0), .call (.agg (ints .u8 (dg0 q0.f q0.n) 32).toArray), .quiet (.slice (some ⟨gm, 0, none⟩) 2 2), .quiet (.int .i64 0), .quiet (PT gm 0), .quiet (.slice q0.p q0.n q0.cp), .call (.agg (ints .u8 (ds q0.f q0.n) 32).toArray), .quiet (.bool false)] (fun u' => Mm u' [(γ24_4, ac (X k)), (gm, [Value.slice q0.p q0.n q0.cp, Value.slice q1.p q1.n q1.cp]), (gh, [PT g0 0, PT g1 0]), (g0, hs true ((hq q0.f q0.n).s) ((hq q0.f q0.n).r) ((hq q0.f q0.n).c)), (g1, hs true ((hq q1.f q1.n).s) ((hq q1.f q1.n).r) ((hq q1.f q1.n).c)), (0, ints .u32 fT 8), (1, ints .u32 kT 64)] ∧ (q0.rs u' ∧ q1.rs u' ∧ Lc pl X m u')) ?pre30K1n0 ?F30K1n0 ?hpre30K1n0 (fun γ => ?hF30K1n0) (by kernel_rfl) ?hL30K1n0 ?hS30K1n0 ?ho30K1n0 ?he30K1n0
      case hpre30K1n0 => simp only [tk, tz]; rfl
      case hF30K1n0 => simp only [fill, Kind.val, Act.put, sa, sz, ss]; rfl
      case hL30K1n0 => exact trivial
      case hS30K1n0 => exact fun w' hb => ⟨H39.out.1.below hb, ⟨(Sr.step H39.out.2 (hb)).r0, (Sr.step H39.out.2 (hb)).r1, LC.out.below (Sr.step H39.out.2 (hb)).b⟩⟩
      case ho30K1n0 =>
        refine ak (fun _ => ⟨rfl, fun _ _ => rfl⟩) ?_
        refine ak (fun _ => ⟨rfl, fun _ _ => rfl⟩) ?_
        refine ak (fun γ => ⟨rfl, fun w' _ => ex_ixP43 (j := 0) (off := 0) rfl rfl rfl rfl (by decide)⟩) ?_
        refine ak (fun γ => ⟨rfl, fun w' hX => have h := hX.1; ex_loadC h 2 rfl rfl rfl Tryd.isAgg41 rfl⟩) ?_
        refine ak (fun γ => ⟨rfl, fun w' hX => have h := hX.1; ⟨29, #[PT g0 0], exec_call rfl call29 rfl (mpn rfl), HSum_ok g0 (hq q0.f q0.n) w' (h.two 3 6 rfl rfl (by decide))⟩⟩) ?_
        refine ak (fun _ => ⟨rfl, fun _ _ => rfl⟩) ?_
        refine ak (fun _ => ⟨rfl, fun _ _ => rfl⟩) ?_
        refine ak (fun γ => ⟨rfl, fun w' _ => ex_ixP29 (j := 0) (off := 0) rfl rfl rfl rfl (by decide)⟩) ?_
        refine ak (fun γ => ⟨rfl, fun w' hX => have h := hX.1; ex_loadC h 1 rfl rfl rfl Tryd.isAgg22 rfl⟩) ?_
        refine ak (fun γ => ⟨rfl, fun w' hX => ⟨15, #[.slice q0.p q0.n q0.cp], exec_call rfl call15 rfl (mpn rfl), dSum_any q0.f q0.n (by omega) _ w' (pt_doc hp0.ok hp0.nn hX.2.1)⟩⟩) ?_
        refine ak (fun γ => ⟨rfl, fun w' _ => ex_ne25 (all_of (dg0_ds _ hp0.lt _ (by omega))) rfl rfl rfl⟩) ?_
        exact trivial
      intro γ w40 l hM hl
      have M40 : Mm w40 [(γ24_4, ac (X k)), (gm, [Value.slice q0.p q0.n q0.cp, Value.slice q1.p q1.n q1.cp]), (gh, [PT g0 0, PT g1 0]), (g0, hs true ((hq q0.f q0.n).s) ((hq q0.f q0.n).r) ((hq q0.f q0.n).c)), (g1, hs true ((hq q1.f q1.n).s) ((hq q1.f q1.n).r) ((hq q1.f q1.n).c)), (0, ints .u32 fT 8), (1, ints .u32 kT 64)] := H39.out.1.grow hM (Nat.le_refl _) hl [] rfl (by decide)
      have B40 : Sr w [gh, gm, g0, g1] q0 q1 w40 := Sr.step H39.out.2 (hM.below)
      clear hM hl l H39
      clear γ
      have H40 : Hid (_ ∧ _) := ⟨M40, B40⟩
      clear M40 B40
      refine rest0 rfl (then_normal (wp_cond_false rfl ?_))
      refine wp_skip (block_normal ?_)
      refine then_normal (wp_seq ?_)
      refine walk_anyA 18 [.quiet (.slice (some ⟨gh, 0, none⟩) 2 2), .quiet (.int .i64 0), .quiet (PT gh 0), .quiet (PT g0 0), .quiet (.bool false), .quiet (.bool false), .quiet (.slice (some ⟨gh, 0, none⟩) 2 2), .quiet (.int .i64 0), .quiet (PT gh 0), .quiet (PT g0 0), .call (.int .i64 ((q0.n : Nat) : Int)), .quiet (.slice (some ⟨gm, 0, none⟩) 2 2), .quiet (.int .i64 0), .quiet (PT gm 0), .quiet (.slice q0.p q0.n q0.cp), .quiet (.int .i64 ((q0.n : Nat) : Int)), .quiet (.bool false), .quiet (.bool false)] (sB H40) ?ho31K1n0 ?he31K1n0
      case ho31K1n0 => exact ak (fun _ => ⟨rfl, fun _ _ => rfl⟩) (ak (fun _ => ⟨rfl, fun _ _ => rfl⟩) (ak (fun γ => ⟨rfl, fun w' _ => ex_ixP43 (j := 0) (off := 0) rfl rfl rfl rfl (by decide)⟩) (ak (fun γ => ⟨rfl, fun w' h => ex_loadC h 2 rfl rfl rfl Tryd.isAgg41 rfl⟩) (ak (by refine fun γ => ⟨rfl, fun w' h => ?_⟩; clear h; go_simp) (ak (fun _ => ⟨rfl, fun _ _ => rfl⟩) (ak (fun _ => ⟨rfl, fun _ _ => rfl⟩) (ak (fun _ => ⟨rfl, fun _ _ => rfl⟩) (ak (fun γ => ⟨rfl, fun w' _ => ex_ixP43 (j := 0) (off := 0) rfl rfl rfl rfl (by decide)⟩) (ak (fun γ => ⟨rfl, fun w' h => ex_loadC h 2 rfl rfl rfl Tryd.isAgg41 rfl⟩) (ak (fun γ => ⟨rfl, fun w' h => ⟨31, #[PT g0 0], exec_call rfl call31 rfl (mpn rfl), Len_hq g0 q0 (by omega) w' (h.one 3 rfl)⟩⟩) (ak (fun _ => ⟨rfl, fun _ _ => rfl⟩) (ak (fun _ => ⟨rfl, fun _ _ => rfl⟩) (ak (fun γ => ⟨rfl, fun w' _ => ex_ixP29 (j := 0) (off := 0) rfl rfl rfl rfl (by decide)⟩) (ak (fun γ => ⟨rfl, fun w' h => ex_loadC h 1 rfl rfl rfl Tryd.isAgg22 rfl⟩) (ak (by refine fun γ => ⟨rfl, fun w' h => ?_⟩; clear h; go_simp) (ak (by refine fun γ => ⟨rfl, fun w' h => ?_⟩; clear h; go_simp <;> omega) (ak (by refine fun γ => ⟨rfl, fun w' h => ?_⟩; clear h; go_simp) trivial)))))))))))))))))
      intro γ w41 l hM hl
      have M41 : Mm w41 [(γ24_4, ac (X k)), (gm, [Value.slice q0.p q0.n q0.cp, Value.slice q1.p q1.n q1.cp]), (gh, [PT g0 0, PT g1 0]), (g0, hs true ((hq q0.f q0.n).s) ((hq q0.f q0.n).r) ((hq q0.f q0.n).c)), (g1, hs true ((hq q1.f q1.n).s) ((hq q1.f q1.n).r) ((hq q1.f q1.n).c)), (0, ints .u32 fT 8), (1, ints .u32 kT 64)] := H40.out.1.grow hM (Nat.le_refl _) hl [] rfl (by decide)
      have B41 : Sr w [gh, gm, g0, g1] q0 q1 w41 := Sr.step H40.out.2 (hM.below)
      clear hM hl l H40
      clear γ
      have H41 : Hid (_ ∧ _) := ⟨M41, B41⟩
      clear M41 B41
      refine rest0 rfl (then_normal (wp_cond_false rfl ?_))
      refine wp_skip (block_normal (then_normal ?_))
      refine walk_seqA 2 [.quiet (.int .i64 ((k : Nat) : Int)), .quiet (.int .i64 ((k + 1 : Nat) : Int))] (sB H41) ?ho32K1n0 ?he32K1n0
      case ho32K1n0 => exact ak (fun _ => ⟨rfl, fun _ _ => rfl⟩) (ak (by refine fun γ => ⟨rfl, fun w' h => ?_⟩; clear h; go_simp; rw [IntKind.wrap_i64]; omega) trivial)
      intro γ w42 l hM hl
      have M42 : Mm w42 [(γ24_4, ac (X k)), (gm, [Value.slice q0.p q0.n q0.cp, Value.slice q1.p q1.n q1.cp]), (gh, [PT g0 0, PT g1 0]), (g0, hs true ((hq q0.f q0.n).s) ((hq q0.f q0.n).r) ((hq q0.f q0.n).c)), (g1, hs true ((hq q1.f q1.n).s) ((hq q1.f q1.n).r) ((hq q1.f q1.n).c)), (0, ints .u32 fT 8), (1, ints .u32 kT 64)] := H41.out.1.grow hM (Nat.le_refl _) hl [] rfl (by decide)
      have B42 : Sr w [gh, gm, g0, g1] q0 q1 w42 := Sr.step H41.out.2 (hM.below)
      clear hM hl l H41
      clear γ
      have H42 : Hid (_ ∧ _) := ⟨M42, B42⟩
      clear M42 B42
      refine rest_at (l := [2]) rfl ?_
      refine rest_set (d := 6) (v := .int .i64 ((k + 1 : Nat) : Int)) (w' := w42) rfl rfl rfl rfl ?_
      simp only [Act.put, sa, sz, ss]
      refine rest_nil (then_normal ?_)
      exact ⟨⟨k + 1, 0, g0, g1, q0, q1⟩, ⟨(slotfn [undef, undef, s0 2, undef, undef, undef, undef, PT γ24_4 0, s0 8, undef, undef, undef, undef, undef, undef, undef, .int .i64 ((k : Nat) : Int), .slice pl m c2, .int .i64 ((m : Nat) : Int), .bool true, .int .i64 ((k : Nat) : Int), .int .i64 ((k + 1 : Nat) : Int), .slice pl m c2, .int .i64 ((k : Nat) : Int), PT ga (oa + 2 * k), .agg (ac (X k)).toArray, PT γ24_4 1, .slice (X k).q.p (X k).q.n (X k).q.cp, .int .i64 (((X k).q.n : Nat) : Int), .bool false, .slice (some ⟨gh, 0, none⟩) 2 2, .int .i64 0, PT gh 0, PT g0 0, .bool false, PT γ24_4 0, Z8 ((X k).kd), .bool false, .bool false, s0 39, s0 40, s0 41, s0 42, s0 43, s0 44, s0 45, s0 46, s0 47, s0 48, s0 49, s0 50, s0 51, s0 52, s0 53, s0 54, s0 55, s0 56, s0 57, s0 58, s0 59, s0 60, s0 61, s0 62, s0 63, s0 64, s0 65, s0 66, s0 67, s0 68, .bool true, .bool true, .slice (some ⟨gh, 0, none⟩) 2 2, .int .i64 0, PT gh 0, PT g0 0, .agg (ints .u8 (dg0 q0.f q0.n) 32).toArray, .slice (some ⟨gm, 0, none⟩) 2 2, .int .i64 0, PT gm 0, .slice q0.p q0.n q0.cp, .agg (ints .u8 (ds q0.f q0.n) 32).toArray, .bool false, s0 82, s0 83, s0 84, s0 85, s0 86, s0 87, s0 88, s0 89, s0 90, s0 91, s0 92, s0 93, s0 94, s0 95, s0 96, s0 97, s0 98, s0 99, s0 100, s0 101, s0 102, s0 103, s0 104, s0 105, s0 106, .slice (some ⟨gh, 0, none⟩) 2 2, .int .i64 0, PT gh 0, PT g0 0, .bool false, .bool false, .slice (some ⟨gh, 0, none⟩) 2 2, .int .i64 0, PT gh 0, PT g0 0, .int .i64 ((q0.n : Nat) : Int), .slice (some ⟨gm, 0, none⟩) 2 2, .int .i64 0, PT gm 0, .slice q0.p q0.n q0.cp, .int .i64 ((q0.n : Nat) : Int), .bool false, .bool false]), rfl, ⟨H42.out.1.sel [1, 2, 3, 4, 5, 6] (by decide) rfl, H42.out.2.b⟩, ⟨by show k + 1 ≤ m; omega, by show 0 < 2; decide, by show q0.n ≤ 4000 * (k + 1); omega, by show q1.n ≤ 4000 * (k + 1); omega, hp0, hp1, o_g0.out, o_g1.out, H42.out.2.less (by simp)⟩⟩, by show m - (k + 1) < m - k; omega⟩
    · have hrd : True := trivial
      clear hrd
      refine wp_seq (wp_seq ?_)
      refine walk_seqA 4 [.quiet (.int .i64 ((k : Nat) : Int)), .quiet (.slice pl m c2), .quiet (.int .i64 ((m : Nat) : Int)), .quiet (.bool true)] (sB H10) ?ho33K2n0 ?he33K2n0
      case ho33K2n0 => exact ak (fun _ => ⟨rfl, fun _ _ => rfl⟩) (ak (fun _ => ⟨rfl, fun _ _ => rfl⟩) (ak (by refine fun γ => ⟨rfl, fun w' h => ?_⟩; clear h; go_simp) (ak (by refine fun γ => ⟨rfl, fun w' h => ?_⟩; clear h; go_simp <;> omega) trivial)))
      intro γ w43 l hM hl
      have M43 : Mm w43 [(gm, [Value.slice q0.p q0.n q0.cp, Value.slice q1.p q1.n q1.cp]), (gh, [PT g0 0, PT g1 0]), (g0, hs true ((hq q0.f q0.n).s) ((hq q0.f q0.n).r) ((hq q0.f q0.n).c)), (g1, hs true ((hq q1.f q1.n).s) ((hq q1.f q1.n).r) ((hq q1.f q1.n).c)), (0, ints .u32 fT 8), (1, ints .u32 kT 64)] := H10.out.1.grow hM (Nat.le_refl _) hl [] rfl (by decide)
      have B43 : Sr w [gh, gm, g0, g1] q0 q1 w43 := Sr.step H10.out.2 (hM.below)
      clear hM hl l H10
      clear γ
      have H43 : Hid (_ ∧ _) := ⟨M43, B43⟩
      clear M43 B43
      refine rest0 rfl (then_normal (wp_cond_true rfl ?_))
      refine wp_skip (then_normal ?_)
      refine wp_seq (wp_block (wp_seq ?_))
      refine (walk_seq) 6 [.quiet (.slice pl m c2), .quiet (.int .i64 ((k : Nat) : Int)), .quiet (PT ga (oa + 2 * k)), .quiet (.agg (ac (X k)).toArray), .made [Z8 0, .slice none 0 0] 45, .laid 4 [Z8 0, .slice none 0 0] (ac (X k))] (fun u' => Mm u' [(gm, [Value.slice q0.p q0.n q0.cp, Value.slice q1.p q1.n q1.cp]), (gh, [PT g0 0, PT g1 0]), (g0, hs true ((hq q0.f q0.n).s) ((hq q0.f q0.n).r) ((hq q0.f q0.n).c)), (g1, hs true ((hq q1.f q1.n).s) ((hq q1.f q1.n).r) ((hq q1.f q1.n).c)), (0, ints .u32 fT 8), (1, ints .u32 kT 64)] ∧ (q0.rs u' ∧ q1.rs u' ∧ Lc pl X m u')) ?pre34K2n0 ?F34K2n0 ?hpre34K2n0 (fun γ => ?hF34K2n0) (by kernel_rfl) ?hL34K2n0 ?hS34K2n0 ?ho34K2n0 ?he34K2n0
      case hpre34K2n0 => simp only [tk, tz]; rfl
      case hF34K2n0 => simp only [fill, Kind.val, Act.put, sa, sz, ss]; rfl
      case hL34K2n0 => exact ⟨⟨_, rfl⟩, trivial⟩
      case hS34K2n0 => exact fun w' hb => ⟨H43.out.1.below hb, ⟨(Sr.step H43.out.2 (hb)).r0, (Sr.step H43.out.2 (hb)).r1, LC.out.below (Sr.step H43.out.2 (hb)).b⟩⟩
      case ho34K2n0 =>
        refine ak (fun _ => ⟨rfl, fun _ _ => rfl⟩) ?_
        refine ak (fun _ => ⟨rfl, fun _ _ => rfl⟩) ?_
        refine ak (fun γ => ⟨rfl, fun w' _ => ex_ixP40 (j := k) E2.out rfl rfl rfl (by omega)⟩) ?_
        refine ak (fun γ => ⟨rfl, fun w' hX => ex_ld45 (j := k) hX.2.2.2 E2.out (by omega) rfl rfl⟩) ?_
        refine ak (fun γ => ⟨rfl, fun w' => ex_mk45 rfl⟩) ?_
        refine ak (fun γ => ⟨rfl, rfl, rfl, fun w' h => ex_laidT h rfl rfl Tryd.sizeOf45 rfl rfl rfl⟩) ?_
        exact trivial
      intro γ w44 l hM hl
      have M44 : Mm w44 [(γ 4, ac (X k)), (gm, [Value.slice q0.p q0.n q0.cp, Value.slice q1.p q1.n q1.cp]), (gh, [PT g0 0, PT g1 0]), (g0, hs true ((hq q0.f q0.n).s) ((hq q0.f q0.n).r) ((hq q0.f q0.n).c)), (g1, hs true ((hq q1.f q1.n).s) ((hq q1.f q1.n).r) ((hq q1.f q1.n).c)), (0, ints .u32 fT 8), (1, ints .u32 kT 64)] := H43.out.1.grow hM (Nat.le_refl _) hl [4] rfl (by decide)
      have B44 : Sr w [gh, gm, g0, g1] q0 q1 w44 := Sr.step H43.out.2 (hM.below)
      have o34_4 : Hid (w.heap.size ≤ γ 4) := Nat.le_trans H43.out.2.size (hM.fin (Nat.le_refl _) hl (i := 4) rfl).2.1
      clear hM hl l H43
      generalize γ 4 = γ34_4 at M44 o34_4 ⊢
      clear γ
      have H44 : Hid (_ ∧ _) := ⟨M44, B44⟩
      clear M44 B44
      refine rest0 rfl (then_normal (wp_seq (wp_seq ?_)))
      refine walk_seqA 4 [.quiet (PT γ34_4 1), .quiet (.slice (X k).q.p (X k).q.n (X k).q.cp), .quiet (.int .i64 (((X k).q.n : Nat) : Int)), .quiet (.bool false)] (sB H44) ?ho35K2n0 ?he35K2n0
      case ho35K2n0 => exact ak (by refine fun γ => ⟨rfl, fun w' h => ?_⟩; clear h; go_simp) (ak (fun γ => ⟨rfl, fun w' h => ex_loadC h 0 rfl rfl rfl Tryd.isAgg22 rfl⟩) (ak (by refine fun γ => ⟨rfl, fun w' h => ?_⟩; clear h; go_simp) (ak (by refine fun γ => ⟨rfl, fun w' h => ?_⟩; clear h; go_simp <;> omega) trivial)))
      intro γ w45 l hM hl
      have M45 : Mm w45 [(γ34_4, ac (X k)), (gm, [Value.slice q0.p q0.n q0.cp, Value.slice q1.p q1.n q1.cp]), (gh, [PT g0 0, PT g1 0]), (g0, hs true ((hq q0.f q0.n).s) ((hq q0.f q0.n).r) ((hq q0.f q0.n).c)), (g1, hs true ((hq q1.f q1.n).s) ((hq q1.f q1.n).r) ((hq q1.f q1.n).c)), (0, ints .u32 fT 8), (1, ints .u32 kT 64)] := H44.out.1.grow hM (Nat.le_refl _) hl [] rfl (by decide)
      have B45 : Sr w [gh, gm, g0, g1] q0 q1 w45 := Sr.step H44.out.2 (hM.below)
      clear hM hl l H44
      clear γ
      have H45 : Hid (_ ∧ _) := ⟨M45, B45⟩
      clear M45 B45
      refine rest0 rfl (then_normal (wp_cond_false rfl ?_))
      refine wp_skip (then_normal ?_)
      refine wp_seq (wp_seq ?_)
      refine walk_seqA 5 [.quiet (.slice (some ⟨gh, 0, none⟩) 2 2), .quiet (.int .i64 0), .quiet (PT gh 0), .quiet (PT g0 0), .quiet (.bool false)] (sB H45) ?ho36K2n0 ?he36K2n0
      case ho36K2n0 => exact ak (fun _ => ⟨rfl, fun _ _ => rfl⟩) (ak (fun _ => ⟨rfl, fun _ _ => rfl⟩) (ak (fun γ => ⟨rfl, fun w' _ => ex_ixP43 (j := 0) (off := 0) rfl rfl rfl rfl (by decide)⟩) (ak (fun γ => ⟨rfl, fun w' h => ex_loadC h 2 rfl rfl rfl Tryd.isAgg41 rfl⟩) (ak (by refine fun γ => ⟨rfl, fun w' h => ?_⟩; clear h; go_simp) trivial))))
      intro γ w46 l hM hl
      have M46 : Mm w46 [(γ34_4, ac (X k)), (gm, [Value.slice q0.p q0.n q0.cp, Value.slice q1.p q1.n q1.cp]), (gh, [PT g0 0, PT g1 0]), (g0, hs true ((hq q0.f q0.n).s) ((hq q0.f q0.n).r) ((hq q0.f q0.n).c)), (g1, hs true ((hq q1.f q1.n).s) ((hq q1.f q1.n).r) ((hq q1.f q1.n).c)), (0, ints .u32 fT 8), (1, ints .u32 kT 64)] := H45.out.1.grow hM (Nat.le_refl _) hl [] rfl (by decide)
      have B46 : Sr w [gh, gm, g0, g1] q0 q1 w46 := Sr.step H45.out.2 (hM.below)
      clear hM hl l H45
      clear γ
      have H46 : Hid (_ ∧ _) := ⟨M46, B46⟩
      clear M46 B46
      refine rest0 rfl (then_normal (wp_cond_false rfl ?_))
      refine wp_skip (then_normal ?_)
      refine wp_seq (wp_seq ?_)
      refine walk_seqA 2 [.quiet (PT γ34_4 0), .quiet (Z8 ((X k).kd))] (sB H46) ?ho37K2n0 ?he37K2n0
      case ho37K2n0 => exact ak (by refine fun γ => ⟨rfl, fun w' h => ?_⟩; clear h; go_simp) (ak (fun γ => ⟨rfl, fun w' h => ex_loadC h 0 rfl rfl rfl Tryd.isAgg5 rfl⟩) trivial)
      intro γ w47 l hM hl
      have M47 : Mm w47 [(γ34_4, ac (X k)), (gm, [Value.slice q0.p q0.n q0.cp, Value.slice q1.p q1.n q1.cp]), (gh, [PT g0 0, PT g1 0]), (g0, hs true ((hq q0.f q0.n).s) ((hq q0.f q0.n).r) ((hq q0.f q0.n).c)), (g1, hs true ((hq q1.f q1.n).s) ((hq q1.f q1.n).r) ((hq q1.f q1.n).c)), (0, ints .u32 fT 8), (1, ints .u32 kT 64)] := H46.out.1.grow hM (Nat.le_refl _) hl [] rfl (by decide)
      have B47 : Sr w [gh, gm, g0, g1] q0 q1 w47 := Sr.step H46.out.2 (hM.below)
      clear hM hl l H46
      clear γ
      have H47 : Hid (_ ∧ _) := ⟨M47, B47⟩
      clear M47 B47
      refine rest0 rfl (then_normal (wp_block (wp_seq ?_)))
      refine walk_seqA 2 [.quiet (.bool false), .quiet (.bool false)] (sB H47) ?ho38K2n0 ?he38K2n0
      case ho38K2n0 => exact ak (fun γ => ⟨rfl, fun w' _ => ex_eq8 (b := 0) (decide_eq_false (by omega)) rfl rfl rfl⟩) (ak (fun _ => ⟨rfl, fun _ _ => rfl⟩) trivial)
      intro γ w48 l hM hl
      have M48 : Mm w48 [(γ34_4, ac (X k)), (gm, [Value.slice q0.p q0.n q0.cp, Value.slice q1.p q1.n q1.cp]), (gh, [PT g0 0, PT g1 0]), (g0, hs true ((hq q0.f q0.n).s) ((hq q0.f q0.n).r) ((hq q0.f q0.n).c)), (g1, hs true ((hq q1.f q1.n).s) ((hq q1.f q1.n).r) ((hq q1.f q1.n).c)), (0, ints .u32 fT 8), (1, ints .u32 kT 64)] := H47.out.1.grow hM (Nat.le_refl _) hl [] rfl (by decide)
      have B48 : Sr w [gh, gm, g0, g1] q0 q1 w48 := Sr.step H47.out.2 (hM.below)
      clear hM hl l H47
      clear γ
      have H48 : Hid (_ ∧ _) := ⟨M48, B48⟩
      clear M48 B48
      refine rest0 rfl (then_normal (wp_cond_false rfl (wp_seq ?_)))
      refine walk_seqA 2 [.quiet (.bool false), .quiet (.bool false)] (sB H48) ?ho39K2n0 ?he39K2n0
      case ho39K2n0 => exact ak (fun γ => ⟨rfl, fun w' _ => ex_eq8 (b := 1) (decide_eq_false (by omega)) rfl rfl rfl⟩) (ak (fun _ => ⟨rfl, fun _ _ => rfl⟩) trivial)
      intro γ w49 l hM hl
      have M49 : Mm w49 [(γ34_4, ac (X k)), (gm, [Value.slice q0.p q0.n q0.cp, Value.slice q1.p q1.n q1.cp]), (gh, [PT g0 0, PT g1 0]), (g0, hs true ((hq q0.f q0.n).s) ((hq q0.f q0.n).r) ((hq q0.f q0.n).c)), (g1, hs true ((hq q1.f q1.n).s) ((hq q1.f q1.n).r) ((hq q1.f q1.n).c)), (0, ints .u32 fT 8), (1, ints .u32 kT 64)] := H48.out.1.grow hM (Nat.le_refl _) hl [] rfl (by decide)
      have B49 : Sr w [gh, gm, g0, g1] q0 q1 w49 := Sr.step H48.out.2 (hM.below)
      clear hM hl l H48
      clear γ
      have H49 : Hid (_ ∧ _) := ⟨M49, B49⟩
      clear M49 B49
      refine rest0 rfl (then_normal (wp_cond_false rfl (wp_seq ?_)))
      refine walk_seqA 2 [.quiet (.bool true), .quiet (.bool true)] (sB H49) ?ho40K2n0 ?he40K2n0
      case ho40K2n0 => exact ak (fun γ => ⟨rfl, fun w' _ => ex_eq8 (b := 2) (decide_eq_true (by omega)) rfl rfl rfl⟩) (ak (fun _ => ⟨rfl, fun _ _ => rfl⟩) trivial)
      intro γ w50 l hM hl
      have M50 : Mm w50 [(γ34_4, ac (X k)), (gm, [Value.slice q0.p q0.n q0.cp, Value.slice q1.p q1.n q1.cp]), (gh, [PT g0 0, PT g1 0]), (g0, hs true ((hq q0.f q0.n).s) ((hq q0.f q0.n).r) ((hq q0.f q0.n).c)), (g1, hs true ((hq q1.f q1.n).s) ((hq q1.f q1.n).r) ((hq q1.f q1.n).c)), (0, ints .u32 fT 8), (1, ints .u32 kT 64)] := H49.out.1.grow hM (Nat.le_refl _) hl [] rfl (by decide)
      have B50 : Sr w [gh, gm, g0, g1] q0 q1 w50 := Sr.step H49.out.2 (hM.below)
      clear hM hl l H49
      clear γ
      have H50 : Hid (_ ∧ _) := ⟨M50, B50⟩
      clear M50 B50
      refine rest0 rfl (then_normal (wp_cond_true rfl (wp_seq ?_)))
      refine walk_seqA 9 [.quiet (.slice (some ⟨gh, 0, none⟩) 2 2), .quiet (.int .i64 0), .quiet (.int .i64 1), .quiet (.slice (some ⟨gh, 0, none⟩) 2 2), .quiet (.int .i64 0), .quiet (PT gh 0), .quiet (PT g0 0), .born (fun g => PT g 0) (hs true ((hq q0.f q0.n).s) ((hq q0.f q0.n).r) ((hq q0.f q0.n).c)), .quiet (PT gh 1)] (sB H50) ?ho41K2n0 ?he41K2n0
      case ho41K2n0 => exact ak (fun _ => ⟨rfl, fun _ _ => rfl⟩) (ak (fun _ => ⟨rfl, fun _ _ => rfl⟩) (ak (by refine fun γ => ⟨rfl, fun w' h => ?_⟩; clear h; go_simp; rw [IntKind.wrap_i64]; omega) (ak (fun _ => ⟨rfl, fun _ _ => rfl⟩) (ak (fun _ => ⟨rfl, fun _ _ => rfl⟩) (ak (fun γ => ⟨rfl, fun w' _ => ex_ixP43 (j := 0) (off := 0) rfl rfl rfl rfl (by decide)⟩) (ak (fun γ => ⟨rfl, fun w' h => ex_loadC h 2 rfl rfl rfl Tryd.isAgg41 rfl⟩) (ak (fun γ => ⟨rfl, fun w' h => ⟨30, #[PT g0 0], exec_call rfl call30 rfl (mpn rfl), Clone_ok g0 (hq q0.f q0.n) w' (h.one 3 rfl)⟩⟩) (ak (fun γ => ⟨rfl, fun w' _ => ex_ixP43 (j := 1) (off := 0) rfl rfl rfl rfl (by decide)⟩) trivial))))))))
      intro γ w51 l hM hl
      have M51 : Mm w51 [(γ 7, hs true ((hq q0.f q0.n).s) ((hq q0.f q0.n).r) ((hq q0.f q0.n).c)), (γ34_4, ac (X k)), (gm, [Value.slice q0.p q0.n q0.cp, Value.slice q1.p q1.n q1.cp]), (gh, [PT g0 0, PT g1 0]), (g0, hs true ((hq q0.f q0.n).s) ((hq q0.f q0.n).r) ((hq q0.f q0.n).c)), (g1, hs true ((hq q1.f q1.n).s) ((hq q1.f q1.n).r) ((hq q1.f q1.n).c)), (0, ints .u32 fT 8), (1, ints .u32 kT 64)] := H50.out.1.grow hM (Nat.le_refl _) hl [7] rfl (by decide)
      have B51 : Sr w [gh, gm, g0, g1] q0 q1 w51 := Sr.step H50.out.2 (hM.below)
      have o41_7 : Hid (w.heap.size ≤ γ 7) := Nat.le_trans H50.out.2.size (hM.fin (Nat.le_refl _) hl (i := 7) rfl).2.1
      have og41_7 : Hid ((0 < q0.n → q0.gb < γ 7) ∧ (0 < q1.n → q1.gb < γ 7)) := ⟨fun hn => Nat.lt_of_lt_of_le (H50.out.2.r0.lt hn) (hM.fin (Nat.le_refl _) hl (i := 7) rfl).2.1, fun hn => Nat.lt_of_lt_of_le (H50.out.2.r1.lt hn) (hM.fin (Nat.le_refl _) hl (i := 7) rfl).2.1⟩
      clear hM hl l H50
      generalize γ 7 = γ41_7 at M51 o41_7 og41_7 ⊢
      clear γ
      have H51 : Hid (_ ∧ _) := ⟨M51, B51⟩
      clear M51 B51
      refine rest_at (l := [9]) rfl ?_
      refine rest_store rfl rfl rfl (ex_storeP H51.out.1 3 rfl rfl rfl rfl (show 1 < 2 by decide)) ?_
      have H52 : Hid (Mm (w51.setCells gh 1 [PT γ41_7 0]) [(γ41_7, hs true ((hq q0.f q0.n).s) ((hq q0.f q0.n).r) ((hq q0.f q0.n).c)), (γ34_4, ac (X k)), (gm, [Value.slice q0.p q0.n q0.cp, Value.slice q1.p q1.n q1.cp]), (gh, [PT g0 0, PT γ41_7 0]), (g0, hs true ((hq q0.f q0.n).s) ((hq q0.f q0.n).r) ((hq q0.f q0.n).c)), (g1, hs true ((hq q1.f q1.n).s) ((hq q1.f q1.n).r) ((hq q1.f q1.n).c)), (0, ints .u32 fT 8), (1, ints .u32 kT 64)] ∧ Sr w [gh, gm, g0, g1] q0 q1 (w51.setCells gh 1 [PT γ41_7 0])) := ⟨H51.out.1.put 3 (off := 1) (vs := [PT γ41_7 0]) rfl (show 1 + 1 ≤ 2 by decide), H51.out.2.put (by simp) o_gh.out⟩
      clear H51
      generalize hgw : World.setCells _ _ _ _ = w52 at H52 ⊢
      clear hgw
      refine rest_nil (then_normal (wp_seq ?_))
      refine walk_seqA 8 [.quiet (.slice (some ⟨gm, 0, none⟩) 2 2), .quiet (.int .i64 0), .quiet (.int .i64 1), .quiet (.slice (some ⟨gm, 0, none⟩) 2 2), .quiet (.int .i64 0), .quiet (PT gm 0), .quiet (.slice q0.p q0.n q0.cp), .quiet (PT gm 1)] (sB H52) ?ho42K2n0 ?he42K2n0
      case ho42K2n0 => exact ak (fun _ => ⟨rfl, fun _ _ => rfl⟩) (ak (fun _ => ⟨rfl, fun _ _ => rfl⟩) (ak (by refine fun γ => ⟨rfl, fun w' h => ?_⟩; clear h; go_simp; rw [IntKind.wrap_i64]; omega) (ak (fun _ => ⟨rfl, fun _ _ => rfl⟩) (ak (fun _ => ⟨rfl, fun _ _ => rfl⟩) (ak (fun γ => ⟨rfl, fun w' _ => ex_ixP29 (j := 0) (off := 0) rfl rfl rfl rfl (by decide)⟩) (ak (fun γ => ⟨rfl, fun w' h => ex_loadC h 2 rfl rfl rfl Tryd.isAgg22 rfl⟩) (ak (fun γ => ⟨rfl, fun w' _ => ex_ixP29 (j := 1) (off := 0) rfl rfl rfl rfl (by decide)⟩) trivial)))))))
      intro γ w53 l hM hl
      have M53 : Mm w53 [(γ41_7, hs true ((hq q0.f q0.n).s) ((hq q0.f q0.n).r) ((hq q0.f q0.n).c)), (γ34_4, ac (X k)), (gm, [Value.slice q0.p q0.n q0.cp, Value.slice q1.p q1.n q1.cp]), (gh, [PT g0 0, PT γ41_7 0]), (g0, hs true ((hq q0.f q0.n).s) ((hq q0.f q0.n).r) ((hq q0.f q0.n).c)), (g1, hs true ((hq q1.f q1.n).s) ((hq q1.f q1.n).r) ((hq q1.f q1.n).c)), (0, ints .u32 fT 8), (1, ints .u32 kT 64)] := H52.out.1.grow hM (Nat.le_refl _) hl [] rfl (by decide)
      have B53 : Sr w [gh, gm, g0, g1] q0 q1 w53 := Sr.step H52.out.2 (hM.below)
      clear hM hl l H52
      clear γ
      have H53 : Hid (_ ∧ _) := ⟨M53, B53⟩
      clear M53 B53
      refine rest_at (l := [8]) rfl ?_
      refine rest_store rfl rfl rfl (ex_storeS H53.out.1 2 rfl rfl rfl rfl (show 1 < 2 by decide)) ?_
      have H54 : Hid (Mm (w53.setCells gm 1 [Value.slice q0.p q0.n q0.cp]) [(γ41_7, hs true ((hq q0.f q0.n).s) ((hq q0.f q0.n).r) ((hq q0.f q0.n).c)), (γ34_4, ac (X k)), (gm, [Value.slice q0.p q0.n q0.cp, Value.slice q0.p q0.n q0.cp]), (gh, [PT g0 0, PT γ41_7 0]), (g0, hs true ((hq q0.f q0.n).s) ((hq q0.f q0.n).r) ((hq q0.f q0.n).c)), (g1, hs true ((hq q1.f q1.n).s) ((hq q1.f q1.n).r) ((hq q1.f q1.n).c)), (0, ints .u32 fT 8), (1, ints .u32 kT 64)] ∧ Sr w [gh, gm, g0, g1] q0 q1 (w53.setCells gm 1 [Value.slice q0.p q0.n q0.cp])) := ⟨H53.out.1.put 2 (off := 1) (vs := [Value.slice q0.p q0.n q0.cp]) rfl (show 1 + 1 ≤ 2 by decide), H53.out.2.put (by simp) o_gm.out⟩
      clear H53
      generalize hgw : World.setCells _ _ _ _ = w54 at H54 ⊢
      clear hgw
      refine rest_nil (then_normal ?_)
      refine walk_seqA 2 [.quiet (.int .i64 0), .quiet (.int .i64 1)] (sB H54) ?ho43K2n0 ?he43K2n0
      case ho43K2n0 => exact ak (fun _ => ⟨rfl, fun _ _ => rfl⟩) (ak (by refine fun γ => ⟨rfl, fun w' h => ?_⟩; clear h; go_simp; rw [IntKind.wrap_i64]; omega) trivial)
      intro γ w55 l hM hl
      have M55 : Mm w55 [(γ41_7, hs true ((hq q0.f q0.n).s) ((hq q0.f q0.n).r) ((hq q0.f q0.n).c)), (γ34_4, ac (X k)), (gm, [Value.slice q0.p q0.n q0.cp, Value.slice q0.p q0.n q0.cp]), (gh, [PT g0 0, PT γ41_7 0]), (g0, hs true ((hq q0.f q0.n).s) ((hq q0.f q0.n).r) ((hq q0.f q0.n).c)), (g1, hs true ((hq q1.f q1.n).s) ((hq q1.f q1.n).r) ((hq q1.f q1.n).c)), (0, ints .u32 fT 8), (1, ints .u32 kT 64)] := H54.out.1.grow hM (Nat.le_refl _) hl [] rfl (by decide)
      have B55 : Sr w [gh, gm, g0, g1] q0 q1 w55 := Sr.step H54.out.2 (hM.below)
      clear hM hl l H54
      clear γ
      have H55 : Hid (_ ∧ _) := ⟨M55, B55⟩
      clear M55 B55
      refine rest_at (l := [2]) rfl ?_
      refine rest_set (d := 5) (v := .int .i64 1) (w' := w55) rfl rfl rfl rfl ?_
      simp only [Act.put, sa, sz, ss]
      refine rest_nil (block_normal ?_)
      refine then_normal (wp_seq ?_)
      refine walk_anyA 18 [.quiet (.slice (some ⟨gh, 0, none⟩) 2 2), .quiet (.int .i64 1), .quiet (PT gh 1), .quiet (PT γ41_7 0), .quiet (.bool false), .quiet (.bool false), .quiet (.slice (some ⟨gh, 0, none⟩) 2 2), .quiet (.int .i64 1), .quiet (PT gh 1), .quiet (PT γ41_7 0), .call (.int .i64 ((q0.n : Nat) : Int)), .quiet (.slice (some ⟨gm, 0, none⟩) 2 2), .quiet (.int .i64 1), .quiet (PT gm 1), .quiet (.slice q0.p q0.n q0.cp), .quiet (.int .i64 ((q0.n : Nat) : Int)), .quiet (.bool false), .quiet (.bool false)] (sB H55) ?ho44K2n0 ?he44K2n0
      case ho44K2n0 => exact ak (fun _ => ⟨rfl, fun _ _ => rfl⟩) (ak (fun _ => ⟨rfl, fun _ _ => rfl⟩) (ak (fun γ => ⟨rfl, fun w' _ => ex_ixP43 (j := 1) (off := 0) rfl rfl rfl rfl (by decide)⟩) (ak (fun γ => ⟨rfl, fun w' h => ex_loadC h 3 rfl rfl rfl Tryd.isAgg41 rfl⟩) (ak (by refine fun γ => ⟨rfl, fun w' h => ?_⟩; clear h; go_simp) (ak (fun _ => ⟨rfl, fun _ _ => rfl⟩) (ak (fun _ => ⟨rfl, fun _ _ => rfl⟩) (ak (fun _ => ⟨rfl, fun _ _ => rfl⟩) (ak (fun γ => ⟨rfl, fun w' _ => ex_ixP43 (j := 1) (off := 0) rfl rfl rfl rfl (by decide)⟩) (ak (fun γ => ⟨rfl, fun w' h => ex_loadC h 3 rfl rfl rfl Tryd.isAgg41 rfl⟩) (ak (fun γ => ⟨rfl, fun w' h => ⟨31, #[PT γ41_7 0], exec_call rfl call31 rfl (mpn rfl), Len_hq γ41_7 q0 (by omega) w' (h.one 0 rfl)⟩⟩) (ak (fun _ => ⟨rfl, fun _ _ => rfl⟩) (ak (fun _ => ⟨rfl, fun _ _ => rfl⟩) (ak (fun γ => ⟨rfl, fun w' _ => ex_ixP29 (j := 1) (off := 0) rfl rfl rfl rfl (by decide)⟩) (ak (fun γ => ⟨rfl, fun w' h => ex_loadC h 2 rfl rfl rfl Tryd.isAgg22 rfl⟩) (ak (by refine fun γ => ⟨rfl, fun w' h => ?_⟩; clear h; go_simp) (ak (by refine fun γ => ⟨rfl, fun w' h => ?_⟩; clear h; go_simp <;> omega) (ak (by refine fun γ => ⟨rfl, fun w' h => ?_⟩; clear h; go_simp) trivial)))))))))))))))))
      intro γ w56 l hM hl
      have M56 : Mm w56 [(γ41_7, hs true ((hq q0.f q0.n).s) ((hq q0.f q0.n).r) ((hq q0.f q0.n).c)), (γ34_4, ac (X k)), (gm, [Value.slice q0.p q0.n q0.cp, Value.slice q0.p q0.n q0.cp]), (gh, [PT g0 0, PT γ41_7 0]), (g0, hs true ((hq q0.f q0.n).s) ((hq q0.f q0.n).r) ((hq q0.f q0.n).c)), (g1, hs true ((hq q1.f q1.n).s) ((hq q1.f q1.n).r) ((hq q1.f q1.n).c)), (0, ints .u32 fT 8), (1, ints .u32 kT 64)] := H55.out.1.grow hM (Nat.le_refl _) hl [] rfl (by decide)
      have B56 : Sr w [gh, gm, g0, g1] q0 q1 w56 := Sr.step H55.out.2 (hM.below)
      clear hM hl l H55
      clear γ
      have H56 : Hid (_ ∧ _) := ⟨M56, B56⟩
      clear M56 B56
      refine rest0 rfl (then_normal (wp_cond_false rfl ?_))
      refine wp_skip (block_normal (then_normal ?_))
      refine walk_seqA 2 [.quiet (.int .i64 ((k : Nat) : Int)), .quiet (.int .i64 ((k + 1 : Nat) : Int))] (sB H56) ?ho45K2n0 ?he45K2n0
      case ho45K2n0 => exact ak (fun _ => ⟨rfl, fun _ _ => rfl⟩) (ak (by refine fun γ => ⟨rfl, fun w' h => ?_⟩; clear h; go_simp; rw [IntKind.wrap_i64]; omega) trivial)
      intro γ w57 l hM hl
      have M57 : Mm w57 [(γ41_7, hs true ((hq q0.f q0.n).s) ((hq q0.f q0.n).r) ((hq q0.f q0.n).c)), (γ34_4, ac (X k)), (gm, [Value.slice q0.p q0.n q0.cp, Value.slice q0.p q0.n q0.cp]), (gh, [PT g0 0, PT γ41_7 0]), (g0, hs true ((hq q0.f q0.n).s) ((hq q0.f q0.n).r) ((hq q0.f q0.n).c)), (g1, hs true ((hq q1.f q1.n).s) ((hq q1.f q1.n).r) ((hq q1.f q1.n).c)), (0, ints .u32 fT 8), (1, ints .u32 kT 64)] := H56.out.1.grow hM (Nat.le_refl _) hl [] rfl (by decide)
      have B57 : Sr w [gh, gm, g0, g1] q0 q1 w57 := Sr.step H56.out.2 (hM.below)
      clear hM hl l H56
      clear γ
      have H57 : Hid (_ ∧ _) := ⟨M57, B57⟩
      clear M57 B57
      refine rest_at (l := [2]) rfl ?_
      refine rest_set (d := 6) (v := .int .i64 ((k + 1 : Nat) : Int)) (w' := w57) rfl rfl rfl rfl ?_
      simp only [Act.put, sa, sz, ss]
      refine rest_nil (then_normal ?_)
      exact ⟨⟨k + 1, 1, g0, γ41_7, q0, q0⟩, ⟨(slotfn [undef, undef, s0 2, undef, undef, undef, undef, PT γ34_4 0, s0 8, undef, undef, undef, undef, undef, undef, undef, .int .i64 ((k : Nat) : Int), .slice pl m c2, .int .i64 ((m : Nat) : Int), .bool true, .int .i64 ((k : Nat) : Int), .int .i64 ((k + 1 : Nat) : Int), .slice pl m c2, .int .i64 ((k : Nat) : Int), PT ga (oa + 2 * k), .agg (ac (X k)).toArray, PT γ34_4 1, .slice (X k).q.p (X k).q.n (X k).q.cp, .int .i64 (((X k).q.n : Nat) : Int), .bool false, .slice (some ⟨gh, 0, none⟩) 2 2, .int .i64 0, PT gh 0, PT g0 0, .bool false, PT γ34_4 0, Z8 ((X k).kd), .bool false, .bool false, s0 39, s0 40, s0 41, s0 42, s0 43, s0 44, s0 45, s0 46, s0 47, s0 48, s0 49, s0 50, s0 51, s0 52, s0 53, s0 54, s0 55, s0 56, s0 57, s0 58, s0 59, s0 60, s0 61, s0 62, s0 63, s0 64, s0 65, s0 66, s0 67, s0 68, .bool false, .bool false, s0 71, s0 72, s0 73, s0 74, s0 75, s0 76, s0 77, s0 78, s0 79, s0 80, s0 81, .bool true, .bool true, .slice (some ⟨gh, 0, none⟩) 2 2, .int .i64 0, .int .i64 1, .slice (some ⟨gh, 0, none⟩) 2 2, .int .i64 0, PT gh 0, PT g0 0, PT γ41_7 0, PT gh 1, .slice (some ⟨gm, 0, none⟩) 2 2, .int .i64 0, .int .i64 1, .slice (some ⟨gm, 0, none⟩) 2 2, .int .i64 0, PT gm 0, .slice q0.p q0.n q0.cp, PT gm 1, .int .i64 0, .int .i64 1, s0 103, s0 104, s0 105, s0 106, .slice (some ⟨gh, 0, none⟩) 2 2, .int .i64 1, PT gh 1, PT γ41_7 0, .bool false, .bool false, .slice (some ⟨gh, 0, none⟩) 2 2, .int .i64 1, PT gh 1, PT γ41_7 0, .int .i64 ((q0.n : Nat) : Int), .slice (some ⟨gm, 0, none⟩) 2 2, .int .i64 1, PT gm 1, .slice q0.p q0.n q0.cp, .int .i64 ((q0.n : Nat) : Int), .bool false, .bool false]), rfl, ⟨H57.out.1.sel [2, 3, 4, 0, 6, 7] (by decide) rfl, H57.out.2.b⟩, ⟨by show k + 1 ≤ m; omega, by show 1 < 2; decide, by show q0.n ≤ 4000 * (k + 1); omega, by show q0.n ≤ 4000 * (k + 1); omega, hp0, hp0, o_g0.out, o41_7.out, ((H57.out.2.more og41_7.out.1 og41_7.out.2).both0).less (by simp)⟩⟩, by show m - (k + 1) < m - k; omega⟩
    · have hrd : True := trivial
      clear hrd
      refine wp_seq (wp_seq ?_)
      refine walk_seqA 4 [.quiet (.int .i64 ((k : Nat) : Int)), .quiet (.slice pl m c2), .quiet (.int .i64 ((m : Nat) : Int)), .quiet (.bool true)] (sB H10) ?ho46K3n0 ?he46K3n0
      case ho46K3n0 => exact ak (fun _ => ⟨rfl, fun _ _ => rfl⟩) (ak (fun _ => ⟨rfl, fun _ _ => rfl⟩) (ak (by refine fun γ => ⟨rfl, fun w' h => ?_⟩; clear h; go_simp) (ak (by refine fun γ => ⟨rfl, fun w' h => ?_⟩; clear h; go_simp <;> omega) trivial)))
      intro γ w58 l hM hl
      have M58 : Mm w58 [(gm, [Value.slice q0.p q0.n q0.cp, Value.slice q1.p q1.n q1.cp]), (gh, [PT g0 0, PT g1 0]), (g0, hs true ((hq q0.f q0.n).s) ((hq q0.f q0.n).r) ((hq q0.f q0.n).c)), (g1, hs true ((hq q1.f q1.n).s) ((hq q1.f q1.n).r) ((hq q1.f q1.n).c)), (0, ints .u32 fT 8), (1, ints .u32 kT 64)] := H10.out.1.grow hM (Nat.le_refl _) hl [] rfl (by decide)
      have B58 : Sr w [gh, gm, g0, g1] q0 q1 w58 := Sr.step H10.out.2 (hM.below)
      clear hM hl l H10
      clear γ
      have H58 : Hid (_ ∧ _) := ⟨M58, B58⟩
      clear M58 B58
      refine rest0 rfl (then_normal (wp_cond_true rfl ?_))
      refine wp_skip (then_normal ?_)
      refine wp_seq (wp_block (wp_seq ?_))
      refine (walk_seq) 6 [.quiet (.slice pl m c2), .quiet (.int .i64 ((k : Nat) : Int)), .quiet (PT ga (oa + 2 * k)), .quiet (.agg (ac (X k)).toArray), .made [Z8 0, .slice none 0 0] 45, .laid 4 [Z8 0, .slice none 0 0] (ac (X k))] (fun u' => Mm u' [(gm, [Value.slice q0.p q0.n q0.cp, Value.slice q1.p q1.n q1.cp]), (gh, [PT g0 0, PT g1 0]), (g0, hs true ((hq q0.f q0.n).s) ((hq q0.f q0.n).r) ((hq q0.f q0.n).c)), (g1, hs true ((hq q1.f q1.n).s) ((hq q1.f q1.n).r) ((hq q1.f q1.n).c)), (0, ints .u32 fT 8), (1, ints .u32 kT 64)] ∧ (q0.rs u' ∧ q1.rs u' ∧ Lc pl X m u')) ?pre47K3n0 ?F47K3n0 ?hpre47K3n0 (fun γ => ?hF47K3n0) (by kernel_rfl) ?hL47K3n0 ?hS47K3n0 ?ho47K3n0 ?he47K3n0
      case hpre47K3n0 => simp only [tk, tz]; rfl
      case hF47K3n0 => simp only [fill, Kind.val, Act.put, sa, sz, ss]; rfl
      case hL47K3n0 => exact ⟨⟨_, rfl⟩, trivial⟩
      case hS47K3n0 => exact fun w' hb => ⟨H58.out.1.below hb, ⟨(Sr.step H58.out.2 (hb)).r0, (Sr.step H58.out.2 (hb)).r1, LC.out.below (Sr.step H58.out.2 (hb)).b⟩⟩
      case ho47K3n0 =>
        refine ak (fun _ => ⟨rfl, fun _ _ => rfl⟩) ?_
        refine ak (fun _ => ⟨rfl, fun _ _ => rfl⟩) ?_
        refine ak (fun γ => ⟨rfl, fun w' _ => ex_ixP40 (j := k) E2.out rfl rfl rfl (by omega)⟩) ?_
        refine ak (fun γ => ⟨rfl, fun w' hX => ex_ld45 (j := k) hX.2.2.2 E2.out (by omega) rfl rfl⟩) ?_
        refine ak (fun γ => ⟨rfl, fun w' => ex_mk45 rfl⟩) ?_
        refine ak (fun γ => ⟨rfl, rfl, rfl, fun w' h => ex_laidT h rfl rfl Tryd.sizeOf45 rfl rfl rfl⟩) ?_
        exact trivial
      intro γ w59 l hM hl
      have M59 : Mm w59 [(γ 4, ac (X k)), (gm, [Value.slice q0.p q0.n q0.cp, Value.slice q1.p q1.n q1.cp]), (gh, [PT g0 0, PT g1 0]), (g0, hs true ((hq q0.f q0.n).s) ((hq q0.f q0.n).r) ((hq q0.f q0.n).c)), (g1, hs true ((hq q1.f q1.n).s) ((hq q1.f q1.n).r) ((hq q1.f q1.n).c)), (0, ints .u32 fT 8), (1, ints .u32 kT 64)] := H58.out.1.grow hM (Nat.le_refl _) hl [4] rfl (by decide)
      have B59 : Sr w [gh, gm, g0, g1] q0 q1 w59 := Sr.step H58.out.2 (hM.below)
      have o47_4 : Hid (w.heap.size ≤ γ 4) := Nat.le_trans H58.out.2.size (hM.fin (Nat.le_refl _) hl (i := 4) rfl).2.1
      clear hM hl l H58
      generalize γ 4 = γ47_4 at M59 o47_4 ⊢
      clear γ
      have H59 : Hid (_ ∧ _) := ⟨M59, B59⟩
      clear M59 B59
      refine rest0 rfl (then_normal (wp_seq (wp_seq ?_)))
      refine walk_seqA 4 [.quiet (PT γ47_4 1), .quiet (.slice (X k).q.p (X k).q.n (X k).q.cp), .quiet (.int .i64 (((X k).q.n : Nat) : Int)), .quiet (.bool false)] (sB H59) ?ho48K3n0 ?he48K3n0
      case ho48K3n0 => exact ak (by refine fun γ => ⟨rfl, fun w' h => ?_⟩; clear h; go_simp) (ak (fun γ => ⟨rfl, fun w' h => ex_loadC h 0 rfl rfl rfl Tryd.isAgg22 rfl⟩) (ak (by refine fun γ => ⟨rfl, fun w' h => ?_⟩; clear h; go_simp) (ak (by refine fun γ => ⟨rfl, fun w' h => ?_⟩; clear h; go_simp <;> omega) trivial)))
      intro γ w60 l hM hl
      have M60 : Mm w60 [(γ47_4, ac (X k)), (gm, [Value.slice q0.p q0.n q0.cp, Value.slice q1.p q1.n q1.cp]), (gh, [PT g0 0, PT g1 0]), (g0, hs true ((hq q0.f q0.n).s) ((hq q0.f q0.n).r) ((hq q0.f q0.n).c)), (g1, hs true ((hq q1.f q1.n).s) ((hq q1.f q1.n).r) ((hq q1.f q1.n).c)), (0, ints .u32 fT 8), (1, ints .u32 kT 64)] := H59.out.1.grow hM (Nat.le_refl _) hl [] rfl (by decide)
      have B60 : Sr w [gh, gm, g0, g1] q0 q1 w60 := Sr.step H59.out.2 (hM.below)
      clear hM hl l H59
      clear γ
      have H60 : Hid (_ ∧ _) := ⟨M60, B60⟩
      clear M60 B60
      refine rest0 rfl (then_normal (wp_cond_false rfl ?_))
      refine wp_skip (then_normal ?_)
      refine wp_seq (wp_seq ?_)
      refine walk_seqA 5 [.quiet (.slice (some ⟨gh, 0, none⟩) 2 2), .quiet (.int .i64 0), .quiet (PT gh 0), .quiet (PT g0 0), .quiet (.bool false)] (sB H60) ?ho49K3n0 ?he49K3n0
      case ho49K3n0 => exact ak (fun _ => ⟨rfl, fun _ _ => rfl⟩) (ak (fun _ => ⟨rfl, fun _ _ => rfl⟩) (ak (fun γ => ⟨rfl, fun w' _ => ex_ixP43 (j := 0) (off := 0) rfl rfl rfl rfl (by decide)⟩) (ak (fun γ => ⟨rfl, fun w' h => ex_loadC h 2 rfl rfl rfl Tryd.isAgg41 rfl⟩) (ak (by refine fun γ => ⟨rfl, fun w' h => ?_⟩; clear h; go_simp) trivial))))
      intro γ w61 l hM hl
      have M61 : Mm w61 [(γ47_4, ac (X k)), (gm, [Value.slice q0.p q0.n q0.cp, Value.slice q1.p q1.n q1.cp]), (gh, [PT g0 0, PT g1 0]), (g0, hs true ((hq q0.f q0.n).s) ((hq q0.f q0.n).r) ((hq q0.f q0.n).c)), (g1, hs true ((hq q1.f q1.n).s) ((hq q1.f q1.n).r) ((hq q1.f q1.n).c)), (0, ints .u32 fT 8), (1, ints .u32 kT 64)] := H60.out.1.grow hM (Nat.le_refl _) hl [] rfl (by decide)
      have B61 : Sr w [gh, gm, g0, g1] q0 q1 w61 := Sr.step H60.out.2 (hM.below)
      clear hM hl l H60
      clear γ
      have H61 : Hid (_ ∧ _) := ⟨M61, B61⟩
      clear M61 B61
      refine rest0 rfl (then_normal (wp_cond_false rfl ?_))
      refine wp_skip (then_normal ?_)
      refine wp_seq (wp_seq ?_)
      refine walk_seqA 2 [.quiet (PT γ47_4 0), .quiet (Z8 ((X k).kd))] (sB H61) ?ho50K3n0 ?he50K3n0
      case ho50K3n0 => exact ak (by refine fun γ => ⟨rfl, fun w' h => ?_⟩; clear h; go_simp) (ak (fun γ => ⟨rfl, fun w' h => ex_loadC h 0 rfl rfl rfl Tryd.isAgg5 rfl⟩) trivial)
      intro γ w62 l hM hl
      have M62 : Mm w62 [(γ47_4, ac (X k)), (gm, [Value.slice q0.p q0.n q0.cp, Value.slice q1.p q1.n q1.cp]), (gh, [PT g0 0, PT g1 0]), (g0, hs true ((hq q0.f q0.n).s) ((hq q0.f q0.n).r) ((hq q0.f q0.n).c)), (g1, hs true ((hq q1.f q1.n).s) ((hq q1.f q1.n).r) ((hq q1.f q1.n).c)), (0, ints .u32 fT 8), (1, ints .u32 kT 64)] := H61.out.1.grow hM (Nat.le_refl _) hl [] rfl (by decide)
      have B62 : Sr w [gh, gm, g0, g1] q0 q1 w62 := Sr.step H61.out.2 (hM.below)
      clear hM hl l H61
      clear γ
      have H62 : Hid (_ ∧ _) := ⟨M62, B62⟩
      clear M62 B62
      refine rest0 rfl (then_normal (wp_block (wp_seq ?_)))
      refine walk_seqA 2 [.quiet (.bool false), .quiet (.bool false)] (sB H62) ?ho51K3n0 ?he51K3n0
      case ho51K3n0 => exact ak (fun γ => ⟨rfl, fun w' _ => ex_eq8 (b := 0) (decide_eq_false (by omega)) rfl rfl rfl⟩) (ak (fun _ => ⟨rfl, fun _ _ => rfl⟩) trivial)
      intro γ w63 l hM hl
      have M63 : Mm w63 [(γ47_4, ac (X k)), (gm, [Value.slice q0.p q0.n q0.cp, Value.slice q1.p q1.n q1.cp]), (gh, [PT g0 0, PT g1 0]), (g0, hs true ((hq q0.f q0.n).s) ((hq q0.f q0.n).r) ((hq q0.f q0.n).c)), (g1, hs true ((hq q1.f q1.n).s) ((hq q1.f q1.n).r) ((hq q1.f q1.n).c)), (0, ints .u32 fT 8), (1, ints .u32 kT 64)] := H62.out.1.grow hM (Nat.le_refl _) hl [] rfl (by decide)
      have B63 : Sr w [gh, gm, g0, g1] q0 q1 w63 := Sr.step H62.out.2 (hM.below)
      clear hM hl l H62
      clear γ
      have H63 : Hid (_ ∧ _) := ⟨M63, B63⟩
      clear M63 B63
      refine rest0 rfl (then_normal (wp_cond_false rfl (wp_seq ?_)))
      refine walk_seqA 2 [.quiet (.bool false), .quiet (.bool false)] (sB H63) ?ho52K3n0 ?he52K3n0
      case ho52K3n0 => exact ak (fun γ => ⟨rfl, fun w' _ => ex_eq8 (b := 1) (decide_eq_false (by omega)) rfl rfl rfl⟩) (ak (fun _ => ⟨rfl, fun _ _ => rfl⟩) trivial)
      intro γ w64 l hM hl
      have M64 : Mm w64 [(γ47_4, ac (X k)), (gm, [Value.slice q0.p q0.n q0.cp, Value.slice q1.p q1.n q1.cp]), (gh, [PT g0 0, PT g1 0]), (g0, hs true ((hq q0.f q0.n).s) ((hq q0.f q0.n).r) ((hq q0.f q0.n).c)), (g1, hs true ((hq q1.f q1.n).s) ((hq q1.f q1.n).r) ((hq q1.f q1.n).c)), (0, ints .u32 fT 8), (1, ints .u32 kT 64)] := H63.out.1.grow hM (Nat.le_refl _) hl [] rfl (by decide)
      have B64 : Sr w [gh, gm, g0, g1] q0 q1 w64 := Sr.step H63.out.2 (hM.below)
      clear hM hl l H63
      clear γ
      have H64 : Hid (_ ∧ _) := ⟨M64, B64⟩
      clear M64 B64
      refine rest0 rfl (then_normal (wp_cond_false rfl (wp_seq ?_)))
      refine walk_seqA 2 [.quiet (.bool false), .quiet (.bool false)] (sB H64) ?ho53K3n0 ?he53K3n0
      case ho53K3n0 => exact ak (fun γ => ⟨rfl, fun w' _ => ex_eq8 (b := 2) (decide_eq_false (by omega)) rfl rfl rfl⟩) (ak (fun _ => ⟨rfl, fun _ _ => rfl⟩) trivial)
      intro γ w65 l hM hl
      have M65 : Mm w65 [(γ47_4, ac (X k)), (gm, [Value.slice q0.p q0.n q0.cp, Value.slice q1.p q1.n q1.cp]), (gh, [PT g0 0, PT g1 0]), (g0, hs true ((hq q0.f q0.n).s) ((hq q0.f q0.n).r) ((hq q0.f q0.n).c)), (g1, hs true ((hq q1.f q1.n).s) ((hq q1.f q1.n).r) ((hq q1.f q1.n).c)), (0, ints .u32 fT 8), (1, ints .u32 kT 64)] := H64.out.1.grow hM (Nat.le_refl _) hl [] rfl (by decide)
      have B65 : Sr w [gh, gm, g0, g1] q0 q1 w65 := Sr.step H64.out.2 (hM.below)
      clear hM hl l H64
      clear γ
      have H65 : Hid (_ ∧ _) := ⟨M65, B65⟩
      clear M65 B65
      refine rest0 rfl (then_normal (wp_cond_false rfl (wp_seq ?_)))
      refine walk_seqA 2 [.quiet (.bool true), .quiet (.bool true)] (sB H65) ?ho54K3n0 ?he54K3n0
      case ho54K3n0 => exact ak (fun γ => ⟨rfl, fun w' _ => ex_eq8 (b := 3) (decide_eq_true (by omega)) rfl rfl rfl⟩) (ak (fun _ => ⟨rfl, fun _ _ => rfl⟩) trivial)
      intro γ w66 l hM hl
      have M66 : Mm w66 [(γ47_4, ac (X k)), (gm, [Value.slice q0.p q0.n q0.cp, Value.slice q1.p q1.n q1.cp]), (gh, [PT g0 0, PT g1 0]), (g0, hs true ((hq q0.f q0.n).s) ((hq q0.f q0.n).r) ((hq q0.f q0.n).c)), (g1, hs true ((hq q1.f q1.n).s) ((hq q1.f q1.n).r) ((hq q1.f q1.n).c)), (0, ints .u32 fT 8), (1, ints .u32 kT 64)] := H65.out.1.grow hM (Nat.le_refl _) hl [] rfl (by decide)
      have B66 : Sr w [gh, gm, g0, g1] q0 q1 w66 := Sr.step H65.out.2 (hM.below)
      clear hM hl l H65
      clear γ
      have H66 : Hid (_ ∧ _) := ⟨M66, B66⟩
      clear M66 B66
      refine rest0 rfl (then_normal (wp_cond_true rfl ?_))
      refine walk_seqA 2 [.quiet (.int .i64 0), .quiet (.int .i64 1)] (sB H66) ?ho55K3n0 ?he55K3n0
      case ho55K3n0 => exact ak (fun _ => ⟨rfl, fun _ _ => rfl⟩) (ak (by refine fun γ => ⟨rfl, fun w' h => ?_⟩; clear h; go_simp; rw [IntKind.wrap_i64]; omega) trivial)
      intro γ w67 l hM hl
      have M67 : Mm w67 [(γ47_4, ac (X k)), (gm, [Value.slice q0.p q0.n q0.cp, Value.slice q1.p q1.n q1.cp]), (gh, [PT g0 0, PT g1 0]), (g0, hs true ((hq q0.f q0.n).s) ((hq q0.f q0.n).r) ((hq q0.f q0.n).c)), (g1, hs true ((hq q1.f q1.n).s) ((hq q1.f q1.n).r) ((hq q1.f q1.n).c)), (0, ints .u32 fT 8), (1, ints .u32 kT 64)] := H66.out.1.grow hM (Nat.le_refl _) hl [] rfl (by decide)
      have B67 : Sr w [gh, gm, g0, g1] q0 q1 w67 := Sr.step H66.out.2 (hM.below)
      clear hM hl l H66
      clear γ
      have H67 : Hid (_ ∧ _) := ⟨M67, B67⟩
      clear M67 B67
      refine rest_at (l := [2]) rfl ?_
      refine rest_set (d := 5) (v := .int .i64 1) (w' := w67) rfl rfl rfl rfl ?_
      simp only [Act.put, sa, sz, ss]
      refine rest_nil (block_normal ?_)
      refine then_normal (wp_seq ?_)
      refine walk_anyA 18 [.quiet (.slice (some ⟨gh, 0, none⟩) 2 2), .quiet (.int .i64 1), .quiet (PT gh 1), .quiet (PT g1 0), .quiet (.bool false), .quiet (.bool false), .quiet (.slice (some ⟨gh, 0, none⟩) 2 2), .quiet (.int .i64 1), .quiet (PT gh 1), .quiet (PT g1 0), .call (.int .i64 ((q1.n : Nat) : Int)), .quiet (.slice (some ⟨gm, 0, none⟩) 2 2), .quiet (.int .i64 1), .quiet (PT gm 1), .quiet (.slice q1.p q1.n q1.cp), .quiet (.int .i64 ((q1.n : Nat) : Int)), .quiet (.bool false), .quiet (.bool false)] (sB H67) ?ho56K3n0 ?he56K3n0
      case ho56K3n0 => exact ak (fun _ => ⟨rfl, fun _ _ => rfl⟩) (ak (fun _ => ⟨rfl, fun _ _ => rfl⟩) (ak (fun γ => ⟨rfl, fun w' _ => ex_ixP43 (j := 1) (off := 0) rfl rfl rfl rfl (by decide)⟩) (ak (fun γ => ⟨rfl, fun w' h => ex_loadC h 2 rfl rfl rfl Tryd.isAgg41 rfl⟩) (ak (by refine fun γ => ⟨rfl, fun w' h => ?_⟩; clear h; go_simp) (ak (fun _ => ⟨rfl, fun _ _ => rfl⟩) (ak (fun _ => ⟨rfl, fun _ _ => rfl⟩) (ak (fun _ => ⟨rfl, fun _ _ => rfl⟩) (ak (fun γ => ⟨rfl, fun w' _ => ex_ixP43 (j := 1) (off := 0) rfl rfl rfl rfl (by decide)⟩) (ak (fun γ => ⟨rfl, fun w' h => ex_loadC h 2 rfl rfl rfl Tryd.isAgg41 rfl⟩) (ak (fun γ => ⟨rfl, fun w' h => ⟨31, #[PT g1 0], exec_call rfl call31 rfl (mpn rfl), Len_hq g1 q1 (by omega) w' (h.one 4 rfl)⟩⟩) (ak (fun _ => ⟨rfl, fun _ _ => rfl⟩) (ak (fun _ => ⟨rfl, fun _ _ => rfl⟩) (ak (fun γ => ⟨rfl, fun w' _ => ex_ixP29 (j := 1) (off := 0) rfl rfl rfl rfl (by decide)⟩) (ak (fun γ => ⟨rfl, fun w' h => ex_loadC h 1 rfl rfl rfl Tryd.isAgg22 rfl⟩) (ak (by refine fun γ => ⟨rfl, fun w' h => ?_⟩; clear h; go_simp) (ak (by refine fun γ => ⟨rfl, fun w' h => ?_⟩; clear h; go_simp <;> omega) (ak (by refine fun γ => ⟨rfl, fun w' h => ?_⟩; clear h; go_simp) trivial)))))))))))))))))
      intro γ w68 l hM hl
      have M68 : Mm w68 [(γ47_4, ac (X k)), (gm, [Value.slice q0.p q0.n q0.cp, Value.slice q1.p q1.n q1.cp]), (gh, [PT g0 0, PT g1 0]), (g0, hs true ((hq q0.f q0.n).s) ((hq q0.f q0.n).r) ((hq q0.f q0.n).c)), (g1, hs true ((hq q1.f q1.n).s) ((hq q1.f q1.n).r) ((hq q1.f q1.n).c)), (0, ints .u32 fT 8), (1, ints .u32 kT 64)] := H67.out.1.grow hM (Nat.le_refl _) hl [] rfl (by decide)
      have B68 : Sr w [gh, gm, g0, g1] q0 q1 w68 := Sr.step H67.out.2 (hM.below)
      clear hM hl l H67
      clear γ
      have H68 : Hid (_ ∧ _) := ⟨M68, B68⟩
      clear M68 B68
      refine rest0 rfl (then_normal (wp_cond_false rfl ?_))
      refine wp_skip (block_normal (then_normal ?_))
      refine walk_seqA 2 [.quiet (.int .i64 ((k : Nat) : Int)), .quiet (.int .i64 ((k + 1 : Nat) : Int))] (sB H68) ?ho57K3n0 ?he57K3n0
      case ho57K3n0 => exact ak (fun _ => ⟨rfl, fun _ _ => rfl⟩) (ak (by refine fun γ => ⟨rfl, fun w' h => ?_⟩; clear h; go_simp; rw [IntKind.wrap_i64]; omega) trivial)
      intro γ w69 l hM hl
      have M69 : Mm w69 [(γ47_4, ac (X k)), (gm, [Value.slice q0.p q0.n q0.cp, Value.slice q1.p q1.n q1.cp]), (gh, [PT g0 0, PT g1 0]), (g0, hs true ((hq q0.f q0.n).s) ((hq q0.f q0.n).r) ((hq q0.f q0.n).c)), (g1, hs true ((hq q1.f q1.n).s) ((hq q1.f q1.n).r) ((hq q1.f q1.n).c)), (0, ints .u32 fT 8), (1, ints .u32 kT 64)] := H68.out.1.grow hM (Nat.le_refl _) hl [] rfl (by decide)
      have B69 : Sr w [gh, gm, g0, g1] q0 q1 w69 := Sr.step H68.out.2 (hM.below)
      clear hM hl l H68
      clear γ
      have H69 : Hid (_ ∧ _) := ⟨M69, B69⟩
      clear M69 B69
      refine rest_at (l := [2]) rfl ?_
      refine rest_set (d := 6) (v := .int .i64 ((k + 1 : Nat) : Int)) (w' := w69) rfl rfl rfl rfl ?_
      simp only [Act.put, sa, sz, ss]
      refine rest_nil (then_normal ?_)
      exact ⟨⟨k + 1, 1, g0, g1, q0, q1⟩, ⟨(slotfn [undef, undef, s0 2, undef, undef, undef, undef, PT γ47_4 0, s0 8, undef, undef, undef, undef, undef, undef, undef, .int .i64 ((k : Nat) : Int), .slice pl m c2, .int .i64 ((m : Nat) : Int), .bool true, .int .i64 ((k : Nat) : Int), .int .i64 ((k + 1 : Nat) : Int), .slice pl m c2, .int .i64 ((k : Nat) : Int), PT ga (oa + 2 * k), .agg (ac (X k)).toArray, PT γ47_4 1, .slice (X k).q.p (X k).q.n (X k).q.cp, .int .i64 (((X k).q.n : Nat) : Int), .bool false, .slice (some ⟨gh, 0, none⟩) 2 2, .int .i64 0, PT gh 0, PT g0 0, .bool false, PT γ47_4 0, Z8 ((X k).kd), .bool false, .bool false, s0 39, s0 40, s0 41, s0 42, s0 43, s0 44, s0 45, s0 46, s0 47, s0 48, s0 49, s0 50, s0 51, s0 52, s0 53, s0 54, s0 55, s0 56, s0 57, s0 58, s0 59, s0 60, s0 61, s0 62, s0 63, s0 64, s0 65, s0 66, s0 67, s0 68, .bool false, .bool false, s0 71, s0 72, s0 73, s0 74, s0 75, s0 76, s0 77, s0 78, s0 79, s0 80, s0 81, .bool false, .bool false, s0 84, s0 85, s0 86, s0 87, s0 88, s0 89, s0 90, s0 91, s0 92, s0 93, s0 94, s0 95, s0 96, s0 97, s0 98, s0 99, s0 100, s0 101, s0 102, .bool true, .bool true, .int .i64 0, .int .i64 1, .slice (some ⟨gh, 0, none⟩) 2 2, .int .i64 1, PT gh 1, PT g1 0, .bool false, .bool false, .slice (some ⟨gh, 0, none⟩) 2 2, .int .i64 1, PT gh 1, PT g1 0, .int .i64 ((q1.n : Nat) : Int), .slice (some ⟨gm, 0, none⟩) 2 2, .int .i64 1, PT gm 1, .slice q1.p q1.n q1.cp, .int .i64 ((q1.n : Nat) : Int), .bool false, .bool false]), rfl, ⟨H69.out.1.sel [1, 2, 3, 4, 5, 6] (by decide) rfl, H69.out.2.b⟩, ⟨by show k + 1 ≤ m; omega, by show 1 < 2; decide, by show q0.n ≤ 4000 * (k + 1); omega, by show q1.n ≤ 4000 * (k + 1); omega, hp0, hp1, o_g0.out, o_g1.out, H69.out.2.less (by simp)⟩⟩, by show m - (k + 1) < m - k; omega⟩
    · have hrd : True := trivial
      clear hrd
      refine wp_seq (wp_seq ?_)
      refine walk_seqA 4 [.quiet (.int .i64 ((k : Nat) : Int)), .quiet (.slice pl m c2), .quiet (.int .i64 ((m : Nat) : Int)), .quiet (.bool true)] (sB H10) ?ho58K4n0 ?he58K4n0
      case ho58K4n0 => exact ak (fun _ => ⟨rfl, fun _ _ => rfl⟩) (ak (fun _ => ⟨rfl, fun _ _ => rfl⟩) (ak (by refine fun γ => ⟨rfl, fun w' h => ?_⟩; clear h; go_simp) (ak (by refine fun γ => ⟨rfl, fun w' h => ?_⟩; clear h; go_simp <;> omega) trivial)))
      intro γ w70 l hM hl
      have M70 : Mm w70 [(gm, [Value.slice q0.p q0.n q0.cp, Value.slice q1.p q1.n q1.cp]), (gh, [PT g0 0, PT g1 0]), (g0, hs true ((hq q0.f q0.n).s) ((hq q0.f q0.n).r) ((hq q0.f q0.n).c)), (g1, hs true ((hq q1.f q1.n).s) ((hq q1.f q1.n).r) ((hq q1.f q1.n).c)), (0, ints .u32 fT 8), (1, ints .u32 kT 64)] := H10.out.1.grow hM (Nat.le_refl _) hl [] rfl (by decide)
      have B70 : Sr w [gh, gm, g0, g1] q0 q1 w70 := Sr.step H10.out.2 (hM.below)
      clear hM hl l H10
      clear γ
      have H70 : Hid (_ ∧ _) := ⟨M70, B70⟩
      clear M70 B70
      refine rest0 rfl (then_normal (wp_cond_true rfl ?_))
      refine wp_skip (then_normal ?_)
      refine wp_seq (wp_block (wp_seq ?_))
      refine (walk_seq) 6 [.quiet (.slice pl m c2), .quiet (.int .i64 ((k : Nat) : Int)), .quiet (PT ga (oa + 2 * k)), .quiet (.agg (ac (X k)).toArray), .made [Z8 0, .slice none 0 0] 45, .laid 4 [Z8 0, .slice none 0 0] (ac (X k))] (fun u' => Mm u' [(gm, [Value.slice q0.p q0.n q0.cp, Value.slice q1.p q1.n q1.cp]), (gh, [PT g0 0, PT g1 0]), (g0, hs true ((hq q0.f q0.n).s) ((hq q0.f q0.n).r) ((hq q0.f q0.n).c)), (g1, hs true ((hq q1.f q1.n).s) ((hq q1.f q1.n).r) ((hq q1.f q1.n).c)), (0, ints .u32 fT 8), (1, ints .u32 kT 64)] ∧ (q0.rs u' ∧ q1.rs u' ∧ Lc pl X m u')) ?pre59K4n0 ?F59K4n0 ?hpre59K4n0 (fun γ => ?hF59K4n0) (by kernel_rfl) ?hL59K4n0 ?hS59K4n0 ?ho59K4n0 ?he59K4n0
      case hpre59K4n0 => simp only [tk, tz]; rfl
      case hF59K4n0 => simp only [fill, Kind.val, Act.put, sa, sz, ss]; rfl
      case hL59K4n0 => exact ⟨⟨_, rfl⟩, trivial⟩
      case hS59K4n0 => exact fun w' hb => ⟨H70.out.1.below hb, ⟨(Sr.step H70.out.2 (hb)).r0, (Sr.step H70.out.2 (hb)).r1, LC.out.below (Sr.step H70.out.2 (hb)).b⟩⟩
      case ho59K4n0 =>
        refine ak (fun _ => ⟨rfl, fun _ _ => rfl⟩) ?_
        refine ak (fun _ => ⟨rfl, fun _ _ => rfl⟩) ?_
        refine ak (fun γ => ⟨rfl, fun w' _ => ex_ixP40 (j := k) E2.out rfl rfl rfl (by omega)⟩) ?_
        refine ak (fun γ => ⟨rfl, fun w' hX => ex_ld45 (j := k) hX.2.2.2 E2.out (by omega) rfl rfl⟩) ?_
        refine ak (fun γ => ⟨rfl, fun w' => ex_mk45 rfl⟩) ?_
        refine ak (fun γ => ⟨rfl, rfl, rfl, fun w' h => ex_laidT h rfl rfl Tryd.sizeOf45 rfl rfl rfl⟩) ?_
        exact trivial
      intro γ w71 l hM hl
      have M71 : Mm w71 [(γ 4, ac (X k)), (gm, [Value.slice q0.p q0.n q0.cp, Value.slice q1.p q1.n q1.cp]), (gh, [PT g0 0, PT g1 0]), (g0, hs true ((hq q0.f q0.n).s) ((hq q0.f q0.n).r) ((hq q0.f q0.n).c)), (g1, hs true ((hq q1.f q1.n).s) ((hq q1.f q1.n).r) ((hq q1.f q1.n).c)), (0, ints .u32 fT 8), (1, ints .u32 kT 64)] := H70.out.1.grow hM (Nat.le_refl _) hl [4] rfl (by decide)
      have B71 : Sr w [gh, gm, g0, g1] q0 q1 w71 := Sr.step H70.out.2 (hM.below)
      have o59_4 : Hid (w.heap.size ≤ γ 4) := Nat.le_trans H70.out.2.size (hM.fin (Nat.le_refl _) hl (i := 4) rfl).2.1
      clear hM hl l H70
      generalize γ 4 = γ59_4 at M71 o59_4 ⊢
      clear γ
      have H71 : Hid (_ ∧ _) := ⟨M71, B71⟩
      clear M71 B71
      refine rest0 rfl (then_normal (wp_seq (wp_seq ?_)))
      refine walk_seqA 4 [.quiet (PT γ59_4 1), .quiet (.slice (X k).q.p (X k).q.n (X k).q.cp), .quiet (.int .i64 (((X k).q.n : Nat) : Int)), .quiet (.bool false)] (sB H71) ?ho60K4n0 ?he60K4n0
      case ho60K4n0 => exact ak (by refine fun γ => ⟨rfl, fun w' h => ?_⟩; clear h; go_simp) (ak (fun γ => ⟨rfl, fun w' h => ex_loadC h 0 rfl rfl rfl Tryd.isAgg22 rfl⟩) (ak (by refine fun γ => ⟨rfl, fun w' h => ?_⟩; clear h; go_simp) (ak (by refine fun γ => ⟨rfl, fun w' h => ?_⟩; clear h; go_simp <;> omega) trivial)))
      intro γ w72 l hM hl
      have M72 : Mm w72 [(γ59_4, ac (X k)), (gm, [Value.slice q0.p q0.n q0.cp, Value.slice q1.p q1.n q1.cp]), (gh, [PT g0 0, PT g1 0]), (g0, hs true ((hq q0.f q0.n).s) ((hq q0.f q0.n).r) ((hq q0.f q0.n).c)), (g1, hs true ((hq q1.f q1.n).s) ((hq q1.f q1.n).r) ((hq q1.f q1.n).c)), (0, ints .u32 fT 8), (1, ints .u32 kT 64)] := H71.out.1.grow hM (Nat.le_refl _) hl [] rfl (by decide)
      have B72 : Sr w [gh, gm, g0, g1] q0 q1 w72 := Sr.step H71.out.2 (hM.below)
      clear hM hl l H71
      clear γ
      have H72 : Hid (_ ∧ _) := ⟨M72, B72⟩
      clear M72 B72
      refine rest0 rfl (then_normal (wp_cond_false rfl ?_))
      refine wp_skip (then_normal ?_)
      refine wp_seq (wp_seq ?_)
      refine walk_seqA 5 [.quiet (.slice (some ⟨gh, 0, none⟩) 2 2), .quiet (.int .i64 0), .quiet (PT gh 0), .quiet (PT g0 0), .quiet (.bool false)] (sB H72) ?ho61K4n0 ?he61K4n0
      case ho61K4n0 => exact ak (fun _ => ⟨rfl, fun _ _ => rfl⟩) (ak (fun _ => ⟨rfl, fun _ _ => rfl⟩) (ak (fun γ => ⟨rfl, fun w' _ => ex_ixP43 (j := 0) (off := 0) rfl rfl rfl rfl (by decide)⟩) (ak (fun γ => ⟨rfl, fun w' h => ex_loadC h 2 rfl rfl rfl Tryd.isAgg41 rfl⟩) (ak (by refine fun γ => ⟨rfl, fun w' h => ?_⟩; clear h; go_simp) trivial))))
      intro γ w73 l hM hl
      have M73 : Mm w73 [(γ59_4, ac (X k)), (gm, [Value.slice q0.p q0.n q0.cp, Value.slice q1.p q1.n q1.cp]), (gh, [PT g0 0, PT g1 0]), (g0, hs true ((hq q0.f q0.n).s) ((hq q0.f q0.n).r) ((hq q0.f q0.n).c)), (g1, hs true ((hq q1.f q1.n).s) ((hq q1.f q1.n).r) ((hq q1.f q1.n).c)), (0, ints .u32 fT 8), (1, ints .u32 kT 64)] := H72.out.1.grow hM (Nat.le_refl _) hl [] rfl (by decide)
      have B73 : Sr w [gh, gm, g0, g1] q0 q1 w73 := Sr.step H72.out.2 (hM.below)
      clear hM hl l H72
      clear γ
      have H73 : Hid (_ ∧ _) := ⟨M73, B73⟩
      clear M73 B73
      refine rest0 rfl (then_normal (wp_cond_false rfl ?_))
      refine wp_skip (then_normal ?_)
      refine wp_seq (wp_seq ?_)
      refine walk_seqA 2 [.quiet (PT γ59_4 0), .quiet (Z8 ((X k).kd))] (sB H73) ?ho62K4n0 ?he62K4n0
      case ho62K4n0 => exact ak (by refine fun γ => ⟨rfl, fun w' h => ?_⟩; clear h; go_simp) (ak (fun γ => ⟨rfl, fun w' h => ex_loadC h 0 rfl rfl rfl Tryd.isAgg5 rfl⟩) trivial)
      intro γ w74 l hM hl
      have M74 : Mm w74 [(γ59_4, ac (X k)), (gm, [Value.slice q0.p q0.n q0.cp, Value.slice q1.p q1.n q1.cp]), (gh, [PT g0 0, PT g1 0]), (g0, hs true ((hq q0.f q0.n).s) ((hq q0.f q0.n).r) ((hq q0.f q0.n).c)), (g1, hs true ((hq q1.f q1.n).s) ((hq q1.f q1.n).r) ((hq q1.f q1.n).c)), (0, ints .u32 fT 8), (1, ints .u32 kT 64)] := H73.out.1.grow hM (Nat.le_refl _) hl [] rfl (by decide)
      have B74 : Sr w [gh, gm, g0, g1] q0 q1 w74 := Sr.step H73.out.2 (hM.below)
      clear hM hl l H73
      clear γ
      have H74 : Hid (_ ∧ _) := ⟨M74, B74⟩
      clear M74 B74
      refine rest0 rfl (then_normal (wp_block (wp_seq ?_)))
      refine walk_seqA 2 [.quiet (.bool false), .quiet (.bool false)] (sB H74) ?ho63K4n0 ?he63K4n0
      case ho63K4n0 => exact ak (fun γ => ⟨rfl, fun w' _ => ex_eq8 (b := 0) (decide_eq_false (by omega)) rfl rfl rfl⟩) (ak (fun _ => ⟨rfl, fun _ _ => rfl⟩) trivial)
      intro γ w75 l hM hl
      have M75 : Mm w75 [(γ59_4, ac (X k)), (gm, [Value.slice q0.p q0.n q0.cp, Value.slice q1.p q1.n q1.cp]), (gh, [PT g0 0, PT g1 0]), (g0, hs true ((hq q0.f q0.n).s) ((hq q0.f q0.n).r) ((hq q0.f q0.n).c)), (g1, hs true ((hq q1.f q1.n).s) ((hq q1.f q1.n).r) ((hq q1.f q1.n).c)), (0, ints .u32 fT 8), (1, ints .u32 kT 64)] := H74.out.1.grow hM (Nat.le_refl _) hl [] rfl (by decide)
      have B75 : Sr w [gh, gm, g0, g1] q0 q1 w75 := Sr.step H74.out.2 (hM.below)
      clear hM hl l H74
      clear γ
      have H75 : Hid (_ ∧ _) := ⟨M75, B75⟩
      clear M75 B75
      refine rest0 rfl (then_normal (wp_cond_false rfl (wp_seq ?_)))
      refine walk_seqA 2 [.quiet (.bool false), .quiet (.bool false)] (sB H75) ?ho64K4n0 ?he64K4n0
      case ho64K4n0 => exact ak (fun γ => ⟨rfl, fun w' _ => ex_eq8 (b := 1) (decide_eq_false (by omega)) rfl rfl rfl⟩) (ak (fun _ => ⟨rfl, fun _ _ => rfl⟩) trivial)
      intro γ w76 l hM hl
      have M76 : Mm w76 [(γ59_4, ac (X k)), (gm, [Value.slice q0.p q0.n q0.cp, Value.slice q1.p q1.n q1.cp]), (gh, [PT g0 0, PT g1 0]), (g0, hs true ((hq q0.f q0.n).s) ((hq q0.f q0.n).r) ((hq q0.f q0.n).c)), (g1, hs true ((hq q1.f q1.n).s) ((hq q1.f q1.n).r) ((hq q1.f q1.n).c)), (0, ints .u32 fT 8), (1, ints .u32 kT 64)] := H75.out.1.grow hM (Nat.le_refl _) hl [] rfl (by decide)
      have B76 : Sr w [gh, gm, g0, g1] q0 q1 w76 := Sr.step H75.out.2 (hM.below)
      clear hM hl l H75
      clear γ
      have H76 : Hid (_ ∧ _) := ⟨M76, B76⟩
      clear M76 B76
      refine rest0 rfl (then_normal (wp_cond_false rfl (wp_seq ?_)))
      refine walk_seqA 2 [.quiet (.bool false), .quiet (.bool false)] (sB H76) ?ho65K4n0 ?he65K4n0
      case ho65K4n0 => exact ak (fun γ => ⟨rfl, fun w' _ => ex_eq8 (b := 2) (decide_eq_false (by omega)) rfl rfl rfl⟩) (ak (fun _ => ⟨rfl, fun _ _ => rfl⟩) trivial)
      intro γ w77 l hM hl
      have M77 : Mm w77 [(γ59_4, ac (X k)), (gm, [Value.slice q0.p q0.n q0.cp, Value.slice q1.p q1.n q1.cp]), (gh, [PT g0 0, PT g1 0]), (g0, hs true ((hq q0.f q0.n).s) ((hq q0.f q0.n).r) ((hq q0.f q0.n).c)), (g1, hs true ((hq q1.f q1.n).s) ((hq q1.f q1.n).r) ((hq q1.f q1.n).c)), (0, ints .u32 fT 8), (1, ints .u32 kT 64)] := H76.out.1.grow hM (Nat.le_refl _) hl [] rfl (by decide)
      have B77 : Sr w [gh, gm, g0, g1] q0 q1 w77 := Sr.step H76.out.2 (hM.below)
      clear hM hl l H76
      clear γ
      have H77 : Hid (_ ∧ _) := ⟨M77, B77⟩
      clear M77 B77
      refine rest0 rfl (then_normal (wp_cond_false rfl (wp_seq ?_)))
      refine walk_seqA 2 [.quiet (.bool false), .quiet (.bool false)] (sB H77) ?ho66K4n0 ?he66K4n0
      case ho66K4n0 => exact ak (fun γ => ⟨rfl, fun w' _ => ex_eq8 (b := 3) (decide_eq_false (by omega)) rfl rfl rfl⟩) (ak (fun _ => ⟨rfl, fun _ _ => rfl⟩) trivial)
      intro γ w78 l hM hl
      have M78 : Mm w78 [(γ59_4, ac (X k)), (gm, [Value.slice q0.p q0.n q0.cp, Value.slice q1.p q1.n q1.cp]), (gh, [PT g0 0, PT g1 0]), (g0, hs true ((hq q0.f q0.n).s) ((hq q0.f q0.n).r) ((hq q0.f q0.n).c)), (g1, hs true ((hq q1.f q1.n).s) ((hq q1.f q1.n).r) ((hq q1.f q1.n).c)), (0, ints .u32 fT 8), (1, ints .u32 kT 64)] := H77.out.1.grow hM (Nat.le_refl _) hl [] rfl (by decide)
      have B78 : Sr w [gh, gm, g0, g1] q0 q1 w78 := Sr.step H77.out.2 (hM.below)
      clear hM hl l H77
      clear γ
      have H78 : Hid (_ ∧ _) := ⟨M78, B78⟩
      clear M78 B78
      refine rest0 rfl (then_normal (wp_cond_false rfl ?_))
      refine wp_skip (block_normal ?_)
      refine then_normal (wp_seq ?_)
      refine walk_anyA 18 [.quiet (.slice (some ⟨gh, 0, none⟩) 2 2), .quiet (.int .i64 0), .quiet (PT gh 0), .quiet (PT g0 0), .quiet (.bool false), .quiet (.bool false), .quiet (.slice (some ⟨gh, 0, none⟩) 2 2), .quiet (.int .i64 0), .quiet (PT gh 0), .quiet (PT g0 0), .call (.int .i64 ((q0.n : Nat) : Int)), .quiet (.slice (some ⟨gm, 0, none⟩) 2 2), .quiet (.int .i64 0), .quiet (PT gm 0), .quiet (.slice q0.p q0.n q0.cp), .quiet (.int .i64 ((q0.n : Nat) : Int)), .quiet (.bool false), .quiet (.bool false)] (sB H78) ?ho67K4n0 ?he67K4n0
      case ho67K4n0 => exact ak (fun _ => ⟨rfl, fun _ _ => rfl⟩) (ak (fun _ => ⟨rfl, fun _ _ => rfl⟩) (ak (fun γ => ⟨rfl, fun w' _ => ex_ixP43 (j := 0) (off := 0) rfl rfl rfl rfl (by decide)⟩) (ak (fun γ => ⟨rfl, fun w' h => ex_loadC h 2 rfl rfl rfl Tryd.isAgg41 rfl⟩) (ak (by refine fun γ => ⟨rfl, fun w' h => ?_⟩; clear h; go_simp) (ak (fun _ => ⟨rfl, fun _ _ => rfl⟩) (ak (fun _ => ⟨rfl, fun _ _ => rfl⟩) (ak (fun _ => ⟨rfl, fun _ _ => rfl⟩) (ak (fun γ => ⟨rfl, fun w' _ => ex_ixP43 (j := 0) (off := 0) rfl rfl rfl rfl (by decide)⟩) (ak (fun γ => ⟨rfl, fun w' h => ex_loadC h 2 rfl rfl rfl Tryd.isAgg41 rfl⟩) (ak (fun γ => ⟨rfl, fun w' h => ⟨31, #[PT g0 0], exec_call rfl call31 rfl (mpn rfl), Len_hq g0 q0 (by omega) w' (h.one 3 rfl)⟩⟩) (ak (fun _ => ⟨rfl, fun _ _ => rfl⟩) (ak (fun _ => ⟨rfl, fun _ _ => rfl⟩) (ak (fun γ => ⟨rfl, fun w' _ => ex_ixP29 (j := 0) (off := 0) rfl rfl rfl rfl (by decide)⟩) (ak (fun γ => ⟨rfl, fun w' h => ex_loadC h 1 rfl rfl rfl Tryd.isAgg22 rfl⟩) (ak (by refine fun γ => ⟨rfl, fun w' h => ?_⟩; clear h; go_simp) (ak (by refine fun γ => ⟨rfl, fun w' h => ?_⟩; clear h; go_simp <;> omega) (ak (by refine fun γ => ⟨rfl, fun w' h => ?_⟩; clear h; go_simp) trivial)))))))))))))))))
      intro γ w79 l hM hl
      have M79 : Mm w79 [(γ59_4, ac (X k)), (gm, [Value.slice q0.p q0.n q0.cp, Value.slice q1.p q1.n q1.cp]), (gh, [PT g0 0, PT g1 0]), (g0, hs true ((hq q0.f q0.n).s) ((hq q0.f q0.n).r) ((hq q0.f q0.n).c)), (g1, hs true ((hq q1.f q1.n).s) ((hq q1.f q1.n).r) ((hq q1.f q1.n).c)), (0, ints .u32 fT 8), (1, ints .u32 kT 64)] := H78.out.1.grow hM (Nat.le_refl _) hl [] rfl (by decide)
      have B79 : Sr w [gh, gm, g0, g1] q0 q1 w79 := Sr.step H78.out.2 (hM.below)
      clear hM hl l H78
      clear γ
      have H79 : Hid (_ ∧ _) := ⟨M79, B79⟩
      clear M79 B79
      refine rest0 rfl (then_normal (wp_cond_false rfl ?_))
      refine wp_skip (block_normal (then_normal ?_))
      refine walk_seqA 2 [.quiet (.int .i64 ((k : Nat) : Int)), .quiet (.int .i64 ((k + 1 : Nat) : Int))] (sB H79) ?ho68K4n0 ?he68K4n0
      case ho68K4n0 => exact ak (fun _ => ⟨rfl, fun _ _ => rfl⟩) (ak (by refine fun γ => ⟨rfl, fun w' h => ?_⟩; clear h; go_simp; rw [IntKind.wrap_i64]; omega) trivial)
      intro γ w80 l hM hl
      have M80 : Mm w80 [(γ59_4, ac (X k)), (gm, [Value.slice q0.p q0.n q0.cp, Value.slice q1.p q1.n q1.cp]), (gh, [PT g0 0, PT g1 0]), (g0, hs true ((hq q0.f q0.n).s) ((hq q0.f q0.n).r) ((hq q0.f q0.n).c)), (g1, hs true ((hq q1.f q1.n).s) ((hq q1.f q1.n).r) ((hq q1.f q1.n).c)), (0, ints .u32 fT 8), (1, ints .u32 kT 64)] := H79.out.1.grow hM (Nat.le_refl _) hl [] rfl (by decide)
      have B80 : Sr w [gh, gm, g0, g1] q0 q1 w80 := Sr.step H79.out.2 (hM.below)
      clear hM hl l H79
      clear γ
      have H80 : Hid (_ ∧ _) := ⟨M80, B80⟩
      clear M80 B80
      refine rest_at (l := [2]) rfl ?_
      refine rest_set (d := 6) (v := .int .i64 ((k + 1 : Nat) : Int)) (w' := w80) rfl rfl rfl rfl ?_
      simp only [Act.put, sa, sz, ss]
      refine rest_nil (then_normal ?_)
      exact ⟨⟨k + 1, 0, g0, g1, q0, q1⟩, ⟨(slotfn [undef, undef, s0 2, undef, undef, undef, undef, PT γ59_4 0, s0 8, undef, undef, undef, undef, undef, undef, undef, .int .i64 ((k : Nat) : Int), .slice pl m c2, .int .i64 ((m : Nat) : Int), .bool true, .int .i64 ((k : Nat) : Int), .int .i64 ((k + 1 : Nat) : Int), .slice pl m c2, .int .i64 ((k : Nat) : Int), PT ga (oa + 2 * k), .agg (ac (X k)).toArray, PT γ59_4 1, .slice (X k).q.p (X k).q.n (X k).q.cp, .int .i64 (((X k).q.n : Nat) : Int), .bool false, .slice (some ⟨gh, 0, none⟩) 2 2, .int .i64 0, PT gh 0, PT g0 0, .bool false, PT γ59_4 0, Z8 ((X k).kd), .bool false, .bool false, s0 39, s0 40, s0 41, s0 42, s0 43, s0 44, s0 45, s0 46, s0 47, s0 48, s0 49, s0 50, s0 51, s0 52, s0 53, s0 54, s0 55, s0 56, s0 57, s0 58, s0 59, s0 60, s0 61, s0 62, s0 63, s0 64, s0 65, s0 66, s0 67, s0 68, .bool false, .bool false, s0 71, s0 72, s0 73, s0 74, s0 75, s0 76, s0 77, s0 78, s0 79, s0 80, s0 81, .bool false, .bool false, s0 84, s0 85, s0 86, s0 87, s0 88, s0 89, s0 90, s0 91, s0 92, s0 93, s0 94, s0 95, s0 96, s0 97, s0 98, s0 99, s0 100, s0 101, s0 102, .bool false, .bool false, s0 105, s0 106, .slice (some ⟨gh, 0, none⟩) 2 2, .int .i64 0, PT gh 0, PT g0 0, .bool false, .bool false, .slice (some ⟨gh, 0, none⟩) 2 2, .int .i64 0, PT gh 0, PT g0 0, .int .i64 ((q0.n : Nat) : Int), .slice (some ⟨gm, 0, none⟩) 2 2, .int .i64 0, PT gm 0, .slice q0.p q0.n q0.cp, .int .i64 ((q0.n : Nat) : Int), .bool false, .bool false]), rfl, ⟨H80.out.1.sel [1, 2, 3, 4, 5, 6] (by decide) rfl, H80.out.2.b⟩, ⟨by show k + 1 ≤ m; omega, by show 0 < 2; decide, by show q0.n ≤ 4000 * (k + 1); omega, by show q1.n ≤ 4000 * (k + 1); omega, hp0, hp1, o_g0.out, o_g1.out, H80.out.2.less (by simp)⟩⟩, by show m - (k + 1) < m - k; omega⟩
    · have hrd : True := trivial
      clear hrd
      refine wp_seq (wp_seq ?_)
      refine walk_seqA 4 [.quiet (.int .i64 ((k : Nat) : Int)), .quiet (.slice pl m c2), .quiet (.int .i64 ((m : Nat) : Int)), .quiet (.bool true)] (sB H10) ?ho69K0n1 ?he69K0n1
      case ho69K0n1 => exact ak (fun _ => ⟨rfl, fun _ _ => rfl⟩) (ak (fun _ => ⟨rfl, fun _ _ => rfl⟩) (ak (by refine fun γ => ⟨rfl, fun w' h => ?_⟩; clear h; go_simp) (ak (by refine fun γ => ⟨rfl, fun w' h => ?_⟩; clear h; go_simp <;> omega) trivial)))
      intro γ w81 l hM hl
      have M81 : Mm w81 [(gm, [Value.slice q0.p q0.n q0.cp, Value.slice q1.p q1.n q1.cp]), (gh, [PT g0 0, PT g1 0]), (g0, hs true ((hq q0.f q0.n).s) ((hq q0.f q0.n).r) ((hq q0.f q0.n).c)), (g1, hs true ((hq q1.f q1.n).s) ((hq q1.f q1.n).r) ((hq q1.f q1.n).c)), (0, ints .u32 fT 8), (1, ints .u32 kT 64)] := H10.out.1.grow hM (Nat.le_refl _) hl [] rfl (by decide)
      have B81 : Sr w [gh, gm, g0, g1] q0 q1 w81 := Sr.step H10.out.2 (hM.below)
      clear hM hl l H10
      clear γ
      have H81 : Hid (_ ∧ _) := ⟨M81, B81⟩
      clear M81 B81
      refine rest0 rfl (then_normal (wp_cond_true rfl ?_))
      refine wp_skip (then_normal ?_)
      refine wp_seq (wp_block (wp_seq ?_))
      refine (walk_seq) 6 [.quiet (.slice pl m c2), .quiet (.int .i64 ((k : Nat) : Int)), .quiet (PT ga (oa + 2 * k)), .quiet (.agg (ac (X k)).toArray), .made [Z8 0, .slice none 0 0] 45, .laid 4 [Z8 0, .slice none 0 0] (ac (X k))] (fun u' => Mm u' [(gm, [Value.slice q0.p q0.n q0.cp, Value.slice q1.p q1.n q1.cp]), (gh, [PT g0 0, PT g1 0]), (g0, hs true ((hq q0.f q0.n).s) ((hq q0.f q0.n).r) ((hq q0.f q0.n).c)), (g1, hs true ((hq q1.f q1.n).s) ((hq q1.f q1.n).r) ((hq q1.f q1.n).c)), (0, ints .u32 fT 8), (1, ints .u32 kT 64)] ∧ (q0.rs u' ∧ q1.rs u' ∧ Lc pl X m u')) ?pre70K0n1 ?F70K0n1 ?hpre70K0n1 (fun γ => ?hF70K0n1) (by kernel_rfl) ?hL70K0n1 ?hS70K0n1 ?ho70K0n1 ?he70K0n1
      case hpre70K0n1 => simp only [tk, tz]; rfl
      case hF70K0n1 => simp only [fill, Kind.val, Act.put, sa, sz, ss]; rfl
      case hL70K0n1 => exact ⟨⟨_, rfl⟩, trivial⟩
      case hS70K0n1 => exact fun w' hb => ⟨H81.out.1.below hb, ⟨(Sr.step H81.out.2 (hb)).r0, (Sr.step H81.out.2 (hb)).r1, LC.out.below (Sr.step H81.out.2 (hb)).b⟩⟩
      case ho70K0n1 =>
        refine ak (fun _ => ⟨rfl, fun _ _ => rfl⟩) ?_
        refine ak (fun _ => ⟨rfl, fun _ _ => rfl⟩) ?_
        refine ak (fun γ => ⟨rfl, fun w' _ => ex_ixP40 (j := k) E2.out rfl rfl rfl (by omega)⟩) ?_
        refine ak (fun γ => ⟨rfl, fun w' hX => ex_ld45 (j := k) hX.2.2.2 E2.out (by omega) rfl rfl⟩) ?_
        refine ak (fun γ => ⟨rfl, fun w' => ex_mk45 rfl⟩) ?_
        refine ak (fun γ => ⟨rfl, rfl, rfl, fun w' h => ex_laidT h rfl rfl Tryd.sizeOf45 rfl rfl rfl⟩) ?_
        exact trivial
      intro γ w82 l hM hl
      have M82 : Mm w82 [(γ 4, ac (X k)), (gm, [Value.slice q0.p q0.n q0.cp, Value.slice q1.p q1.n q1.cp]), (gh, [PT g0 0, PT g1 0]), (g0, hs true ((hq q0.f q0.n).s) ((hq q0.f q0.n).r) ((hq q0.f q0.n).c)), (g1, hs true ((hq q1.f q1.n).s) ((hq q1.f q1.n).r) ((hq q1.f q1.n).c)), (0, ints .u32 fT 8), (1, ints .u32 kT 64)] := H81.out.1.grow hM (Nat.le_refl _) hl [4] rfl (by decide)
      have B82 : Sr w [gh, gm, g0, g1] q0 q1 w82 := Sr.step H81.out.2 (hM.below)
      have o70_4 : Hid (w.heap.size ≤ γ 4) := Nat.le_trans H81.out.2.size (hM.fin (Nat.le_refl _) hl (i := 4) rfl).2.1
      clear hM hl l H81
      generalize γ 4 = γ70_4 at M82 o70_4 ⊢
      clear γ
      have H82 : Hid (_ ∧ _) := ⟨M82, B82⟩
      clear M82 B82
      refine rest0 rfl (then_normal (wp_seq (wp_seq ?_)))
      refine walk_seqA 4 [.quiet (PT γ70_4 1), .quiet (.slice (X k).q.p (X k).q.n (X k).q.cp), .quiet (.int .i64 (((X k).q.n : Nat) : Int)), .quiet (.bool false)] (sB H82) ?ho71K0n1 ?he71K0n1
      case ho71K0n1 => exact ak (by refine fun γ => ⟨rfl, fun w' h => ?_⟩; clear h; go_simp) (ak (fun γ => ⟨rfl, fun w' h => ex_loadC h 0 rfl rfl rfl Tryd.isAgg22 rfl⟩) (ak (by refine fun γ => ⟨rfl, fun w' h => ?_⟩; clear h; go_simp) (ak (by refine fun γ => ⟨rfl, fun w' h => ?_⟩; clear h; go_simp <;> omega) trivial)))
      intro γ w83 l hM hl
      have M83 : Mm w83 [(γ70_4, ac (X k)), (gm, [Value.slice q0.p q0.n q0.cp, Value.slice q1.p q1.n q1.cp]), (gh, [PT g0 0, PT g1 0]), (g0, hs true ((hq q0.f q0.n).s) ((hq q0.f q0.n).r) ((hq q0.f q0.n).c)), (g1, hs true ((hq q1.f q1.n).s) ((hq q1.f q1.n).r) ((hq q1.f q1.n).c)), (0, ints .u32 fT 8), (1, ints .u32 kT 64)] := H82.out.1.grow hM (Nat.le_refl _) hl [] rfl (by decide)
      have B83 : Sr w [gh, gm, g0, g1] q0 q1 w83 := Sr.step H82.out.2 (hM.below)
      clear hM hl l H82
      clear γ
      have H83 : Hid (_ ∧ _) := ⟨M83, B83⟩
      clear M83 B83
      refine rest0 rfl (then_normal (wp_cond_false rfl ?_))
      refine wp_skip (then_normal ?_)
      refine wp_seq (wp_seq ?_)
      refine walk_seqA 5 [.quiet (.slice (some ⟨gh, 0, none⟩) 2 2), .quiet (.int .i64 1), .quiet (PT gh 1), .quiet (PT g1 0), .quiet (.bool false)] (sB H83) ?ho72K0n1 ?he72K0n1
      case ho72K0n1 => exact ak (fun _ => ⟨rfl, fun _ _ => rfl⟩) (ak (fun _ => ⟨rfl, fun _ _ => rfl⟩) (ak (fun γ => ⟨rfl, fun w' _ => ex_ixP43 (j := 1) (off := 0) rfl rfl rfl rfl (by decide)⟩) (ak (fun γ => ⟨rfl, fun w' h => ex_loadC h 2 rfl rfl rfl Tryd.isAgg41 rfl⟩) (ak (by refine fun γ => ⟨rfl, fun w' h => ?_⟩; clear h; go_simp) trivial))))
      intro γ w84 l hM hl
      have M84 : Mm w84 [(γ70_4, ac (X k)), (gm, [Value.slice q0.p q0.n q0.cp, Value.slice q1.p q1.n q1.cp]), (gh, [PT g0 0, PT g1 0]), (g0, hs true ((hq q0.f q0.n).s) ((hq q0.f q0.n).r) ((hq q0.f q0.n).c)), (g1, hs true ((hq q1.f q1.n).s) ((hq q1.f q1.n).r) ((hq q1.f q1.n).c)), (0, ints .u32 fT 8), (1, ints .u32 kT 64)] := H83.out.1.grow hM (Nat.le_refl _) hl [] rfl (by decide)
      have B84 : Sr w [gh, gm, g0, g1] q0 q1 w84 := Sr.step H83.out.2 (hM.below)
      clear hM hl l H83
      clear γ
      have H84 : Hid (_ ∧ _) := ⟨M84, B84⟩
      clear M84 B84
      refine rest0 rfl (then_normal (wp_cond_false rfl ?_))
      refine wp_skip (then_normal ?_)
      refine wp_seq (wp_seq ?_)
      refine walk_seqA 2 [.quiet (PT γ70_4 0), .quiet (Z8 ((X k).kd))] (sB H84) ?ho73K0n1 ?he73K0n1
      case ho73K0n1 => exact ak (by refine fun γ => ⟨rfl, fun w' h => ?_⟩; clear h; go_simp) (ak (fun γ => ⟨rfl, fun w' h => ex_loadC h 0 rfl rfl rfl Tryd.isAgg5 rfl⟩) trivial)
      intro γ w85 l hM hl
      have M85 : Mm w85 [(γ70_4, ac (X k)), (gm, [Value.slice q0.p q0.n q0.cp, Value.slice q1.p q1.n q1.cp]), (gh, [PT g0 0, PT g1 0]), (g0, hs true ((hq q0.f q0.n).s) ((hq q0.f q0.n).r) ((hq q0.f q0.n).c)), (g1, hs true ((hq q1.f q1.n).s) ((hq q1.f q1.n).r) ((hq q1.f q1.n).c)), (0, ints .u32 fT 8), (1, ints .u32 kT 64)] := H84.out.1.grow hM (Nat.le_refl _) hl [] rfl (by decide)
      have B85 : Sr w [gh, gm, g0, g1] q0 q1 w85 := Sr.step H84.out.2 (hM.below)
      clear hM hl l H84
      clear γ
      have H85 : Hid (_ ∧ _) := ⟨M85, B85⟩
      clear M85 B85
      refine rest0 rfl (then_normal (wp_block (wp_seq ?_)))
      refine walk_seqA 2 [.quiet (.bool true), .quiet (.bool true)] (sB H85) ?ho74K0n1 ?he74K0n1
      case ho74K0n1 => exact ak (fun γ => ⟨rfl, fun w' _ => ex_eq8 (b := 0) (decide_eq_true (by omega)) rfl rfl rfl⟩) (ak (fun _ => ⟨rfl, fun _ _ => rfl⟩) trivial)
      intro γ w86 l hM hl
      have M86 : Mm w86 [(γ70_4, ac (X k)), (gm, [Value.slice q0.p q0.n q0.cp, Value.slice q1.p q1.n q1.cp]), (gh, [PT g0 0, PT g1 0]), (g0, hs true ((hq q0.f q0.n).s) ((hq q0.f q0.n).r) ((hq q0.f q0.n).c)), (g1, hs true ((hq q1.f q1.n).s) ((hq q1.f q1.n).r) ((hq q1.f q1.n).c)), (0, ints .u32 fT 8), (1, ints .u32 kT 64)] := H85.out.1.grow hM (Nat.le_refl _) hl [] rfl (by decide)
      have B86 : Sr w [gh, gm, g0, g1] q0 q1 w86 := Sr.step H85.out.2 (hM.below)
      clear hM hl l H85
      clear γ
      have H86 : Hid (_ ∧ _) := ⟨M86, B86⟩
      clear M86 B86
      refine rest0 rfl (then_normal (wp_cond_true rfl (wp_seq ?_)))
      refine (walk_seq) 3 [.quiet (PT γ70_4 1), .quiet (.slice (X k).q.p (X k).q.n (X k).q.cp), .born (fun g => .slice (some ⟨g, 0, none⟩) ((X k).q.n) ((X k).q.n + 3)) (ints .u8 (lf (X k).xs) ((X k).q.n + 3))] (fun u' => Mm u' [(γ70_4, ac (X k)), (gm, [Value.slice q0.p q0.n q0.cp, Value.slice q1.p q1.n q1.cp]), (gh, [PT g0 0, PT g1 0]), (g0, hs true ((hq q0.f q0.n).s) ((hq q0.f q0.n).r) ((hq q0.f q0.n).c)), (g1, hs true ((hq q1.f q1.n).s) ((hq q1.f q1.n).r) ((hq q1.f q1.n).c)), (0, ints .u32 fT 8), (1, ints .u32 kT 64)] ∧ (q0.rs u' ∧ q1.rs u' ∧ Lc pl X m u')) ?pre75K0n1 ?F75K0n1 ?hpre75K0n1 (fun γ => ?hF75K0n1) (by kernel_rfl) ?hL75K0n1 ?hS75K0n1 ?ho75K0n1 ?he75K0n1
      case hpre75K0n1 => simp only [tk, tz]; rfl
      case hF75K0n1 => simp only [fill, Kind.val, Act.put, sa, sz, ss]; rfl
      case hL75K0n1 => exact trivial
      case hS75K0n1 => exact fun w' hb => ⟨H86.out.1.below hb, ⟨(Sr.step H86.out.2 (hb)).r0, (Sr.step H86.out.2 (hb)).r1, LC.out.below (Sr.step H86.out.2 (hb)).b⟩⟩
      case ho75K0n1 =>
        refine ak (by refine fun γ => ⟨rfl, fun w' h => ?_⟩; clear h; go_simp) ?_
        refine ak (fun γ => ⟨rfl, fun w' hX => have h := hX.1; ex_loadC h 0 rfl rfl rfl Tryd.isAgg22 rfl⟩) ?_
        refine ak (fun γ => ⟨rfl, fun w' hX => ⟨13, #[.slice (X k).q.p (X k).q.n (X k).q.cp], exec_call rfl call13 rfl (mpn rfl), lent_part (hAr.out k hlt) (by omega) w' (hX.2.2.2 ga oa E2.out k hlt).2.2.2⟩⟩) ?_
        exact trivial
      intro γ w87 l hM hl
      have M87 : Mm w87 [(γ 2, ints .u8 (lf (X k).xs) ((X k).q.n + 3)), (γ70_4, ac (X k)), (gm, [Value.slice q0.p q0.n q0.cp, Value.slice q1.p q1.n q1.cp]), (gh, [PT g0 0, PT g1 0]), (g0, hs true ((hq q0.f q0.n).s) ((hq q0.f q0.n).r) ((hq q0.f q0.n).c)), (g1, hs true ((hq q1.f q1.n).s) ((hq q1.f q1.n).r) ((hq q1.f q1.n).c)), (0, ints .u32 fT 8), (1, ints .u32 kT 64)] := H86.out.1.grow hM (Nat.le_refl _) hl [2] rfl (by decide)
      have B87 : Sr w [gh, gm, g0, g1] q0 q1 w87 := Sr.step H86.out.2 (hM.below)
      have o75_2 : Hid (w.heap.size ≤ γ 2) := Nat.le_trans H86.out.2.size (hM.fin (Nat.le_refl _) hl (i := 2) rfl).2.1
      have og75_2 : Hid ((0 < q0.n → q0.gb < γ 2) ∧ (0 < q1.n → q1.gb < γ 2)) := ⟨fun hn => Nat.lt_of_lt_of_le (H86.out.2.r0.lt hn) (hM.fin (Nat.le_refl _) hl (i := 2) rfl).2.1, fun hn => Nat.lt_of_lt_of_le (H86.out.2.r1.lt hn) (hM.fin (Nat.le_refl _) hl (i := 2) rfl).2.1⟩
      clear hM hl l H86
      generalize γ 2 = γ75_2 at M87 o75_2 og75_2 ⊢
      clear γ
      have H87 : Hid (_ ∧ _) := ⟨M87, B87⟩
      clear M87 B87
      refine rest_at (l := [3]) rfl ?_
      refine rest_set (d := 8) (v := .slice (some ⟨γ75_2, 0, none⟩) ((X k).q.n) ((X k).q.n + 3)) (w' := w87) rfl rfl rfl rfl ?_
      simp only [Act.put, sa, sz, ss]
      refine rest_nil ?_
      have H88 : Hid (Mm w87 [(γ75_2, ints .u8 (lf (X k).xs) ((X k).q.n + 3)), (γ70_4, ac (X k)), (gm, [Value.slice q0.p q0.n q0.cp, Value.slice q1.p q1.n q1.cp]), (gh, [PT g0 0, PT g1 0]), (g0, hs true ((hq q0.f q0.n).s) ((hq q0.f q0.n).r) ((hq q0.f q0.n).c)), (g1, hs true ((hq q1.f q1.n).s) ((hq q1.f q1.n).r) ((hq q1.f q1.n).c)), (0, ints .u32 fT 8), (1, ints .u32 kT 64)] ∧ Sr w [γ75_2, gh, gm, g0, g1] q0 q1 w87) := ⟨H87.out.1, H87.out.2.more og75_2.out.1 og75_2.out.2⟩
      clear  H87
      refine then_normal (wp_seq (wp_seq ?_))
      refine walk_seqA 5 [.quiet (.slice (some ⟨gh, 0, none⟩) 2 2), .quiet (.int .i64 1), .quiet (PT gh 1), .quiet (PT g1 0), .quiet (.slice (some ⟨γ75_2, 0, none⟩) ((X k).q.n) ((X k).q.n + 3))] (sB H88) ?ho76K0n1 ?he76K0n1
      case ho76K0n1 => exact ak (fun _ => ⟨rfl, fun _ _ => rfl⟩) (ak (fun _ => ⟨rfl, fun _ _ => rfl⟩) (ak (fun γ => ⟨rfl, fun w' _ => ex_ixP43 (j := 1) (off := 0) rfl rfl rfl rfl (by decide)⟩) (ak (fun γ => ⟨rfl, fun w' h => ex_loadC h 3 rfl rfl rfl Tryd.isAgg41 rfl⟩) (ak (fun _ => ⟨rfl, fun _ _ => rfl⟩) trivial))))
      intro γ w89 l hM hl
      have M89 : Mm w89 [(γ75_2, ints .u8 (lf (X k).xs) ((X k).q.n + 3)), (γ70_4, ac (X k)), (gm, [Value.slice q0.p q0.n q0.cp, Value.slice q1.p q1.n q1.cp]), (gh, [PT g0 0, PT g1 0]), (g0, hs true ((hq q0.f q0.n).s) ((hq q0.f q0.n).r) ((hq q0.f q0.n).c)), (g1, hs true ((hq q1.f q1.n).s) ((hq q1.f q1.n).r) ((hq q1.f q1.n).c)), (0, ints .u32 fT 8), (1, ints .u32 kT 64)] := H88.out.1.grow hM (Nat.le_refl _) hl [] rfl (by decide)
      have B89 : Sr w [γ75_2, gh, gm, g0, g1] q0 q1 w89 := Sr.step H88.out.2 (hM.below)
      clear hM hl l H88
      clear γ
      have H89 : Hid (_ ∧ _) := ⟨M89, B89⟩
      clear M89 B89
      refine rest_at (l := [5, 6, 7, 8, 9, 10, 11, 12, 13]) rfl ?_
      refine rest_enter (d := 47) (R := fun vv w' => vv = .int .i64 0 ∧ Mm w' [(g1, hs true ((hq (ct q1.f q1.n (lf (X k).xs)) (q1.n + (X k).q.n)).s) ((hq (ct q1.f q1.n (lf (X k).xs)) (q1.n + (X k).q.n)).r) ((hq (ct q1.f q1.n (lf (X k).xs)) (q1.n + (X k).q.n)).c))] ∧ Kp g1 w89 w') rfl rfl rfl (exec_call (args := #[PT g1 0, .slice (some ⟨γ75_2, 0, none⟩) ((X k).q.n) ((X k).q.n + 3)]) rfl call26 rfl (mpn rfl)) (Calls.mono (Write_hq g1 γ75_2 (X k).q.n ((X k).q.n + 3) q1 (lf (X k).xs) (Nat.le_add_right _ _) (by omega) w89 (H89.out.1.two 5 7 rfl rfl (by decide)) (H89.out.1.src 5 0 rfl rfl (by decide) (Nat.le_add_right _ _))) (fun e w2 hh => ⟨_, hh.1, rfl, hh.2⟩)) ?_
      rintro _ w90 ⟨rfl, hn, hp⟩
      have H90 : Hid (Mm w90 [(γ75_2, ints .u8 (lf (X k).xs) ((X k).q.n + 3)), (γ70_4, ac (X k)), (gm, [Value.slice q0.p q0.n q0.cp, Value.slice q1.p q1.n q1.cp]), (gh, [PT g0 0, PT g1 0]), (g0, hs true ((hq q0.f q0.n).s) ((hq q0.f q0.n).r) ((hq q0.f q0.n).c)), (g1, hs true ((hq (ct q1.f q1.n (lf (X k).xs)) (q1.n + (X k).q.n)).s) ((hq (ct q1.f q1.n (lf (X k).xs)) (q1.n + (X k).q.n)).r) ((hq (ct q1.f q1.n (lf (X k).xs)) (q1.n + (X k).q.n)).c)), (0, ints .u32 fT 8), (1, ints .u32 kT 64)] ∧ Sr w [γ75_2, gh, gm, g0, g1] q0 q1 w90) := ⟨H89.out.1.change 5 rfl hp hn, H89.out.2.kp hp (by simp) o_g1.out⟩
      clear hn hp H89
      simp only [Act.put, sa, sz, ss]
      refine rest_set (d := 48) (v := .bool false) (w' := w90) rfl rfl rfl (by go_simp) ?_
      simp only [Act.put, sa, sz, ss]
      refine rest_set (d := 49) (v := .bool false) (w' := w90) rfl rfl rfl rfl ?_
      simp only [Act.put, sa, sz, ss]
      refine rest_set (d := 50) (v := .slice (some ⟨γ75_2, 0, none⟩) ((X k).q.n) ((X k).q.n + 3)) (w' := w90) rfl rfl rfl rfl ?_
      simp only [Act.put, sa, sz, ss]
      refine rest_set (d := 51) (v := PT γ70_4 1) (w' := w90) rfl rfl rfl (by go_simp) ?_
      simp only [Act.put, sa, sz, ss]
      refine rest_set (d := 52) (v := .slice (X k).q.p (X k).q.n (X k).q.cp) (w' := w90) rfl rfl rfl (ex_loadC H90.out.1 1 rfl rfl rfl Tryd.isAgg22 rfl) ?_
      simp only [Act.put, sa, sz, ss]
      refine rest_enter (d := 53) (R := fun vv w' => vv = .bool true ∧ Below w90.heap.size w90 w') rfl rfl rfl (exec_call (args := #[.slice (some ⟨γ75_2, 0, none⟩) ((X k).q.n) ((X k).q.n + 3), .slice (X k).q.p (X k).q.n (X k).q.cp]) rfl call16 rfl (mpn rfl)) (Calls.mono (kept_part (hAr.out k hlt) (by omega) H90.out.1 0 rfl ((LC.out.below H90.out.2.b) ga oa E2.out k hlt).2.2.2) (fun e w2 hh => ⟨_, hh.1, rfl, hh.2⟩)) ?_
      rintro _ w91 ⟨rfl, hb⟩
      have H91 : Hid (_ ∧ _) := ⟨H90.out.1.below hb, Sr.step H90.out.2 (hb)⟩
      clear hb H90
      simp only [Act.put, sa, sz, ss]
      refine rest_set (d := 54) (v := .bool false) (w' := w91) rfl rfl rfl (by go_simp) ?_
      simp only [Act.put, sa, sz, ss]
      refine rest_set (d := 55) (v := .bool false) (w' := w91) rfl rfl rfl (by go_simp) ?_
      simp only [Act.put, sa, sz, ss]
      refine rest_nil (then_normal ?_)
      refine wp_cond_false rfl (wp_skip ?_)
      refine then_normal (wp_seq ?_)
      refine walk_seqA 1 [.quiet (.slice (some ⟨γ75_2, 0, none⟩) ((X k).q.n) ((X k).q.n + 3))] (sB H91) ?ho77K0n1 ?he77K0n1
      case ho77K0n1 => exact ak (fun _ => ⟨rfl, fun _ _ => rfl⟩) trivial
      intro γ w92 l hM hl
      have M92 : Mm w92 [(γ75_2, ints .u8 (lf (X k).xs) ((X k).q.n + 3)), (γ70_4, ac (X k)), (gm, [Value.slice q0.p q0.n q0.cp, Value.slice q1.p q1.n q1.cp]), (gh, [PT g0 0, PT g1 0]), (g0, hs true ((hq q0.f q0.n).s) ((hq q0.f q0.n).r) ((hq q0.f q0.n).c)), (g1, hs true ((hq (ct q1.f q1.n (lf (X k).xs)) (q1.n + (X k).q.n)).s) ((hq (ct q1.f q1.n (lf (X k).xs)) (q1.n + (X k).q.n)).r) ((hq (ct q1.f q1.n (lf (X k).xs)) (q1.n + (X k).q.n)).c)), (0, ints .u32 fT 8), (1, ints .u32 kT 64)] := H91.out.1.grow hM (Nat.le_refl _) hl [] rfl (by decide)
      have B92 : Sr w [γ75_2, gh, gm, g0, g1] q0 q1 w92 := Sr.step H91.out.2 (hM.below)
      clear hM hl l H91
      clear γ
      have H92 : Hid (_ ∧ _) := ⟨M92, B92⟩
      clear M92 B92
      refine rest_at (l := [1]) rfl ?_
      refine rest_enter (d := 57) (R := fun vv w' => vv = .tuple #[] ∧ Mm w' [(γ75_2, ints .u8 (mk8 (lf (X k).xs) 90) ((X k).q.n + 3))] ∧ Kp γ75_2 w92 w') rfl rfl rfl (exec_call (args := #[.slice (some ⟨γ75_2, 0, none⟩) ((X k).q.n) ((X k).q.n + 3)]) rfl call27 rfl (mpn rfl)) (Calls.mono (Over_kp γ75_2 (X k).q.n ((X k).q.n + 3) (lf (X k).xs) (by omega) w92 (H92.out.1.one 0 rfl)) (fun e w2 hh => ⟨_, hh.1, rfl, hh.2⟩)) ?_
      rintro _ w93 ⟨rfl, hn, hp⟩
      have H93 : Hid (Mm w93 [(γ75_2, ints .u8 (mk8 (lf (X k).xs) 90) ((X k).q.n + 3)), (γ70_4, ac (X k)), (gm, [Value.slice q0.p q0.n q0.cp, Value.slice q1.p q1.n q1.cp]), (gh, [PT g0 0, PT g1 0]), (g0, hs true ((hq q0.f q0.n).s) ((hq q0.f q0.n).r) ((hq q0.f q0.n).c)), (g1, hs true ((hq (ct q1.f q1.n (lf (X k).xs)) (q1.n + (X k).q.n)).s) ((hq (ct q1.f q1.n (lf (X k).xs)) (q1.n + (X k).q.n)).r) ((hq (ct q1.f q1.n (lf (X k).xs)) (q1.n + (X k).q.n)).c)), (0, ints .u32 fT 8), (1, ints .u32 kT 64)] ∧ Sr w [γ75_2, gh, gm, g0, g1] q0 q1 w93) := ⟨H92.out.1.change 0 rfl hp hn, H92.out.2.kp hp (by simp) o75_2.out⟩
      clear hn hp H92
      simp only [Act.put, sa, sz, ss]
      refine rest_nil (then_normal ?_)
      refine walk_value (by kernel_rfl) 9 [0, 1] [.quiet (.slice (some ⟨gm, 0, none⟩) 2 2), .quiet (.int .i64 1), .quiet (.slice (some ⟨gm, 0, none⟩) 2 2), .quiet (.int .i64 1), .quiet (PT gm 1), .quiet (.slice q1.p q1.n q1.cp), .ownX (fun g x y => .slice (some ⟨g, 0, none⟩) q1.n (q1.n + x)) (ints .u8 q1.f q1.n) (Eo q1.n q1.f), .quiet (PT γ70_4 1), .quiet (.slice (X k).q.p (X k).q.n (X k).q.cp)] (fun u' => Mm u' [(γ75_2, ints .u8 (mk8 (lf (X k).xs) 90) ((X k).q.n + 3)), (γ70_4, ac (X k)), (gm, [Value.slice q0.p q0.n q0.cp, Value.slice q1.p q1.n q1.cp]), (gh, [PT g0 0, PT g1 0]), (g0, hs true ((hq q0.f q0.n).s) ((hq q0.f q0.n).r) ((hq q0.f q0.n).c)), (g1, hs true ((hq (ct q1.f q1.n (lf (X k).xs)) (q1.n + (X k).q.n)).s) ((hq (ct q1.f q1.n (lf (X k).xs)) (q1.n + (X k).q.n)).r) ((hq (ct q1.f q1.n (lf (X k).xs)) (q1.n + (X k).q.n)).c)), (0, ints .u32 fT 8), (1, ints .u32 kT 64)] ∧ (q0.rs u' ∧ q1.rs u' ∧ Lc pl X m u')) ?pre78K0n1 ?F78K0n1 ?G78K0n1 _ 67 ?hpre78K0n1 (fun γ => ?hF78K0n1) (fun v γ => ?hG78K0n1) (by kernel_rfl) rfl ?hL78K0n1 ?hS78K0n1 ?ho78K0n1 (fun v => ?hla78K0n1) ?he78K0n1
      case hpre78K0n1 => simp only [tk, tz]; rfl
      case hF78K0n1 => simp only [fill, Kind.val, Act.put, sa, sz, ss]; rfl
      case hG78K0n1 => simp only [fill, Kind.val, Act.put, sa, sz, ss]; rfl
      case hL78K0n1 => exact trivial
      case hS78K0n1 => exact fun w' hb => ⟨H93.out.1.below hb, ⟨(Sr.step H93.out.2 (hb)).r0, (Sr.step H93.out.2 (hb)).r1, LC.out.below (Sr.step H93.out.2 (hb)).b⟩⟩
      case ho78K0n1 =>
        refine ak (fun _ => ⟨rfl, fun _ _ => rfl⟩) ?_
        refine ak (fun _ => ⟨rfl, fun _ _ => rfl⟩) ?_
        refine ak (fun _ => ⟨rfl, fun _ _ => rfl⟩) ?_
        refine ak (fun _ => ⟨rfl, fun _ _ => rfl⟩) ?_
        refine ak (fun γ => ⟨rfl, fun w' _ => ex_ixP29 (j := 1) (off := 0) rfl rfl rfl rfl (by decide)⟩) ?_
        refine ak (fun γ => ⟨rfl, fun w' hX => have h := hX.1; ex_loadC h 2 rfl rfl rfl Tryd.isAgg22 rfl⟩) ?_
        refine ak (fun γ => ⟨rfl, fun w' hX => ⟨28, #[.slice q1.p q1.n q1.cp], exec_call rfl call28 rfl (mpn rfl), copy_own q1 hp1.ok hp1.nn (by omega) w' hX.2.2.1⟩⟩) ?_
        refine ak (by refine fun γ => ⟨rfl, fun w' h => ?_⟩; clear h; go_simp) ?_
        refine ak (fun γ => ⟨rfl, fun w' hX => have h := hX.1; ex_loadC h 1 rfl rfl rfl Tryd.isAgg22 rfl⟩) ?_
        exact trivial
      case hla78K0n1 => exact ⟨⟨_, _, rfl, rfl, fun γ => ⟨rfl, fun w' => rfl⟩⟩, ⟨_, _, rfl, rfl, fun γ => ⟨rfl, fun w' => rfl⟩⟩, trivial⟩
      intro γ w94 l hM hl
      have M94 : Mm w94 [(γ 6, ints .u8 q1.f q1.n), (γ75_2, ints .u8 (mk8 (lf (X k).xs) 90) ((X k).q.n + 3)), (γ70_4, ac (X k)), (gm, [Value.slice q0.p q0.n q0.cp, Value.slice q1.p q1.n q1.cp]), (gh, [PT g0 0, PT g1 0]), (g0, hs true ((hq q0.f q0.n).s) ((hq q0.f q0.n).r) ((hq q0.f q0.n).c)), (g1, hs true ((hq (ct q1.f q1.n (lf (X k).xs)) (q1.n + (X k).q.n)).s) ((hq (ct q1.f q1.n (lf (X k).xs)) (q1.n + (X k).q.n)).r) ((hq (ct q1.f q1.n (lf (X k).xs)) (q1.n + (X k).q.n)).c)), (0, ints .u32 fT 8), (1, ints .u32 kT 64)] := H93.out.1.grow hM (Nat.le_refl _) hl [6] rfl (by decide)
      have B94 : Sr w [γ75_2, gh, gm, g0, g1] q0 q1 w94 := Sr.step H93.out.2 (hM.below)
      have o78_6 : Hid (w.heap.size ≤ γ 6) := Nat.le_trans H93.out.2.size (hM.fin (Nat.le_refl _) hl (i := 6) rfl).2.1
      have oo78_6 : Hid (∃ o, w94.heap[γ 6]? = some o ∧ (Eo q1.n q1.f) o (γ 65542)) := hM.owns 6 _ _ _ rfl (hl 6 (by decide))
      have og78_6 : Hid ((0 < q0.n → q0.gb < γ 6) ∧ (0 < q1.n → q1.gb < γ 6)) := ⟨fun hn => Nat.lt_of_lt_of_le (H93.out.2.r0.lt hn) (hM.fin (Nat.le_refl _) hl (i := 6) rfl).2.1, fun hn => Nat.lt_of_lt_of_le (H93.out.2.r1.lt hn) (hM.fin (Nat.le_refl _) hl (i := 6) rfl).2.1⟩
      clear hM hl l H93
      generalize γ 6 = γ78_6 at M94 o78_6 og78_6 oo78_6 ⊢
      generalize γ 65542 = γ78_65542 at oo78_6 ⊢
      clear γ
      have H94 : Hid (_ ∧ _) := ⟨M94, B94⟩
      clear M94 B94
      have hown := Eo.own (B := w.heap.size) oo78_6.out o78_6.out
      obtain ⟨vq, w95, hr, h2, h3, h5⟩ := own_appQ hown H94.out.2.size (hAr.out k hlt).ok (hAr.out k hlt).nn ((LC.out.below H94.out.2.b) ga oa E2.out k hlt).2.2.2.2 (by omega) 22
      refine ⟨vq, w95, ex_app rfl rfl rfl hr, ?_⟩
      obtain ⟨nq, hnv, hnok, hnN, hnn, hnf, hnr, hnb⟩ := own_part h2
      subst hnv
      have hap : 0 < nq.n → nq.gb ∉ [γ75_2, γ70_4, gm, gh, g0, g1, 0, 1] := fun hn => new_apart H94.out.1 h5 (hnb hn)
      have hkp := ((H94.out.2.more og78_6.out.1 og78_6.out.2).kp (grown_kp h3) (by simp) o78_6.out)
      have hM := H94.out.1.grown h3
      have H95 : Hid (Mm w95 [(γ75_2, ints .u8 (mk8 (lf (X k).xs) 90) ((X k).q.n + 3)), (γ70_4, ac (X k)), (gm, [Value.slice q0.p q0.n q0.cp, Value.slice q1.p q1.n q1.cp]), (gh, [PT g0 0, PT g1 0]), (g0, hs true ((hq q0.f q0.n).s) ((hq q0.f q0.n).r) ((hq q0.f q0.n).c)), (g1, hs true ((hq nq.f nq.n).s) ((hq nq.f nq.n).r) ((hq nq.f nq.n).c)), (0, ints .u32 fT 8), (1, ints .u32 kT 64)] ∧ Sr w [γ75_2, gh, gm, g0, g1] q0 nq w95) := ⟨by rw [hnf, hnn, (hAr.out k hlt).f]; exact hM, hkp.b, hkp.r0, hnr, fun hn hm => hkp.a0 hn (List.mem_cons_of_mem _ hm), (fun hn hm => hap hn (by simp at hm ⊢; rcases hm with hm | hm | hm | hm | hm <;> simp [hm]))⟩
      have NQ : Hid (Mk nq ∧ nq.n = q1.n + (X k).q.n) := ⟨⟨hnok, hnN, by rw [hnf]; exact ct_lt hp1.lt (by rw [(hAr.out k hlt).f]; exact lf_lt (hAr.out k hlt).by_)⟩, hnn⟩
      clear hown hr h2 h3 h5 hnok hnN hnf hnr hnb hap hkp hM H94
      refine rest_at (l := [10, 11]) rfl ?_
      refine rest_set (d := 68) (v := PT gm 1) (w' := w95) rfl rfl rfl (ex_ixP29 (j := 1) (off := 0) rfl rfl rfl rfl (by decide)) ?_
      simp only [Act.put, sa, sz, ss]
      refine rest_store rfl rfl rfl (ex_storeS H95.out.1 2 rfl rfl rfl rfl (show 1 < 2 by decide)) ?_
      have H96 : Hid (Mm (w95.setCells gm 1 [Value.slice nq.p nq.n nq.cp]) [(γ75_2, ints .u8 (mk8 (lf (X k).xs) 90) ((X k).q.n + 3)), (γ70_4, ac (X k)), (gm, [Value.slice q0.p q0.n q0.cp, Value.slice nq.p nq.n nq.cp]), (gh, [PT g0 0, PT g1 0]), (g0, hs true ((hq q0.f q0.n).s) ((hq q0.f q0.n).r) ((hq q0.f q0.n).c)), (g1, hs true ((hq nq.f nq.n).s) ((hq nq.f nq.n).r) ((hq nq.f nq.n).c)), (0, ints .u32 fT 8), (1, ints .u32 kT 64)] ∧ Sr w [γ75_2, gh, gm, g0, g1] q0 nq (w95.setCells gm 1 [Value.slice nq.p nq.n nq.cp])) := ⟨H95.out.1.put 2 (off := 1) (vs := [Value.slice nq.p nq.n nq.cp]) rfl (show 1 + 1 ≤ 2 by decide), H95.out.2.put (by simp) o_gm.out⟩
      clear H95
      generalize hgw : World.setCells _ _ _ _ = w96 at H96 ⊢
      clear hgw
      refine rest_nil (block_normal ?_)
      refine then_normal (wp_seq ?_)
      refine walk_anyA 18 [.quiet (.slice (some ⟨gh, 0, none⟩) 2 2), .quiet (.int .i64 1), .quiet (PT gh 1), .quiet (PT g1 0), .quiet (.bool false), .quiet (.bool false), .quiet (.slice (some ⟨gh, 0, none⟩) 2 2), .quiet (.int .i64 1), .quiet (PT gh 1), .quiet (PT g1 0), .call (.int .i64 ((nq.n : Nat) : Int)), .quiet (.slice (some ⟨gm, 0, none⟩) 2 2), .quiet (.int .i64 1), .quiet (PT gm 1), .quiet (.slice nq.p nq.n nq.cp), .quiet (.int .i64 ((nq.n : Nat) : Int)), .quiet (.bool false), .quiet (.bool false)] (sB H96) ?ho79K0n1 ?he79K0n1
      case ho79K0n1 => exact ak (fun _ => ⟨rfl, fun _ _ => rfl⟩) (ak (fun _ => ⟨rfl, fun _ _ => rfl⟩) (ak (fun γ => ⟨rfl, fun w' _ => ex_ixP43 (j := 1) (off := 0) rfl rfl rfl rfl (by decide)⟩) (ak (fun γ => ⟨rfl, fun w' h => ex_loadC h 3 rfl rfl rfl Tryd.isAgg41 rfl⟩) (ak (by refine fun γ => ⟨rfl, fun w' h => ?_⟩; clear h; go_simp) (ak (fun _ => ⟨rfl, fun _ _ => rfl⟩) (ak (fun _ => ⟨rfl, fun _ _ => rfl⟩) (ak (fun _ => ⟨rfl, fun _ _ => rfl⟩) (ak (fun γ => ⟨rfl, fun w' _ => ex_ixP43 (j := 1) (off := 0) rfl rfl rfl rfl (by decide)⟩) (ak (fun γ => ⟨rfl, fun w' h => ex_loadC h 3 rfl rfl rfl Tryd.isAgg41 rfl⟩) (ak (fun γ => ⟨rfl, fun w' h => ⟨31, #[PT g1 0], exec_call rfl call31 rfl (mpn rfl), Len_hq g1 nq (by have := NQ.out.2; omega) w' (h.one 5 rfl)⟩⟩) (ak (fun _ => ⟨rfl, fun _ _ => rfl⟩) (ak (fun _ => ⟨rfl, fun _ _ => rfl⟩) (ak (fun γ => ⟨rfl, fun w' _ => ex_ixP29 (j := 1) (off := 0) rfl rfl rfl rfl (by decide)⟩) (ak (fun γ => ⟨rfl, fun w' h => ex_loadC h 2 rfl rfl rfl Tryd.isAgg22 rfl⟩) (ak (by refine fun γ => ⟨rfl, fun w' h => ?_⟩; clear h; go_simp) (ak (by refine fun γ => ⟨rfl, fun w' h => ?_⟩; clear h; go_simp <;> omega) (ak (by refine fun γ => ⟨rfl, fun w' h => ?_⟩; clear h; go_simp) trivial)))))))))))))))))
      intro γ w97 l hM hl
      have M97 : Mm w97 [(γ75_2, ints .u8 (mk8 (lf (X k).xs) 90) ((X k).q.n + 3)), (γ70_4, ac (X k)), (gm, [Value.slice q0.p q0.n q0.cp, Value.slice nq.p nq.n nq.cp]), (gh, [PT g0 0, PT g1 0]), (g0, hs true ((hq q0.f q0.n).s) ((hq q0.f q0.n).r) ((hq q0.f q0.n).c)), (g1, hs true ((hq nq.f nq.n).s) ((hq nq.f nq.n).r) ((hq nq.f nq.n).c)), (0, ints .u32 fT 8), (1, ints .u32 kT 64)] := H96.out.1.grow hM (Nat.le_refl _) hl [] rfl (by decide)
      have B97 : Sr w [γ75_2, gh, gm, g0, g1] q0 nq w97 := Sr.step H96.out.2 (hM.below)
      clear hM hl l H96
      clear γ
      have H97 : Hid (_ ∧ _) := ⟨M97, B97⟩
      clear M97 B97
      refine rest0 rfl (then_normal (wp_cond_false rfl ?_))
      refine wp_skip (block_normal (then_normal ?_))
      refine walk_seqA 2 [.quiet (.int .i64 ((k : Nat) : Int)), .quiet (.int .i64 ((k + 1 : Nat) : Int))] (sB H97) ?ho80K0n1 ?he80K0n1
      case ho80K0n1 => exact ak (fun _ => ⟨rfl, fun _ _ => rfl⟩) (ak (by refine fun γ => ⟨rfl, fun w' h => ?_⟩; clear h; go_simp; rw [IntKind.wrap_i64]; omega) trivial)
      intro γ w98 l hM hl
      have M98 : Mm w98 [(γ75_2, ints .u8 (mk8 (lf (X k).xs) 90) ((X k).q.n + 3)), (γ70_4, ac (X k)), (gm, [Value.slice q0.p q0.n q0.cp, Value.slice nq.p nq.n nq.cp]), (gh, [PT g0 0, PT g1 0]), (g0, hs true ((hq q0.f q0.n).s) ((hq q0.f q0.n).r) ((hq q0.f q0.n).c)), (g1, hs true ((hq nq.f nq.n).s) ((hq nq.f nq.n).r) ((hq nq.f nq.n).c)), (0, ints .u32 fT 8), (1, ints .u32 kT 64)] := H97.out.1.grow hM (Nat.le_refl _) hl [] rfl (by decide)
      have B98 : Sr w [γ75_2, gh, gm, g0, g1] q0 nq w98 := Sr.step H97.out.2 (hM.below)
      clear hM hl l H97
      clear γ
      have H98 : Hid (_ ∧ _) := ⟨M98, B98⟩
      clear M98 B98
      refine rest_at (l := [2]) rfl ?_
      refine rest_set (d := 6) (v := .int .i64 ((k + 1 : Nat) : Int)) (w' := w98) rfl rfl rfl rfl ?_
      simp only [Act.put, sa, sz, ss]
      refine rest_nil (then_normal ?_)
      exact ⟨⟨k + 1, 1, g0, g1, q0, nq⟩, ⟨(slotfn [undef, undef, s0 2, undef, undef, undef, undef, PT γ70_4 0, .slice (some ⟨γ75_2, 0, none⟩) ((X k).q.n) ((X k).q.n + 3), undef, undef, undef, undef, undef, undef, undef, .int .i64 ((k : Nat) : Int), .slice pl m c2, .int .i64 ((m : Nat) : Int), .bool true, .int .i64 ((k : Nat) : Int), .int .i64 ((k + 1 : Nat) : Int), .slice pl m c2, .int .i64 ((k : Nat) : Int), PT ga (oa + 2 * k), .agg (ac (X k)).toArray, PT γ70_4 1, .slice (X k).q.p (X k).q.n (X k).q.cp, .int .i64 (((X k).q.n : Nat) : Int), .bool false, .slice (some ⟨gh, 0, none⟩) 2 2, .int .i64 1, PT gh 1, PT g1 0, .bool false, PT γ70_4 0, Z8 ((X k).kd), .bool true, .bool true, PT γ70_4 1, .slice (X k).q.p (X k).q.n (X k).q.cp, .slice (some ⟨γ75_2, 0, none⟩) ((X k).q.n) ((X k).q.n + 3), .slice (some ⟨gh, 0, none⟩) 2 2, .int .i64 1, PT gh 1, PT g1 0, .slice (some ⟨γ75_2, 0, none⟩) ((X k).q.n) ((X k).q.n + 3), .int .i64 0, .bool false, .bool false, .slice (some ⟨γ75_2, 0, none⟩) ((X k).q.n) ((X k).q.n + 3), PT γ70_4 1, .slice (X k).q.p (X k).q.n (X k).q.cp, .bool true, .bool false, .bool false, .slice (some ⟨γ75_2, 0, none⟩) ((X k).q.n) ((X k).q.n + 3), .tuple #[], .slice (some ⟨gm, 0, none⟩) 2 2, .int .i64 1, .slice (some ⟨gm, 0, none⟩) 2 2, .int .i64 1, PT gm 1, .slice q1.p q1.n q1.cp, .slice (some ⟨γ78_6, 0, none⟩) q1.n (q1.n + γ78_65542), PT γ70_4 1, .slice (X k).q.p (X k).q.n (X k).q.cp, .slice nq.p nq.n nq.cp, PT gm 1, s0 69, s0 70, s0 71, s0 72, s0 73, s0 74, s0 75, s0 76, s0 77, s0 78, s0 79, s0 80, s0 81, s0 82, s0 83, s0 84, s0 85, s0 86, s0 87, s0 88, s0 89, s0 90, s0 91, s0 92, s0 93, s0 94, s0 95, s0 96, s0 97, s0 98, s0 99, s0 100, s0 101, s0 102, s0 103, s0 104, s0 105, s0 106, .slice (some ⟨gh, 0, none⟩) 2 2, .int .i64 1, PT gh 1, PT g1 0, .bool false, .bool false, .slice (some ⟨gh, 0, none⟩) 2 2, .int .i64 1, PT gh 1, PT g1 0, .int .i64 ((nq.n : Nat) : Int), .slice (some ⟨gm, 0, none⟩) 2 2, .int .i64 1, PT gm 1, .slice nq.p nq.n nq.cp, .int .i64 ((nq.n : Nat) : Int), .bool false, .bool false]), rfl, ⟨H98.out.1.sel [2, 3, 4, 5, 6, 7] (by decide) rfl, H98.out.2.b⟩, ⟨by show k + 1 ≤ m; omega, by show 1 < 2; decide, by show q0.n ≤ 4000 * (k + 1); omega, by show nq.n ≤ 4000 * (k + 1); have := NQ.out.2; omega, hp0, NQ.out.1, o_g0.out, o_g1.out, H98.out.2.less (by simp)⟩⟩, by show m - (k + 1) < m - k; omega⟩
    · have hrd : True := trivial
      clear hrd
      refine wp_seq (wp_seq ?_)
      refine walk_seqA 4 [.quiet (.int .i64 ((k : Nat) : Int)), .quiet (.slice pl m c2), .quiet (.int .i64 ((m : Nat) : Int)), .quiet (.bool true)] (sB H10) ?ho81K1n1 ?he81K1n1
      case ho81K1n1 => exact ak (fun _ => ⟨rfl, fun _ _ => rfl⟩) (ak (fun _ => ⟨rfl, fun _ _ => rfl⟩) (ak (by refine fun γ => ⟨rfl, fun w' h => ?_⟩; clear h; go_simp) (ak (by refine fun γ => ⟨rfl, fun w' h => ?_⟩; clear h; go_simp <;> omega) trivial)))
      intro γ w99 l hM hl
      have M99 : Mm w99 [(gm, [Value.slice q0.p q0.n q0.cp, Value.slice q1.p q1.n q1.cp]), (gh, [PT g0 0, PT g1 0]), (g0, hs true ((hq q0.f q0.n).s) ((hq q0.f q0.n).r) ((hq q0.f q0.n).c)), (g1, hs true ((hq q1.f q1.n).s) ((hq q1.f q1.n).r) ((hq q1.f q1.n).c)), (0, ints .u32 fT 8), (1, ints .u32 kT 64)] := H10.out.1.grow hM (Nat.le_refl _) hl [] rfl (by decide)
      have B99 : Sr w [gh, gm, g0, g1] q0 q1 w99 := Sr.step H10.out.2 (hM.below)
      clear hM hl l H10
      clear γ
      have H99 : Hid (_ ∧ _) := ⟨M99, B99⟩
      clear M99 B99
      refine rest0 rfl (then_normal (wp_cond_true rfl ?_))
      refine wp_skip (then_normal ?_)
      refine wp_seq (wp_block (wp_seq ?_))
      refine (walk_seq) 6 [.quiet (.slice pl m c2), .quiet (.int .i64 ((k : Nat) : Int)), .quiet (PT ga (oa + 2 * k)), .quiet (.agg (ac (X k)).toArray), .made [Z8 0, .slice none 0 0] 45, .laid 4 [Z8 0, .slice none 0 0] (ac (X k))] (fun u' => Mm u' [(gm, [Value.slice q0.p q0.n q0.cp, Value.slice q1.p q1.n q1.cp]), (gh, [PT g0 0, PT g1 0]), (g0, hs true ((hq q0.f q0.n).s) ((hq q0.f q0.n).r) ((hq q0.f q0.n).c)), (g1, hs true ((hq q1.f q1.n).s) ((hq q1.f q1.n).r) ((hq q1.f q1.n).c)), (0, ints .u32 fT 8), (1, ints .u32 kT 64)] ∧ (q0.rs u' ∧ q1.rs u' ∧ Lc pl X m u')) ?pre82K1n1 ?F82K1n1 ?hpre82K1n1 (fun γ => ?hF82K1n1) (by kernel_rfl) ?hL82K1n1 ?hS82K1n1 ?ho82K1n1 ?he82K1n1
      case hpre82K1n1 => simp only [tk, tz]; rfl
      case hF82K1n1 => simp only [fill, Kind.val, Act.put, sa, sz, ss]; rfl
      case hL82K1n1 => exact ⟨⟨_, rfl⟩, trivial⟩
      case hS82K1n1 => exact fun w' hb => ⟨H99.out.1.below hb, ⟨(Sr.step H99.out.2 (hb)).r0, (Sr.step H99.out.2 (hb)).r1, LC.out.below (Sr.step H99.out.2 (hb)).b⟩⟩
      case ho82K1n1 =>
        refine ak (fun _ => ⟨rfl, fun _ _ => rfl⟩) ?_
        refine ak (fun _ => ⟨rfl, fun _ _ => rfl⟩) ?_
        refine ak (fun γ => ⟨rfl, fun w' _ => ex_ixP40 (j := k) E2.out rfl rfl rfl (by omega)⟩) ?_
        refine ak (fun γ => ⟨rfl, fun w' hX => ex_ld45 (j := k) hX.2.2.2 E2.out (by omega) rfl rfl⟩) ?_
        refine ak (fun γ => ⟨rfl, fun w' => ex_mk45 rfl⟩) ?_
        refine ak (fun γ => ⟨rfl, rfl, rfl, fun w' h => ex_laidT h rfl rfl Tryd.sizeOf45 rfl rfl rfl⟩) ?_
        exact trivial
      intro γ w100 l hM hl
      have M100 : Mm w100 [(γ 4, ac (X k)), (gm, [Value.slice q0.p q0.n q0.cp, Value.slice q1.p q1.n q1.cp]), (gh, [PT g0 0, PT g1 0]), (g0, hs true ((hq q0.f q0.n).s) ((hq q0.f q0.n).r) ((hq q0.f q0.n).c)), (g1, hs true ((hq q1.f q1.n).s) ((hq q1.f q1.n).r) ((hq q1.f q1.n).c)), (0, ints .u32 fT 8), (1, ints .u32 kT 64)] := H99.out.1.grow hM (Nat.le_refl _) hl [4] rfl (by decide)
      have B100 : Sr w [gh, gm, g0, g1] q0 q1 w100 := Sr.step H99.out.2 (hM.below)
      have o82_4 : Hid (w.heap.size ≤ γ 4) := Nat.le_trans H99.out.2.size (hM.fin (Nat.le_refl _) hl (i := 4) rfl).2.1
      clear hM hl l H99
      generalize γ 4 = γ82_4 at M100 o82_4 ⊢
      clear γ
      have H100 : Hid (_ ∧ _) := ⟨M100, B100⟩
      clear M100 B100
      refine rest0 rfl (then_normal (wp_seq (wp_seq ?_)))
      refine walk_seqA 4 [.quiet (PT γ82_4 1), .quiet (.slice (X k).q.p (X k).q.n (X k).q.cp), .quiet (.int .i64 (((X k).q.n : Nat) : Int)), .quiet (.bool false)] (sB H100) ?ho83K1n1 ?he83K1n1
      case ho83K1n1 => exact ak (by refine fun γ => ⟨rfl, fun w' h => ?_⟩; clear h; go_simp) (ak (fun γ => ⟨rfl, fun w' h => ex_loadC h 0 rfl rfl rfl Tryd.isAgg22 rfl⟩) (ak (by refine fun γ => ⟨rfl, fun w' h => ?_⟩; clear h; go_simp) (ak (by refine fun γ => ⟨rfl, fun w' h => ?_⟩; clear h; go_simp <;> omega) trivial)))
      intro γ w101 l hM hl
      have M101 : Mm w101 [(γ82_4, ac (X k)), (gm, [Value.slice q0.p q0.n q0.cp, Value.slice q1.p q1.n q1.cp]), (gh, [PT g0 0, PT g1 0]), (g0, hs true ((hq q0.f q0.n).s) ((hq q0.f q0.n).r) ((hq q0.f q0.n).c)), (g1, hs true ((hq q1.f q1.n).s) ((hq q1.f q1.n).r) ((hq q1.f q1.n).c)), (0, ints .u32 fT 8), (1, ints .u32 kT 64)] := H100.out.1.grow hM (Nat.le_refl _) hl [] rfl (by decide)
      have B101 : Sr w [gh, gm, g0, g1] q0 q1 w101 := Sr.step H100.out.2 (hM.below)
      clear hM hl l H100
      clear γ
      have H101 : Hid (_ ∧ _) := ⟨M101, B101⟩
      clear M101 B101
      refine rest0 rfl (then_normal (wp_cond_false rfl ?_))
      refine wp_skip (then_normal ?_)
      refine wp_seq (wp_seq ?_)
      refine walk_seqA 5 [.quiet (.slice (some ⟨gh, 0, none⟩) 2 2), .quiet (.int .i64 1), .quiet (PT gh 1), .quiet (PT g1 0), .quiet (.bool false)] (sB H101) ?ho84K1n1 ?he84K1n1
      case ho84K1n1 => exact ak (fun _ => ⟨rfl, fun _ _ => rfl⟩) (ak (fun _ => ⟨rfl, fun _ _ => rfl⟩) (ak (fun γ => ⟨rfl, fun w' _ => ex_ixP43 (j := 1) (off := 0) rfl rfl rfl rfl (by decide)⟩) (ak (fun γ => ⟨rfl, fun w' h => ex_loadC h 2 rfl rfl rfl Tryd.isAgg41 rfl⟩) (ak (by refine fun γ => ⟨rfl, fun w' h => ?_⟩; clear h; go_simp) trivial))))
      intro γ w102 l hM hl
      have M102 : Mm w102 [(γ82_4, ac (X k)), (gm, [Value.slice q0.p q0.n q0.cp, Value.slice q1.p q1.n q1.cp]), (gh, [PT g0 0, PT g1 0]), (g0, hs true ((hq q0.f q0.n).s) ((hq q0.f q0.n).r) ((hq q0.f q0.n).c)), (g1, hs true ((hq q1.f q1.n).s) ((hq q1.f q1.n).r) ((hq q1.f q1.n).c)), (0, ints .u32 fT 8), (1, ints .u32 kT 64)] := H101.out.1.grow hM (Nat.le_refl _) hl [] rfl (by decide)
      have B102 : Sr w [gh, gm, g0, g1] q0 q1 w102 := Sr.step H101.out.2 (hM.below)
      clear hM hl l H101
      clear γ
      have H102 : Hid (_ ∧ _) := ⟨M102, B102⟩
      clear M102 B102
      refine rest0 rfl (then_normal (wp_cond_false rfl ?_))
      refine wp_skip (then_normal ?_)
      refine wp_seq (wp_seq ?_)
      refine walk_seqA 2 [.quiet (PT γ82_4 0), .quiet (Z8 ((X k).kd))] (sB H102) ?ho85K1n1 ?he85K1n1
      case ho85K1n1 => exact ak (by refine fun γ => ⟨rfl, fun w' h => ?_⟩; clear h; go_simp) (ak (fun γ => ⟨rfl, fun w' h => ex_loadC h 0 rfl rfl rfl Tryd.isAgg5 rfl⟩) trivial)
      intro γ w103 l hM hl
      have M103 : Mm w103 [(γ82_4, ac (X k)), (gm, [Value.slice q0.p q0.n q0.cp, Value.slice q1.p q1.n q1.cp]), (gh, [PT g0 0, PT g1 0]), (g0, hs true ((hq q0.f q0.n).s) ((hq q0.f q0.n).r) ((hq q0.f q0.n).c)), (g1, hs true ((hq q1.f q1.n).s) ((hq q1.f q1.n).r) ((hq q1.f q1.n).c)), (0, ints .u32 fT 8), (1, ints .u32 kT 64)] := H102.out.1.grow hM (Nat.le_refl _) hl [] rfl (by decide)
      have B103 : Sr w [gh, gm, g0, g1] q0 q1 w103 := Sr.step H102.out.2 (hM.below)
      clear hM hl l H102
      clear γ
      have H103 : Hid (_ ∧ _) := ⟨M103, B103⟩
      clear M103 B103
      refine rest0 rfl (then_normal (wp_block (wp_seq ?_)))
      refine walk_seqA 2 [.quiet (.bool false), .quiet (.bool false)] (sB H103) ?ho86K1n1 ?he86K1n1
      case ho86K1n1 => exact ak (fun γ => ⟨rfl, fun w' _ => ex_eq8 (b := 0) (decide_eq_false (by omega)) rfl rfl rfl⟩) (ak (fun _ => ⟨rfl, fun _ _ => rfl⟩) trivial)
      intro γ w104 l hM hl
      have M104 : Mm w104 [(γ82_4, ac (X k)), (gm, [Value.slice q0.p q0.n q0.cp, Value.slice q1.p q1.n q1.cp]), (gh, [PT g0 0, PT g1 0]), (g0, hs true ((hq q0.f q0.n).s) ((hq q0.f q0.n).r) ((hq q0.f q0.n).c)), (g1, hs true ((hq q1.f q1.n).s) ((hq q1.f q1.n).r) ((hq q1.f q1.n).c)), (0, ints .u32 fT 8), (1, ints .u32 kT 64)] := H103.out.1.grow hM (Nat.le_refl _) hl [] rfl (by decide)
      have B104 : Sr w [gh, gm, g0, g1] q0 q1 w104 := Sr.step H103.out.2 (hM.below)
      clear hM hl l H103
      clear γ
      have H104 : Hid (_ ∧ _) := ⟨M104, B104⟩
      clear M104 B104
      refine rest0 rfl (then_normal (wp_cond_false rfl (wp_seq ?_)))
      refine walk_seqA 2 [.quiet (.bool true), .quiet (.bool true)] (sB H104) ?ho87K1n1 ?he87K1n1
      case ho87K1n1 => exact ak (fun γ => ⟨rfl, fun w' _ => ex_eq8 (b := 1) (decide_eq_true (by omega)) rfl rfl rfl⟩) (ak (fun _ => ⟨rfl, fun _ _ => rfl⟩) trivial)
      intro γ w105 l hM hl
      have M105 : Mm w105 [(γ82_4, ac (X k)), (gm, [Value.slice q0.p q0.n q0.cp, Value.slice q1.p q1.n q1.cp]), (gh, [PT g0 0, PT g1 0]), (g0, hs true ((hq q0.f q0.n).s) ((hq q0.f q0.n).r) ((hq q0.f q0.n).c)), (g1, hs true ((hq q1.f q1.n).s) ((hq q1.f q1.n).r) ((hq q1.f q1.n).c)), (0, ints .u32 fT 8), (1, ints .u32 kT 64)] := H104.out.1.grow hM (Nat.le_refl _) hl [] rfl (by decide)
      have B105 : Sr w [gh, gm, g0, g1] q0 q1 w105 := Sr.step H104.out.2 (hM.below)
      clear hM hl l H104
      clear γ
      have H105 : Hid (_ ∧ _) := ⟨M105, B105⟩
      clear M105 B105
      refine rest0 rfl (then_normal (wp_cond_true rfl (wp_seq ?_)))
      refine (walk_any) (by kernel_rfl) 11 [.quiet (.slice (some ⟨gh, 0, none⟩) 2 2), .quiet (.int .i64 1), .quiet (PT gh 1), .quiet (PT g1 0), .call (.agg (ints .u8 (dg0 q1.f q1.n) 32).toArray), .quiet (.slice (some ⟨gm, 0, none⟩) 2 2), .quiet (.int .i64 1), .quiet (PT gm 1), .quiet (.slice q1.p q1.n q1.cp), .call (.agg (ints .u8 (ds q1.f q1.n) 32).toArray), .quiet (.bool false)] (fun u' => Mm u' [(γ82_4, ac (X k)), (gm, [Value.slice q0.p q0.n q0.cp, Value.slice q1.p q1.n q1.cp]), (gh, [PT g0 0, PT g1 0]), (g0, hs true ((hq q0.f q0.n).s) ((hq q0.f q0.n).r) ((hq q0.f q0.n).c)), (g1, hs true ((hq q1.f q1.n).s) ((hq q1.f q1.n).r) ((hq q1.f q1.n).c)), (0, ints .u32 fT 8), (1, ints .u32 kT 64)] ∧ (q0.rs u' ∧ q1.rs u' ∧ Lc pl X m u')) ?pre88K1n1 ?F88K1n1 ?hpre88K1n1 (fun γ => ?hF88K1n1) (by kernel_rfl) ?hL88K1n1 ?hS88K1n1 ?ho88K1n1 ?he88K1n1
      case hpre88K1n1 => simp only [tk, tz]; rfl
      case hF88K1n1 => simp only [fill, Kind.val, Act.put, sa, sz, ss]; rfl
      case hL88K1n1 => exact trivial
      case hS88K1n1 => exact fun w' hb => ⟨H105.out.1.below hb, ⟨(Sr.step H105.out.2 (hb)).r0, (Sr.step H105.out.2 (hb)).r1, LC.out.below (Sr.step H105.out.2 (hb)).b⟩⟩
      case ho88K1n1 =>
        refine ak (fun _ => ⟨rfl, fun _ _ => rfl⟩) ?_
        refine ak (fun _ => ⟨rfl, fun _ _ => rfl⟩) ?_
        refine ak (fun γ => ⟨rfl, fun w' _ => ex_ixP43 (j := 1) (off := 0) rfl rfl rfl rfl (by decide)⟩) ?_
        refine ak (fun γ => ⟨rfl, fun w' hX => have h := hX.1; ex_loadC h 2 rfl rfl rfl Tryd.isAgg41 rfl⟩) ?_
        refine ak (fun γ => ⟨rfl, fun w' hX => have h := hX.1; ⟨29, #[PT g1 0], exec_call rfl call29 rfl (mpn rfl), HSum_ok g1 (hq q1.f q1.n) w' (h.two 4 6 rfl rfl (by decide))⟩⟩) ?_
        refine ak (fun _ => ⟨rfl, fun _ _ => rfl⟩) ?_
        refine ak (fun _ => ⟨rfl, fun _ _ => rfl⟩) ?_
        refine ak (fun γ => ⟨rfl, fun w' _ => ex_ixP29 (j := 1) (off := 0) rfl rfl rfl rfl (by decide)⟩) ?_
        refine ak (fun γ => ⟨rfl, fun w' hX => have h := hX.1; ex_loadC h 1 rfl rfl rfl Tryd.isAgg22 rfl⟩) ?_
        refine ak (fun γ => ⟨rfl, fun w' hX => ⟨15, #[.slice q1.p q1.n q1.cp], exec_call rfl call15 rfl (mpn rfl), dSum_any q1.f q1.n (by omega) _ w' (pt_doc hp1.ok hp1.nn hX.2.2.1)⟩⟩) ?_
        refine ak (fun γ => ⟨rfl, fun w' _ => ex_ne25 (all_of (dg0_ds _ hp1.lt _ (by omega))) rfl rfl rfl⟩) ?_
        exact trivial
      intro γ w106 l hM hl
      have M106 : Mm w106 [(γ82_4, ac (X k)), (gm, [Value.slice q0.p q0.n q0.cp, Value.slice q1.p q1.n q1.cp]), (gh, [PT g0 0, PT g1 0]), (g0, hs true ((hq q0.f q0.n).s) ((hq q0.f q0.n).r) ((hq q0.f q0.n).c)), (g1, hs true ((hq q1.f q1.n).s) ((hq q1.f q1.n).r) ((hq q1.f q1.n).c)), (0, ints .u32 fT 8), (1, ints .u32 kT 64)] := H105.out.1.grow hM (Nat.le_refl _) hl [] rfl (by decide)
      have B106 : Sr w [gh, gm, g0, g1] q0 q1 w106 := Sr.step H105.out.2 (hM.below)
      clear hM hl l H105
      clear γ
      have H106 : Hid (_ ∧ _) := ⟨M106, B106⟩
      clear M106 B106
      refine rest0 rfl (then_normal (wp_cond_false rfl ?_))
      refine wp_skip (block_normal ?_)
      refine then_normal (wp_seq ?_)
      refine walk_anyA 18 [.quiet (.slice (some ⟨gh, 0, none⟩) 2 2), .quiet (.int .i64 1), .quiet (PT gh 1), .quiet (PT g1 0), .quiet (.bool false), .quiet (.bool false), .quiet (.slice (some ⟨gh, 0, none⟩) 2 2), .quiet (.int .i64 1), .quiet (PT gh 1), .quiet (PT g1 0), .call (.int .i64 ((q1.n : Nat) : Int)), .quiet (.slice (some ⟨gm, 0, none⟩) 2 2), .quiet (.int .i64 1), .quiet (PT gm 1), .quiet (.slice q1.p q1.n q1.cp), .quiet (.int .i64 ((q1.n : Nat) : Int)), .quiet (.bool false), .quiet (.bool false)] (sB H106) ?ho89K1n1 ?he89K1n1
      case ho89K1n1 => exact ak (fun _ => ⟨rfl, fun _ _ => rfl⟩) (ak (fun _ => ⟨rfl, fun _ _ => rfl⟩) (ak (fun γ => ⟨rfl, fun w' _ => ex_ixP43 (j := 1) (off := 0) rfl rfl rfl rfl (by decide)⟩) (ak (fun γ => ⟨rfl, fun w' h => ex_loadC h 2 rfl rfl rfl Tryd.isAgg41 rfl⟩) (ak (by refine fun γ => ⟨rfl, fun w' h => ?_⟩; clear h; go_simp) (ak (fun _ => ⟨rfl, fun _ _ => rfl⟩) (ak (fun _ => ⟨rfl, fun _ _ => rfl⟩) (ak (fun _ => ⟨rfl, fun _ _ => rfl⟩) (ak (fun γ => ⟨rfl, fun w' _ => ex_ixP43 (j := 1) (off := 0) rfl rfl rfl rfl (by decide)⟩) (ak (fun γ => ⟨rfl, fun w' h => ex_loadC h 2 rfl rfl rfl Tryd.isAgg41 rfl⟩) (ak (fun γ => ⟨rfl, fun w' h => ⟨31, #[PT g1 0], exec_call rfl call31 rfl (mpn rfl), Len_hq g1 q1 (by omega) w' (h.one 4 rfl)⟩⟩) (ak (fun _ => ⟨rfl, fun _ _ => rfl⟩) (ak (fun _ => ⟨rfl, fun _ _ => rfl⟩) (ak (fun γ => ⟨rfl, fun w' _ => ex_ixP29 (j := 1) (off := 0) rfl rfl rfl rfl (by decide)⟩) (ak (fun γ => ⟨rfl, fun w' h => ex_loadC h 1 rfl rfl rfl Tryd.isAgg22 rfl⟩) (ak (by refine fun γ => ⟨rfl, fun w' h => ?_⟩; clear h; go_simp) (ak (by refine fun γ => ⟨rfl, fun w' h => ?_⟩; clear h; go_simp <;> omega) (ak (by refine fun γ => ⟨rfl, fun w' h => ?_⟩; clear h; go_simp) trivial)))))))))))))))))
      intro γ w107 l hM hl
      have M107 : Mm w107 [(γ82_4, ac (X k)), (gm, [Value.slice q0.p q0.n q0.cp, Value.slice q1.p q1.n q1.cp]), (gh, [PT g0 0, PT g1 0]), (g0, hs true ((hq q0.f q0.n).s) ((hq q0.f q0.n).r) ((hq q0.f q0.n).c)), (g1, hs true ((hq q1.f q1.n).s) ((hq q1.f q1.n).r) ((hq q1.f q1.n).c)), (0, ints .u32 fT 8), (1, ints .u32 kT 64)] := H106.out.1.grow hM (Nat.le_refl _) hl [] rfl (by decide)
      have B107 : Sr w [gh, gm, g0, g1] q0 q1 w107 := Sr.step H106.out.2 (hM.below)
      clear hM hl l H106
      clear γ
      have H107 : Hid (_ ∧ _) := ⟨M107, B107⟩
      clear M107 B107
      refine rest0 rfl (then_normal (wp_cond_false rfl ?_))
      refine wp_skip (block_normal (then_normal ?_))
      refine walk_seqA 2 [.quiet (.int .i64 ((k : Nat) : Int)), .quiet (.int .i64 ((k + 1 : Nat) : Int))] (sB H107) ?ho90K1n1 ?he90K1n1
      case ho90K1n1 => exact ak (fun _ => ⟨rfl, fun _ _ => rfl⟩) (ak (by refine fun γ => ⟨rfl, fun w' h => ?_⟩; clear h; go_simp; rw [IntKind.wrap_i64]; omega) trivial)
      intro γ w108 l hM hl
      have M108 : Mm w108 [(γ82_4, ac (X k)), (gm, [Value.slice q0.p q0.n q0.cp, Value.slice q1.p q1.n q1.cp]), (gh, [PT g0 0, PT g1 0]), (g0, hs true ((hq q0.f q0.n).s) ((hq q0.f q0.n).r) ((hq q0.f q0.n).c)), (g1, hs true ((hq q1.f q1.n).s) ((hq q1.f q1.n).r) ((hq q1.f q1.n).c)), (0, ints .u32 fT 8), (1, ints .u32 kT 64)] := H107.out.1.grow hM (Nat.le_refl _) hl [] rfl (by decide)
      have B108 : Sr w [gh, gm, g0, g1] q0 q1 w108 := Sr.step H107.out.2 (hM.below)
      clear hM hl l H107
      clear γ
      have H108 : Hid (_ ∧ _) := ⟨M108, B108⟩
      clear M108 B108
      refine rest_at (l := [2]) rfl ?_
      refine rest_set (d := 6) (v := .int .i64 ((k + 1 : Nat) : Int)) (w' := w108) rfl rfl rfl rfl ?_
      simp only [Act.put, sa, sz, ss]
      refine rest_nil (then_normal ?_)
      exact ⟨⟨k + 1, 1, g0, g1, q0, q1⟩, ⟨(slotfn [undef, undef, s0 2, undef, undef, undef, undef, PT γ82_4 0, s0 8, undef, undef, undef, undef, undef, undef, undef, .int .i64 ((k : Nat) : Int), .slice pl m c2, .int .i64 ((m : Nat) : Int), .bool true, .int .i64 ((k : Nat) : Int), .int .i64 ((k + 1 : Nat) : Int), .slice pl m c2, .int .i64 ((k : Nat) : Int), PT ga (oa + 2 * k), .agg (ac (X k)).toArray, PT γ82_4 1, .slice (X k).q.p (X k).q.n (X k).q.cp, .int .i64 (((X k).q.n : Nat) : Int), .bool false, .slice (some ⟨gh, 0, none⟩) 2 2, .int .i64 1, PT gh 1, PT g1 0, .bool false, PT γ82_4 0, Z8 ((X k).kd), .bool false, .bool false, s0 39, s0 40, s0 41, s0 42, s0 43, s0 44, s0 45, s0 46, s0 47, s0 48, s0 49, s0 50, s0 51, s0 52, s0 53, s0 54, s0 55, s0 56, s0 57, s0 58, s0 59, s0 60, s0 61, s0 62, s0 63, s0 64, s0 65, s0 66, s0 67, s0 68, .bool true, .bool true, .slice (some ⟨gh, 0, none⟩) 2 2, .int .i64 1, PT gh 1, PT g1 0, .agg (ints .u8 (dg0 q1.f q1.n) 32).toArray, .slice (some ⟨gm, 0, none⟩) 2 2, .int .i64 1, PT gm 1, .slice q1.p q1.n q1.cp, .agg (ints .u8 (ds q1.f q1.n) 32).toArray, .bool false, s0 82, s0 83, s0 84, s0 85, s0 86, s0 87, s0 88, s0 89, s0 90, s0 91, s0 92, s0 93, s0 94, s0 95, s0 96, s0 97, s0 98, s0 99, s0 100, s0 101, s0 102, s0 103, s0 104, s0 105, s0 106, .slice (some ⟨gh, 0, none⟩) 2 2, .int .i64 1, PT gh 1, PT g1 0, .bool false, .bool false, .slice (some ⟨gh, 0, none⟩) 2 2, .int .i64 1, PT gh 1, PT g1 0, .int .i64 ((q1.n : Nat) : Int), .slice (some ⟨gm, 0, none⟩) 2 2, .int .i64 1, PT gm 1, .slice q1.p q1.n q1.cp, .int .i64 ((q1.n : Nat) : Int), .bool false, .bool false]), rfl, ⟨H108.out.1.sel [1, 2, 3, 4, 5, 6] (by decide) rfl, H108.out.2.b⟩, ⟨by show k + 1 ≤ m; omega, by show 1 < 2; decide, by show q0.n ≤ 4000 * (k + 1); omega, by show q1.n ≤ 4000 * (k + 1); omega, hp0, hp1, o_g0.out, o_g1.out, H108.out.2.less (by simp)⟩⟩, by show m - (k + 1) < m - k; omega⟩
    · have hrd : True := trivial
      clear hrd
      refine wp_seq (wp_seq ?_)
      refine walk_seqA 4 [.quiet (.int .i64 ((k : Nat) : Int)), .quiet (.slice pl m c2), .quiet (.int .i64 ((m : Nat) : Int)), .quiet (.bool true)] (sB H10) ?ho91K2n1 ?he91K2n1
      case ho91K2n1 => exact ak (fun _ => ⟨rfl, fun _ _ => rfl⟩) (ak (fun _ => ⟨rfl, fun _ _ => rfl⟩) (ak (by refine fun γ => ⟨rfl, fun w' h => ?_⟩; clear h; go_simp) (ak (by refine fun γ => ⟨rfl, fun w' h => ?_⟩; clear h; go_simp <;> omega) trivial)))
      intro γ w109 l hM hl
      have M109 : Mm w109 [(gm, [Value.slice q0.p q0.n q0.cp, Value.slice q1.p q1.n q1.cp]), (gh, [PT g0 0, PT g1 0]), (g0, hs true ((hq q0.f q0.n).s) ((hq q0.f q0.n).r) ((hq q0.f q0.n).c)), (g1, hs true ((hq q1.f q1.n).s) ((hq q1.f q1.n).r) ((hq q1.f q1.n).c)), (0, ints .u32 fT 8), (1, ints .u32 kT 64)] := H10.out.1.grow hM (Nat.le_refl _) hl [] rfl (by decide)
      have B109 : Sr w [gh, gm, g0, g1] q0 q1 w109 := Sr.step H10.out.2 (hM.below)
      clear hM hl l H10
      clear γ
      have H109 : Hid (_ ∧ _) := ⟨M109, B109⟩
      clear M109 B109
      refine rest0 rfl (then_normal (wp_cond_true rfl ?_))
      refine wp_skip (then_normal ?_)
      refine wp_seq (wp_block (wp_seq ?_))
      refine (walk_seq) 6 [.quiet (.slice pl m c2), .quiet (.int .i64 ((k : Nat) : Int)), .quiet (PT ga (oa + 2 * k)), .quiet (.agg (ac (X k)).toArray), .made [Z8 0, .slice none 0 0] 45, .laid 4 [Z8 0, .slice none 0 0] (ac (X k))] (fun u' => Mm u' [(gm, [Value.slice q0.p q0.n q0.cp, Value.slice q1.p q1.n q1.cp]), (gh, [PT g0 0, PT g1 0]), (g0, hs true ((hq q0.f q0.n).s) ((hq q0.f q0.n).r) ((hq q0.f q0.n).c)), (g1, hs true ((hq q1.f q1.n).s) ((hq q1.f q1.n).r) ((hq q1.f q1.n).c)), (0, ints .u32 fT 8), (1, ints .u32 kT 64)] ∧ (q0.rs u' ∧ q1.rs u' ∧ Lc pl X m u')) ?pre92K2n1 ?F92K2n1 ?hpre92K2n1 (fun γ => ?hF92K2n1) (by kernel_rfl) ?hL92K2n1 ?hS92K2n1 ?ho92K2n1 ?he92K2n1
      case hpre92K2n1 => simp only [tk, tz]; rfl
      case hF92K2n1 => simp only [fill, Kind.val, Act.put, sa, sz, ss]; rfl
      case hL92K2n1 => exact ⟨⟨_, rfl⟩, trivial⟩
      case hS92K2n1 => exact fun w' hb => ⟨H109.out.1.below hb, ⟨(Sr.step H109.out.2 (hb)).r0, (Sr.step H109.out.2 (hb)).r1, LC.out.below (Sr.step H109.out.2 (hb)).b⟩⟩
      case ho92K2n1 =>
        refine ak (fun _ => ⟨rfl, fun _ _ => rfl⟩) ?_
        refine ak (fun _ => ⟨rfl, fun _ _ => rfl⟩) ?_
        refine ak (fun γ => ⟨rfl, fun w' _ => ex_ixP40 (j := k) E2.out rfl rfl rfl (by omega)⟩) ?_
        refine ak (fun γ => ⟨rfl, fun w' hX => ex_ld45 (j := k) hX.2.2.2 E2.out (by omega) rfl rfl⟩) ?_
        refine ak (fun γ => ⟨rfl, fun w' => ex_mk45 rfl⟩) ?_
        refine ak (fun γ => ⟨rfl, rfl, rfl, fun w' h => ex_laidT h rfl rfl Tryd.sizeOf45 rfl rfl rfl⟩) ?_
        exact trivial
      intro γ w110 l hM hl
      have M110 : Mm w110 [(γ 4, ac (X k)), (gm, [Value.slice q0.p q0.n q0.cp, Value.slice q1.p q1.n q1.cp]), (gh, [PT g0 0, PT g1 0]), (g0, hs true ((hq q0.f q0.n).s) ((hq q0.f q0.n).r) ((hq q0.f q0.n).c)), (g1, hs true ((hq q1.f q1.n).s) ((hq q1.f q1.n).r) ((hq q1.f q1.n).c)), (0, ints .u32 fT 8), (1, ints .u32 kT 64)] := H109.out.1.grow hM (Nat.le_refl _) hl [4] rfl (by decide)
      have B110 : Sr w [gh, gm, g0, g1] q0 q1 w110 := Sr.step H109.out.2 (hM.below)
      have o92_4 : Hid (w.heap.size ≤ γ 4) := Nat.le_trans H109.out.2.size (hM.fin (Nat.le_refl _) hl (i := 4) rfl).2.1
      clear hM hl l H109
      generalize γ 4 = γ92_4 at M110 o92_4 ⊢
      clear γ
      have H110 : Hid (_ ∧ _) := ⟨M110, B110⟩
      clear M110 B110
      refine rest0 rfl (then_normal (wp_seq (wp_seq ?_)))
      refine walk_seqA 4 [.quiet (PT γ92_4 1), .quiet (.slice (X k).q.p (X k).q.n (X k).q.cp), .quiet (.int .i64 (((X k).q.n : Nat) : Int)), .quiet (.bool false)] (sB H110) ?ho93K2n1 ?he93K2n1
      case ho93K2n1 => exact ak (by refine fun γ => ⟨rfl, fun w' h => ?_⟩; clear h; go_simp) (ak (fun γ => ⟨rfl, fun w' h => ex_loadC h 0 rfl rfl rfl Tryd.isAgg22 rfl⟩) (ak (by refine fun γ => ⟨rfl, fun w' h => ?_⟩; clear h; go_simp) (ak (by refine fun γ => ⟨rfl, fun w' h => ?_⟩; clear h; go_simp <;> omega) trivial)))
      intro γ w111 l hM hl
      have M111 : Mm w111 [(γ92_4, ac (X k)), (gm, [Value.slice q0.p q0.n q0.cp, Value.slice q1.p q1.n q1.cp]), (gh, [PT g0 0, PT g1 0]), (g0, hs true ((hq q0.f q0.n).s) ((hq q0.f q0.n).r) ((hq q0.f q0.n).c)), (g1, hs true ((hq q1.f q1.n).s) ((hq q1.f q1.n).r) ((hq q1.f q1.n).c)), (0, ints .u32 fT 8), (1, ints .u32 kT 64)] := H110.out.1.grow hM (Nat.le_refl _) hl [] rfl (by decide)
      have B111 : Sr w [gh, gm, g0, g1] q0 q1 w111 := Sr.step H110.out.2 (hM.below)
      clear hM hl l H110
      clear γ
      have H111 : Hid (_ ∧ _) := ⟨M111, B111⟩
      clear M111 B111
      refine rest0 rfl (then_normal (wp_cond_false rfl ?_))
      refine wp_skip (then_normal ?_)
      refine wp_seq (wp_seq ?_)
      refine walk_seqA 5 [.quiet (.slice (some ⟨gh, 0, none⟩) 2 2), .quiet (.int .i64 1), .quiet (PT gh 1), .quiet (PT g1 0), .quiet (.bool false)] (sB H111) ?ho94K2n1 ?he94K2n1
      case ho94K2n1 => exact ak (fun _ => ⟨rfl, fun _ _ => rfl⟩) (ak (fun _ => ⟨rfl, fun _ _ => rfl⟩) (ak (fun γ => ⟨rfl, fun w' _ => ex_ixP43 (j := 1) (off := 0) rfl rfl rfl rfl (by decide)⟩) (ak (fun γ => ⟨rfl, fun w' h => ex_loadC h 2 rfl rfl rfl Tryd.isAgg41 rfl⟩) (ak (by refine fun γ => ⟨rfl, fun w' h => ?_⟩; clear h; go_simp) trivial))))
      intro γ w112 l hM hl
      have M112 : Mm w112 [(γ92_4, ac (X k)), (gm, [Value.slice q0.p q0.n q0.cp, Value.slice q1.p q1.n q1.cp]), (gh, [PT g0 0, PT g1 0]), (g0, hs true ((hq q0.f q0.n).s) ((hq q0.f q0.n).r) ((hq q0.f q0.n).c)), (g1, hs true ((hq q1.f q1.n).s) ((hq q1.f q1.n).r) ((hq q1.f q1.n).c)), (0, ints .u32 fT 8), (1, ints .u32 kT 64)] := H111.out.1.grow hM (Nat.le_refl _) hl [] rfl (by decide)
      have B112 : Sr w [gh, gm, g0, g1] q0 q1 w112 := Sr.step H111.out.2 (hM.below)
      clear hM hl l H111
      clear γ
      have H112 : Hid (_ ∧ _) := ⟨M112, B112⟩
      clear M112 B112
      refine rest0 rfl (then_normal (wp_cond_false rfl ?_))
      refine wp_skip (then_normal ?_)
      refine wp_seq (wp_seq ?_)
      refine walk_seqA 2 [.quiet (PT γ92_4 0), .quiet (Z8 ((X k).kd))] (sB H112) ?ho95K2n1 ?he95K2n1
      case ho95K2n1 => exact ak (by refine fun γ => ⟨rfl, fun w' h => ?_⟩; clear h; go_simp) (ak (fun γ => ⟨rfl, fun w' h => ex_loadC h 0 rfl rfl rfl Tryd.isAgg5 rfl⟩) trivial)
      intro γ w113 l hM hl
      have M113 : Mm w113 [(γ92_4, ac (X k)), (gm, [Value.slice q0.p q0.n q0.cp, Value.slice q1.p q1.n q1.cp]), (gh, [PT g0 0, PT g1 0]), (g0, hs true ((hq q0.f q0.n).s) ((hq q0.f q0.n).r) ((hq q0.f q0.n).c)), (g1, hs true ((hq q1.f q1.n).s) ((hq q1.f q1.n).r) ((hq q1.f q1.n).c)), (0, ints .u32 fT 8), (1, ints .u32 kT 64)] := H112.out.1.grow hM (Nat.le_refl _) hl [] rfl (by decide)
      have B113 : Sr w [gh, gm, g0, g1] q0 q1 w113 := Sr.step H112.out.2 (hM.below)
      clear hM hl l H112
      clear γ
      have H113 : Hid (_ ∧ _) := ⟨M113, B113⟩
      clear M113 B113
      refine rest0 rfl (then_normal (wp_block (wp_seq ?_)))
      refine walk_seqA 2 [.quiet (.bool false), .quiet (.bool false)] (sB H113) ?ho96K2n1 ?he96K2n1
      case ho96K2n1 => exact ak (fun γ => ⟨rfl, fun w' _ => ex_eq8 (b := 0) (decide_eq_false (by omega)) rfl rfl rfl⟩) (ak (fun _ => ⟨rfl, fun _ _ => rfl⟩) trivial)
      intro γ w114 l hM hl
      have M114 : Mm w114 [(γ92_4, ac (X k)), (gm, [Value.slice q0.p q0.n q0.cp, Value.slice q1.p q1.n q1.cp]), (gh, [PT g0 0, PT g1 0]), (g0, hs true ((hq q0.f q0.n).s) ((hq q0.f q0.n).r) ((hq q0.f q0.n).c)), (g1, hs true ((hq q1.f q1.n).s) ((hq q1.f q1.n).r) ((hq q1.f q1.n).c)), (0, ints .u32 fT 8), (1, ints .u32 kT 64)] := H113.out.1.grow hM (Nat.le_refl _) hl [] rfl (by decide)
      have B114 : Sr w [gh, gm, g0, g1] q0 q1 w114 := Sr.step H113.out.2 (hM.below)
      clear hM hl l H113
      clear γ
      have H114 : Hid (_ ∧ _) := ⟨M114, B114⟩
      clear M114 B114
      refine rest0 rfl (then_normal (wp_cond_false rfl (wp_seq ?_)))
      refine walk_seqA 2 [.quiet (.bool false), .quiet (.bool false)] (sB H114) ?ho97K2n1 ?he97K2n1
      case ho97K2n1 => exact ak (fun γ => ⟨rfl, fun w' _ => ex_eq8 (b := 1) (decide_eq_false (by omega)) rfl rfl rfl⟩) (ak (fun _ => ⟨rfl, fun _ _ => rfl⟩) trivial)
      intro γ w115 l hM hl
      have M115 : Mm w115 [(γ92_4, ac (X k)), (gm, [Value.slice q0.p q0.n q0.cp, Value.slice q1.p q1.n q1.cp]), (gh, [PT g0 0, PT g1 0]), (g0, hs true ((hq q0.f q0.n).s) ((hq q0.f q0.n).r) ((hq q0.f q0.n).c)), (g1, hs true ((hq q1.f q1.n).s) ((hq q1.f q1.n).r) ((hq q1.f q1.n).c)), (0, ints .u32 fT 8), (1, ints .u32 kT 64)] := H114.out.1.grow hM (Nat.le_refl _) hl [] rfl (by decide)
      have B115 : Sr w [gh, gm, g0, g1] q0 q1 w115 := Sr.step H114.out.2 (hM.below)
      clear hM hl l H114
      clear γ
      have H115 : Hid (_ ∧ _) := ⟨M115, B115⟩
      clear M115 B115
      refine rest0 rfl (then_normal (wp_cond_false rfl (wp_seq ?_)))
      refine walk_seqA 2 [.quiet (.bool true), .quiet (.bool true)] (sB H115) ?ho98K2n1 ?he98K2n1
      case ho98K2n1 => exact ak (fun γ => ⟨rfl, fun w' _ => ex_eq8 (b := 2) (decide_eq_true (by omega)) rfl rfl rfl⟩) (ak (fun _ => ⟨rfl, fun _ _ => rfl⟩) trivial)
      intro γ w116 l hM hl
      have M116 : Mm w116 [(γ92_4, ac (X k)), (gm, [Value.slice q0.p q0.n q0.cp, Value.slice q1.p q1.n q1.cp]), (gh, [PT g0 0, PT g1 0]), (g0, hs true ((hq q0.f q0.n).s) ((hq q0.f q0.n).r) ((hq q0.f q0.n).c)), (g1, hs true ((hq q1.f q1.n).s) ((hq q1.f q1.n).r) ((hq q1.f q1.n).c)), (0, ints .u32 fT 8), (1, ints .u32 kT 64)] := H115.out.1.grow hM (Nat.le_refl _) hl [] rfl (by decide)
      have B116 : Sr w [gh, gm, g0, g1] q0 q1 w116 := Sr.step H115.out.2 (hM.below)
      clear hM hl l H115
      clear γ
      have H116 : Hid (_ ∧ _) := ⟨M116, B116⟩
      clear M116 B116
      refine rest0 rfl (then_normal (wp_cond_true rfl (wp_seq ?_)))
      refine walk_seqA 9 [.quiet (.slice (some ⟨gh, 0, none⟩) 2 2), .quiet (.int .i64 1), .quiet (.int .i64 0), .quiet (.slice (some ⟨gh, 0, none⟩) 2 2), .quiet (.int .i64 1), .quiet (PT gh 1), .quiet (PT g1 0), .born (fun g => PT g 0) (hs true ((hq q1.f q1.n).s) ((hq q1.f q1.n).r) ((hq q1.f q1.n).c)), .quiet (PT gh 0)] (sB H116) ?ho99K2n1 ?he99K2n1
      case ho99K2n1 => exact ak (fun _ => ⟨rfl, fun _ _ => rfl⟩) (ak (fun _ => ⟨rfl, fun _ _ => rfl⟩) (ak (by refine fun γ => ⟨rfl, fun w' h => ?_⟩; clear h; go_simp; rw [IntKind.wrap_i64]; omega) (ak (fun _ => ⟨rfl, fun _ _ => rfl⟩) (ak (fun _ => ⟨rfl, fun _ _ => rfl⟩) (ak (fun γ => ⟨rfl, fun w' _ => ex_ixP43 (j := 1) (off := 0) rfl rfl rfl rfl (by decide)⟩) (ak (fun γ => ⟨rfl, fun w' h => ex_loadC h 2 rfl rfl rfl Tryd.isAgg41 rfl⟩) (ak (fun γ => ⟨rfl, fun w' h => ⟨30, #[PT g1 0], exec_call rfl call30 rfl (mpn rfl), Clone_ok g1 (hq q1.f q1.n) w' (h.one 4 rfl)⟩⟩) (ak (fun γ => ⟨rfl, fun w' _ => ex_ixP43 (j := 0) (off := 0) rfl rfl rfl rfl (by decide)⟩) trivial))))))))
      intro γ w117 l hM hl
      have M117 : Mm w117 [(γ 7, hs true ((hq q1.f q1.n).s) ((hq q1.f q1.n).r) ((hq q1.f q1.n).c)), (γ92_4, ac (X k)), (gm, [Value.slice q0.p q0.n q0.cp, Value.slice q1.p q1.n q1.cp]), (gh, [PT g0 0, PT g1 0]), (g0, hs true ((hq q0.f q0.n).s) ((hq q0.f q0.n).r) ((hq q0.f q0.n).c)), (g1, hs true ((hq q1.f q1.n).s) ((hq q1.f q1.n).r) ((hq q1.f q1.n).c)), (0, ints .u32 fT 8), (1, ints .u32 kT 64)] := H116.out.1.grow hM (Nat.le_refl _) hl [7] rfl (by decide)
      have B117 : Sr w [gh, gm, g0, g1] q0 q1 w117 := Sr.step H116.out.2 (hM.below)
      have o99_7 : Hid (w.heap.size ≤ γ 7) := Nat.le_trans H116.out.2.size (hM.fin (Nat.le_refl _) hl (i := 7) rfl).2.1
      have og99_7 : Hid ((0 < q0.n → q0.gb < γ 7) ∧ (0 < q1.n → q1.gb < γ 7)) := ⟨fun hn => Nat.lt_of_lt_of_le (H116.out.2.r0.lt hn) (hM.fin (Nat.le_refl _) hl (i := 7) rfl).2.1, fun hn => Nat.lt_of_lt_of_le (H116.out.2.r1.lt hn) (hM.fin (Nat.le_refl _) hl (i := 7) rfl).2.1⟩
      clear hM hl l H116
      generalize γ 7 = γ99_7 at M117 o99_7 og99_7 ⊢
      clear γ
      have H117 : Hid (_ ∧ _) := ⟨M117, B117⟩
      clear M117 B117
      refine rest_at (l := [9]) rfl ?_
      refine rest_store rfl rfl rfl (ex_storeP H117.out.1 3 rfl rfl rfl rfl (show 0 < 2 by decide)) ?_
      have H118 : Hid (Mm (w117.setCells gh 0 [PT γ99_7 0]) [(γ99_7, hs true ((hq q1.f q1.n).s) ((hq q1.f q1.n).r) ((hq q1.f q1.n).c)), (γ92_4, ac (X k)), (gm, [Value.slice q0.p q0.n q0.cp, Value.slice q1.p q1.n q1.cp]), (gh, [PT γ99_7 0, PT g1 0]), (g0, hs true ((hq q0.f q0.n).s) ((hq q0.f q0.n).r) ((hq q0.f q0.n).c)), (g1, hs true ((hq q1.f q1.n).s) ((hq q1.f q1.n).r) ((hq q1.f q1.n).c)), (0, ints .u32 fT 8), (1, ints .u32 kT 64)] ∧ Sr w [gh, gm, g0, g1] q0 q1 (w117.setCells gh 0 [PT γ99_7 0])) := ⟨H117.out.1.put 3 (off := 0) (vs := [PT γ99_7 0]) rfl (show 0 + 1 ≤ 2 by decide), H117.out.2.put (by simp) o_gh.out⟩
      clear H117
      generalize hgw : World.setCells _ _ _ _ = w118 at H118 ⊢
      clear hgw
      refine rest_nil (then_normal (wp_seq ?_))
      refine walk_seqA 8 [.quiet (.slice (some ⟨gm, 0, none⟩) 2 2), .quiet (.int .i64 1), .quiet (.int .i64 0), .quiet (.slice (some ⟨gm, 0, none⟩) 2 2), .quiet (.int .i64 1), .quiet (PT gm 1), .quiet (.slice q1.p q1.n q1.cp), .quiet (PT gm 0)] (sB H118) ?ho100K2n1 ?he100K2n1
      case ho100K2n1 => exact ak (fun _ => ⟨rfl, fun _ _ => rfl⟩) (ak (fun _ => ⟨rfl, fun _ _ => rfl⟩) (ak (by refine fun γ => ⟨rfl, fun w' h => ?_⟩; clear h; go_simp; rw [IntKind.wrap_i64]; omega) (ak (fun _ => ⟨rfl, fun _ _ => rfl⟩) (ak (fun _ => ⟨rfl, fun _ _ => rfl⟩) (ak (fun γ => ⟨rfl, fun w' _ => ex_ixP29 (j := 1) (off := 0) rfl rfl rfl rfl (by decide)⟩) (ak (fun γ => ⟨rfl, fun w' h => ex_loadC h 2 rfl rfl rfl Tryd.isAgg22 rfl⟩) (ak (fun γ => ⟨rfl, fun w' _ => ex_ixP29 (j := 0) (off := 0) rfl rfl rfl rfl (by decide)⟩) trivial)))))))
      intro γ w119 l hM hl
      have M119 : Mm w119 [(γ99_7, hs true ((hq q1.f q1.n).s) ((hq q1.f q1.n).r) ((hq q1.f q1.n).c)), (γ92_4, ac (X k)), (gm, [Value.slice q0.p q0.n q0.cp, Value.slice q1.p q1.n q1.cp]), (gh, [PT γ99_7 0, PT g1 0]), (g0, hs true ((hq q0.f q0.n).s) ((hq q0.f q0.n).r) ((hq q0.f q0.n).c)), (g1, hs true ((hq q1.f q1.n).s) ((hq q1.f q1.n).r) ((hq q1.f q1.n).c)), (0, ints .u32 fT 8), (1, ints .u32 kT 64)] := H118.out.1.grow hM (Nat.le_refl _) hl [] rfl (by decide)
      have B119 : Sr w [gh, gm, g0, g1] q0 q1 w119 := Sr.step H118.out.2 (hM.below)
      clear hM hl l H118
      clear γ
      have H119 : Hid (_ ∧ _) := ⟨M119, B119⟩
      clear M119 B119
      refine rest_at (l := [8]) rfl ?_
      refine rest_store rfl rfl rfl (ex_storeS H119.out.1 2 rfl rfl rfl rfl (show 0 < 2 by decide)) ?_
      have H120 : Hid (Mm (w119.setCells gm 0 [Value.slice q1.p q1.n q1.cp]) [(γ99_7, hs true ((hq q1.f q1.n).s) ((hq q1.f q1.n).r) ((hq q1.f q1.n).c)), (γ92_4, ac (X k)), (gm, [Value.slice q1.p q1.n q1.cp, Value.slice q1.p q1.n q1.cp]), (gh, [PT γ99_7 0, PT g1 0]), (g0, hs true ((hq q0.f q0.n).s) ((hq q0.f q0.n).r) ((hq q0.f q0.n).c)), (g1, hs true ((hq q1.f q1.n).s) ((hq q1.f q1.n).r) ((hq q1.f q1.n).c)), (0, ints .u32 fT 8), (1, ints .u32 kT 64)] ∧ Sr w [gh, gm, g0, g1] q0 q1 (w119.setCells gm 0 [Value.slice q1.p q1.n q1.cp])) := ⟨H119.out.1.put 2 (off := 0) (vs := [Value.slice q1.p q1.n q1.cp]) rfl (show 0 + 1 ≤ 2 by decide), H119.out.2.put (by simp) o_gm.out⟩
      clear H119
      generalize hgw : World.setCells _ _ _ _ = w120 at H120 ⊢
      clear hgw
      refine rest_nil (then_normal ?_)
      refine walk_seqA 2 [.quiet (.int .i64 1), .quiet (.int .i64 0)] (sB H120) ?ho101K2n1 ?he101K2n1
      case ho101K2n1 => exact ak (fun _ => ⟨rfl, fun _ _ => rfl⟩) (ak (by refine fun γ => ⟨rfl, fun w' h => ?_⟩; clear h; go_simp; rw [IntKind.wrap_i64]; omega) trivial)
      intro γ w121 l hM hl
      have M121 : Mm w121 [(γ99_7, hs true ((hq q1.f q1.n).s) ((hq q1.f q1.n).r) ((hq q1.f q1.n).c)), (γ92_4, ac (X k)), (gm, [Value.slice q1.p q1.n q1.cp, Value.slice q1.p q1.n q1.cp]), (gh, [PT γ99_7 0, PT g1 0]), (g0, hs true ((hq q0.f q0.n).s) ((hq q0.f q0.n).r) ((hq q0.f q0.n).c)), (g1, hs true ((hq q1.f q1.n).s) ((hq q1.f q1.n).r) ((hq q1.f q1.n).c)), (0, ints .u32 fT 8), (1, ints .u32 kT 64)] := H120.out.1.grow hM (Nat.le_refl _) hl [] rfl (by decide)
      have B121 : Sr w [gh, gm, g0, g1] q0 q1 w121 := Sr.step H120.out.2 (hM.below)
      clear hM hl l H120
      clear γ
      have H121 : Hid (_ ∧ _) := ⟨M121, B121⟩
      clear M121 B121
      refine rest_at (l := [2]) rfl ?_
      refine rest_set (d := 5) (v := .int .i64 0) (w' := w121) rfl rfl rfl rfl ?_
      simp only [Act.put, sa, sz, ss]
      refine rest_nil (block_normal ?_)
      refine then_normal (wp_seq ?_)
      refine walk_anyA 18 [.quiet (.slice (some ⟨gh, 0, none⟩) 2 2), .quiet (.int .i64 0), .quiet (PT gh 0), .quiet (PT γ99_7 0), .quiet (.bool false), .quiet (.bool false), .quiet (.slice (some ⟨gh, 0, none⟩) 2 2), .quiet (.int .i64 0), .quiet (PT gh 0), .quiet (PT γ99_7 0), .call (.int .i64 ((q1.n : Nat) : Int)), .quiet (.slice (some ⟨gm, 0, none⟩) 2 2), .quiet (.int .i64 0), .quiet (PT gm 0), .quiet (.slice q1.p q1.n q1.cp), .quiet (.int .i64 ((q1.n : Nat) : Int)), .quiet (.bool false), .quiet (.bool false)] (sB H121) ?ho102K2n1 ?he102K2n1
      case ho102K2n1 => exact ak (fun _ => ⟨rfl, fun _ _ => rfl⟩) (ak (fun _ => ⟨rfl, fun _ _ => rfl⟩) (ak (fun γ => ⟨rfl, fun w' _ => ex_ixP43 (j := 0) (off := 0) rfl rfl rfl rfl (by decide)⟩) (ak (fun γ => ⟨rfl, fun w' h => ex_loadC h 3 rfl rfl rfl Tryd.isAgg41 rfl⟩) (ak (by refine fun γ => ⟨rfl, fun w' h => ?_⟩; clear h; go_simp) (ak (fun _ => ⟨rfl, fun _ _ => rfl⟩) (ak (fun _ => ⟨rfl, fun _ _ => rfl⟩) (ak (fun _ => ⟨rfl, fun _ _ => rfl⟩) (ak (fun γ => ⟨rfl, fun w' _ => ex_ixP43 (j := 0) (off := 0) rfl rfl rfl rfl (by decide)⟩) (ak (fun γ => ⟨rfl, fun w' h => ex_loadC h 3 rfl rfl rfl Tryd.isAgg41 rfl⟩) (ak (fun γ => ⟨rfl, fun w' h => ⟨31, #[PT γ99_7 0], exec_call rfl call31 rfl (mpn rfl), Len_hq γ99_7 q1 (by omega) w' (h.one 0 rfl)⟩⟩) (ak (fun _ => ⟨rfl, fun _ _ => rfl⟩) (ak (fun _ => ⟨rfl, fun _ _ => rfl⟩) (ak (fun γ => ⟨rfl, fun w' _ => ex_ixP29 (j := 0) (off := 0) rfl rfl rfl rfl (by decide)⟩) (ak (fun γ => ⟨rfl, fun w' h => ex_loadC h 2 rfl rfl rfl Tryd.isAgg22 rfl⟩) (ak (by refine fun γ => ⟨rfl, fun w' h => ?_⟩; clear h; go_simp) (ak (by refine fun γ => ⟨rfl, fun w' h => ?_⟩; clear h; go_simp <;> omega) (ak (by refine fun γ => ⟨rfl, fun w' h => ?_⟩; clear h; go_simp) trivial)))))))))))))))))
      intro γ w122 l hM hl
      have M122 : Mm w122 [(γ99_7, hs true ((hq q1.f q1.n).s) ((hq q1.f q1.n).r) ((hq q1.f q1.n).c)), (γ92_4, ac (X k)), (gm, [Value.slice q1.p q1.n q1.cp, Value.slice q1.p q1.n q1.cp]), (gh, [PT γ99_7 0, PT g1 0]), (g0, hs true ((hq q0.f q0.n).s) ((hq q0.f q0.n).r) ((hq q0.f q0.n).c)), (g1, hs true ((hq q1.f q1.n).s) ((hq q1.f q1.n).r) ((hq q1.f q1.n).c)), (0, ints .u32 fT 8), (1, ints .u32 kT 64)] := H121.out.1.grow hM (Nat.le_refl _) hl [] rfl (by decide)
      have B122 : Sr w [gh, gm, g0, g1] q0 q1 w122 := Sr.step H121.out.2 (hM.below)
      clear hM hl l H121
      clear γ
      have H122 : Hid (_ ∧ _) := ⟨M122, B122⟩
      clear M122 B122
      refine rest0 rfl (then_normal (wp_cond_false rfl ?_))
      refine wp_skip (block_normal (then_normal ?_))
      refine walk_seqA 2 [.quiet (.int .i64 ((k : Nat) : Int)), .quiet (.int .i64 ((k + 1 : Nat) : Int))] (sB H122) ?ho103K2n1 ?he103K2n1
      case ho103K2n1 => exact ak (fun _ => ⟨rfl, fun _ _ => rfl⟩) (ak (by refine fun γ => ⟨rfl, fun w' h => ?_⟩; clear h; go_simp; rw [IntKind.wrap_i64]; omega) trivial)
      intro γ w123 l hM hl
      have M123 : Mm w123 [(γ99_7, hs true ((hq q1.f q1.n).s) ((hq q1.f q1.n).r) ((hq q1.f q1.n).c)), (γ92_4, ac (X k)), (gm, [Value.slice q1.p q1.n q1.cp, Value.slice q1.p q1.n q1.cp]), (gh, [PT γ99_7 0, PT g1 0]), (g0, hs true ((hq q0.f q0.n).s) ((hq q0.f q0.n).r) ((hq q0.f q0.n).c)), (g1, hs true ((hq q1.f q1.n).s) ((hq q1.f q1.n).r) ((hq q1.f q1.n).c)), (0, ints .u32 fT 8), (1, ints .u32 kT 64)] := H122.out.1.grow hM (Nat.le_refl _) hl [] rfl (by decide)
      have B123 : Sr w [gh, gm, g0, g1] q0 q1 w123 := Sr.step H122.out.2 (hM.below)
      clear hM hl l H122
      clear γ
      have H123 : Hid (_ ∧ _) := ⟨M123, B123⟩
      clear M123 B123
      refine rest_at (l := [2]) rfl ?_
      refine rest_set (d := 6) (v := .int .i64 ((k + 1 : Nat) : Int)) (w' := w123) rfl rfl rfl rfl ?_
      simp only [Act.put, sa, sz, ss]
      refine rest_nil (then_normal ?_)
      exact ⟨⟨k + 1, 0, γ99_7, g1, q1, q1⟩, ⟨(slotfn [undef, undef, s0 2, undef, undef, undef, undef, PT γ92_4 0, s0 8, undef, undef, undef, undef, undef, undef, undef, .int .i64 ((k : Nat) : Int), .slice pl m c2, .int .i64 ((m : Nat) : Int), .bool true, .int .i64 ((k : Nat) : Int), .int .i64 ((k + 1 : Nat) : Int), .slice pl m c2, .int .i64 ((k : Nat) : Int), PT ga (oa + 2 * k), .agg (ac (X k)).toArray, PT γ92_4 1, .slice (X k).q.p (X k).q.n (X k).q.cp, .int .i64 (((X k).q.n : Nat) : Int), .bool false, .slice (some ⟨gh, 0, none⟩) 2 2, .int .i64 1, PT gh 1, PT g1 0, .bool false, PT γ92_4 0, Z8 ((X k).kd), .bool false, .bool false, s0 39, s0 40, s0 41, s0 42, s0 43, s0 44, s0 45, s0 46, s0 47, s0 48, s0 49, s0 50, s0 51, s0 52, s0 53, s0 54, s0 55, s0 56, s0 57, s0 58, s0 59, s0 60, s0 61, s0 62, s0 63, s0 64, s0 65, s0 66, s0 67, s0 68, .bool false, .bool false, s0 71, s0 72, s0 73, s0 74, s0 75, s0 76, s0 77, s0 78, s0 79, s0 80, s0 81, .bool true, .bool true, .slice (some ⟨gh, 0, none⟩) 2 2, .int .i64 1, .int .i64 0, .slice (some ⟨gh, 0, none⟩) 2 2, .int .i64 1, PT gh 1, PT g1 0, PT γ99_7 0, PT gh 0, .slice (some ⟨gm, 0, none⟩) 2 2, .int .i64 1, .int .i64 0, .slice (some ⟨gm, 0, none⟩) 2 2, .int .i64 1, PT gm 1, .slice q1.p q1.n q1.cp, PT gm 0, .int .i64 1, .int .i64 0, s0 103, s0 104, s0 105, s0 106, .slice (some ⟨gh, 0, none⟩) 2 2, .int .i64 0, PT gh 0, PT γ99_7 0, .bool false, .bool false, .slice (some ⟨gh, 0, none⟩) 2 2, .int .i64 0, PT gh 0, PT γ99_7 0, .int .i64 ((q1.n : Nat) : Int), .slice (some ⟨gm, 0, none⟩) 2 2, .int .i64 0, PT gm 0, .slice q1.p q1.n q1.cp, .int .i64 ((q1.n : Nat) : Int), .bool false, .bool false]), rfl, ⟨H123.out.1.sel [2, 3, 0, 5, 6, 7] (by decide) rfl, H123.out.2.b⟩, ⟨by show k + 1 ≤ m; omega, by show 0 < 2; decide, by show q1.n ≤ 4000 * (k + 1); omega, by show q1.n ≤ 4000 * (k + 1); omega, hp1, hp1, o99_7.out, o_g1.out, ((H123.out.2.more og99_7.out.1 og99_7.out.2).both1).less (by simp)⟩⟩, by show m - (k + 1) < m - k; omega⟩
    · have hrd : True := trivial
      clear hrd
      refine wp_seq (wp_seq ?_)
      refine walk_seqA 4 [.quiet (.int .i64 ((k : Nat) : Int)), .quiet (.slice pl m c2), .quiet (.int .i64 ((m : Nat) : Int)), .quiet (.bool true)] (sB H10) ?ho104K3n1 ?he104K3n1
      case ho104K3n1 => exact ak (fun _ => ⟨rfl, fun _ _ => rfl⟩) (ak (fun _ => ⟨rfl, fun _ _ => rfl⟩) (ak (by refine fun γ => ⟨rfl, fun w' h => ?_⟩; clear h; go_simp) (ak (by refine fun γ => ⟨rfl, fun w' h => ?_⟩; clear h; go_simp <;> omega) trivial)))
      intro γ w124 l hM hl
      have M124 : Mm w124 [(gm, [Value.slice q0.p q0.n q0.cp, Value.slice q1.p q1.n q1.cp]), (gh, [PT g0 0, PT g1 0]), (g0, hs true ((hq q0.f q0.n).s) ((hq q0.f q0.n).r) ((hq q0.f q0.n).c)), (g1, hs true ((hq q1.f q1.n).s) ((hq q1.f q1.n).r) ((hq q1.f q1.n).c)), (0, ints .u32 fT 8), (1, ints .u32 kT 64)] := H10.out.1.grow hM (Nat.le_refl _) hl [] rfl (by decide)
      have B124 : Sr w [gh, gm, g0, g1] q0 q1 w124 := Sr.step H10.out.2 (hM.below)
      clear hM hl l H10
      clear γ
      have H124 : Hid (_ ∧ _) := ⟨M124, B124⟩
      clear M124 B124
      refine rest0 rfl (then_normal (wp_cond_true rfl ?_))
      refine wp_skip (then_normal ?_)
      refine wp_seq (wp_block (wp_seq ?_))
      refine (walk_seq) 6 [.quiet (.slice pl m c2), .quiet (.int .i64 ((k : Nat) : Int)), .quiet (PT ga (oa + 2 * k)), .quiet (.agg (ac (X k)).toArray), .made [Z8 0, .slice none 0 0] 45, .laid 4 [Z8 0, .slice none 0 0] (ac (X k))] (fun u' => Mm u' [(gm, [Value.slice q0.p q0.n q0.cp, Value.slice q1.p q1.n q1.cp]), (gh, [PT g0 0, PT g1 0]), (g0, hs true ((hq q0.f q0.n).s) ((hq q0.f q0.n).r) ((hq q0.f q0.n).c)), (g1, hs true ((hq q1.f q1.n).s) ((hq q1.f q1.n).r) ((hq q1.f q1.n).c)), (0, ints .u32 fT 8), (1, ints .u32 kT 64)] ∧ (q0.rs u' ∧ q1.rs u' ∧ Lc pl X m u')) ?pre105K3n1 ?F105K3n1 ?hpre105K3n1 (fun γ => ?hF105K3n1) (by kernel_rfl) ?hL105K3n1 ?hS105K3n1 ?ho105K3n1 ?he105K3n1
      case hpre105K3n1 => simp only [tk, tz]; rfl
      case hF105K3n1 => simp only [fill, Kind.val, Act.put, sa, sz, ss]; rfl
      case hL105K3n1 => exact ⟨⟨_, rfl⟩, trivial⟩
      case hS105K3n1 => exact fun w' hb => ⟨H124.out.1.below hb, ⟨(Sr.step H124.out.2 (hb)).r0, (Sr.step H124.out.2 (hb)).r1, LC.out.below (Sr.step H124.out.2 (hb)).b⟩⟩
      case ho105K3n1 =>
        refine ak (fun _ => ⟨rfl, fun _ _ => rfl⟩) ?_
        refine ak (fun _ => ⟨rfl, fun _ _ => rfl⟩) ?_
        refine ak (fun γ => ⟨rfl, fun w' _ => ex_ixP40 (j := k) E2.out rfl rfl rfl (by omega)⟩) ?_
        refine ak (fun γ => ⟨rfl, fun w' hX => ex_ld45 (j := k) hX.2.2.2 E2.out (by omega) rfl rfl⟩) ?_
        refine ak (fun γ => ⟨rfl, fun w' => ex_mk45 rfl⟩) ?_
        refine ak (fun γ => ⟨rfl, rfl, rfl, fun w' h => ex_laidT h rfl rfl Tryd.sizeOf45 rfl rfl rfl⟩) ?_
        exact trivial
      intro γ w125 l hM hl
      have M125 : Mm w125 [(γ 4, ac (X k)), (gm, [Value.slice q0.p q0.n q0.cp, Value.slice q1.p q1.n q1.cp]), (gh, [PT g0 0, PT g1 0]), (g0, hs true ((hq q0.f q0.n).s) ((hq q0.f q0.n).r) ((hq q0.f q0.n).c)), (g1, hs true ((hq q1.f q1.n).s) ((hq q1.f q1.n).r) ((hq q1.f q1.n).c)), (0, ints .u32 fT 8), (1, ints .u32 kT 64)] := H124.out.1.grow hM (Nat.le_refl _) hl [4] rfl (by decide)
      have B125 : Sr w [gh, gm, g0, g1] q0 q1 w125 := Sr.step H124.out.2 (hM.below)
      have o105_4 : Hid (w.heap.size ≤ γ 4) := Nat.le_trans H124.out.2.size (hM.fin (Nat.le_refl _) hl (i := 4) rfl).2.1
      clear hM hl l H124
      generalize γ 4 = γ105_4 at M125 o105_4 ⊢
      clear γ
      have H125 : Hid (_ ∧ _) := ⟨M125, B125⟩
      clear M125 B125
      refine rest0 rfl (then_normal (wp_seq (wp_seq ?_)))
      refine walk_seqA 4 [.quiet (PT γ105_4 1), .quiet (.slice (X k).q.p (X k).q.n (X k).q.cp), .quiet (.int .i64 (((X k).q.n : Nat) : Int)), .quiet (.bool false)] (sB H125) ?ho106K3n1 ?he106K3n1
      case ho106K3n1 => exact ak (by refine fun γ => ⟨rfl, fun w' h => ?_⟩; clear h; go_simp) (ak (fun γ => ⟨rfl, fun w' h => ex_loadC h 0 rfl rfl rfl Tryd.isAgg22 rfl⟩) (ak (by refine fun γ => ⟨rfl, fun w' h => ?_⟩; clear h; go_simp) (ak (by refine fun γ => ⟨rfl, fun w' h => ?_⟩; clear h; go_simp <;> omega) trivial)))
      intro γ w126 l hM hl
      have M126 : Mm w126 [(γ105_4, ac (X k)), (gm, [Value.slice q0.p q0.n q0.cp, Value.slice q1.p q1.n q1.cp]), (gh, [PT g0 0, PT g1 0]), (g0, hs true ((hq q0.f q0.n).s) ((hq q0.f q0.n).r) ((hq q0.f q0.n).c)), (g1, hs true ((hq q1.f q1.n).s) ((hq q1.f q1.n).r) ((hq q1.f q1.n).c)), (0, ints .u32 fT 8), (1, ints .u32 kT 64)] := H125.out.1.grow hM (Nat.le_refl _) hl [] rfl (by decide)
      have B126 : Sr w [gh, gm, g0, g1] q0 q1 w126 := Sr.step H125.out.2 (hM.below)
      clear hM hl l H125
      clear γ
      have H126 : Hid (_ ∧ _) := ⟨M126, B126⟩
      clear M126 B126
      refine rest0 rfl (then_normal (wp_cond_false rfl ?_))
      refine wp_skip (then_normal ?_)
      refine wp_seq (wp_seq ?_)
      refine walk_seqA 5 [.quiet (.slice (some ⟨gh, 0, none⟩) 2 2), .quiet (.int .i64 1), .quiet (PT gh 1), .quiet (PT g1 0), .quiet (.bool false)] (sB H126) ?ho107K3n1 ?he107K3n1
      case ho107K3n1 => exact ak (fun _ => ⟨rfl, fun _ _ => rfl⟩) (ak (fun _ => ⟨rfl, fun _ _ => rfl⟩) (ak (fun γ => ⟨rfl, fun w' _ => ex_ixP43 (j := 1) (off := 0) rfl rfl rfl rfl (by decide)⟩) (ak (fun γ => ⟨rfl, fun w' h => ex_loadC h 2 rfl rfl rfl Tryd.isAgg41 rfl⟩) (ak (by refine fun γ => ⟨rfl, fun w' h => ?_⟩; clear h; go_simp) trivial))))
      intro γ w127 l hM hl
      have M127 : Mm w127 [(γ105_4, ac (X k)), (gm, [Value.slice q0.p q0.n q0.cp, Value.slice q1.p q1.n q1.cp]), (gh, [PT g0 0, PT g1 0]), (g0, hs true ((hq q0.f q0.n).s) ((hq q0.f q0.n).r) ((hq q0.f q0.n).c)), (g1, hs true ((hq q1.f q1.n).s) ((hq q1.f q1.n).r) ((hq q1.f q1.n).c)), (0, ints .u32 fT 8), (1, ints .u32 kT 64)] := H126.out.1.grow hM (Nat.le_refl _) hl [] rfl (by decide)
      have B127 : Sr w [gh, gm, g0, g1] q0 q1 w127 := Sr.step H126.out.2 (hM.below)
      clear hM hl l H126
      clear γ
      have H127 : Hid (_ ∧ _) := ⟨M127, B127⟩
      clear M127 B127
      refine rest0 rfl (then_normal (wp_cond_false rfl ?_))
      refine wp_skip (then_normal ?_)
      refine wp_seq (wp_seq ?_)
      refine walk_seqA 2 [.quiet (PT γ105_4 0), .quiet (Z8 ((X k).kd))] (sB H127) ?ho108K3n1 ?he108K3n1
      case ho108K3n1 => exact ak (by refine fun γ => ⟨rfl, fun w' h => ?_⟩; clear h; go_simp) (ak (fun γ => ⟨rfl, fun w' h => ex_loadC h 0 rfl rfl rfl Tryd.isAgg5 rfl⟩) trivial)
      intro γ w128 l hM hl
      have M128 : Mm w128 [(γ105_4, ac (X k)), (gm, [Value.slice q0.p q0.n q0.cp, Value.slice q1.p q1.n q1.cp]), (gh, [PT g0 0, PT g1 0]), (g0, hs true ((hq q0.f q0.n).s) ((hq q0.f q0.n).r) ((hq q0.f q0.n).c)), (g1, hs true ((hq q1.f q1.n).s) ((hq q1.f q1.n).r) ((hq q1.f q1.n).c)), (0, ints .u32 fT 8), (1, ints .u32 kT 64)] := H127.out.1.grow hM (Nat.le_refl _) hl [] rfl (by decide)
      have B128 : Sr w [gh, gm, g0, g1] q0 q1 w128 := Sr.step H127.out.2 (hM.below)
      clear hM hl l H127
      clear γ
      have H128 : Hid (_ ∧ _) := ⟨M128, B128⟩
      clear M128 B128
      refine rest0 rfl (then_normal (wp_block (wp_seq ?_)))
      refine walk_seqA 2 [.quiet (.bool false), .quiet (.bool false)] (sB H128) ?ho109K3n1 ?he109K3n1
      case ho109K3n1 => exact ak (fun γ => ⟨rfl, fun w' _ => ex_eq8 (b := 0) (decide_eq_false (by omega)) rfl rfl rfl⟩) (ak (fun _ => ⟨rfl, fun _ _ => rfl⟩) trivial)
      intro γ w129 l hM hl
      have M129 : Mm w129 [(γ105_4, ac (X k)), (gm, [Value.slice q0.p q0.n q0.cp, Value.slice q1.p q1.n q1.cp]), (gh, [PT g0 0, PT g1 0]), (g0, hs true ((hq q0.f q0.n).s) ((hq q0.f q0.n).r) ((hq q0.f q0.n).c)), (g1, hs true ((hq q1.f q1.n).s) ((hq q1.f q1.n).r) ((hq q1.f q1.n).c)), (0, ints .u32 fT 8), (1, ints .u32 kT 64)] := H128.out.1.grow hM (Nat.le_refl _) hl [] rfl (by decide)
      have B129 : Sr w [gh, gm, g0, g1] q0 q1 w129 := Sr.step H128.out.2 (hM.below)
      clear hM hl l H128
      clear γ
      have H129 : Hid (_ ∧ _) := ⟨M129, B129⟩
      clear M129 B129
      refine rest0 rfl (then_normal (wp_cond_false rfl (wp_seq ?_)))
      refine walk_seqA 2 [.quiet (.bool false), .quiet (.bool false)] (sB H129) ?ho110K3n1 ?he110K3n1
      case ho110K3n1 => exact ak (fun γ => ⟨rfl, fun w' _ => ex_eq8 (b := 1) (decide_eq_false (by omega)) rfl rfl rfl⟩) (ak (fun _ => ⟨rfl, fun _ _ => rfl⟩) trivial)
      intro γ w130 l hM hl
      have M130 : Mm w130 [(γ105_4, ac (X k)), (gm, [Value.slice q0.p q0.n q0.cp, Value.slice q1.p q1.n q1.cp]), (gh, [PT g0 0, PT g1 0]), (g0, hs true ((hq q0.f q0.n).s) ((hq q0.f q0.n).r) ((hq q0.f q0.n).c)), (g1, hs true ((hq q1.f q1.n).s) ((hq q1.f q1.n).r) ((hq q1.f q1.n).c)), (0, ints .u32 fT 8), (1, ints .u32 kT 64)] := H129.out.1.grow hM (Nat.le_refl _) hl [] rfl (by decide)
      have B130 : Sr w [gh, gm, g0, g1] q0 q1 w130 := Sr.step H129.out.2 (hM.below)
      clear hM hl l H129
      clear γ
      have H130 : Hid (_ ∧ _) := ⟨M130, B130⟩
      clear M130 B130
      refine rest0 rfl (then_normal (wp_cond_false rfl (wp_seq ?_)))
      refine walk_seqA 2 [.quiet (.bool false), .quiet (.bool false)] (sB H130) ?ho111K3n1 ?he111K3n1
      case ho111K3n1 => exact ak (fun γ => ⟨rfl, fun w' _ => ex_eq8 (b := 2) (decide_eq_false (by omega)) rfl rfl rfl⟩) (ak (fun _ => ⟨rfl, fun _ _ => rfl⟩) trivial)
      intro γ w131 l hM hl
      have M131 : Mm w131 [(γ105_4, ac (X k)), (gm, [Value.slice q0.p q0.n q0.cp, Value.slice q1.p q1.n q1.cp]), (gh, [PT g0 0, PT g1 0]), (g0, hs true ((hq q0.f q0.n).s) ((hq q0.f q0.n).r) ((hq q0.f q0.n).c)), (g1, hs true ((hq q1.f q1.n).s) ((hq q1.f q1.n).r) ((hq q1.f q1.n).c)), (0, ints .u32 fT 8), (1, ints .u32 kT 64)] := H130.out.1.grow hM (Nat.le_refl _) hl [] rfl (by decide)
      have B131 : Sr w [gh, gm, g0, g1] q0 q1 w131 := Sr.step H130.out.2 (hM.below)
      clear hM hl l H130
      clear γ
      have H131 : Hid (_ ∧ _) := ⟨M131, B131⟩
      clear M131 B131
      refine rest0 rfl (then_normal (wp_cond_false rfl (wp_seq ?_)))
      refine walk_seqA 2 [.quiet (.bool true), .quiet (.bool true)] (sB H131) ?ho112K3n1 ?he112K3n1
      case ho112K3n1 => exact ak (fun γ => ⟨rfl, fun w' _ => ex_eq8 (b := 3) (decide_eq_true (by omega)) rfl rfl rfl⟩) (ak (fun _ => ⟨rfl, fun _ _ => rfl⟩) trivial)
      intro γ w132 l hM hl
      have M132 : Mm w132 [(γ105_4, ac (X k)), (gm, [Value.slice q0.p q0.n q0.cp, Value.slice q1.p q1.n q1.cp]), (gh, [PT g0 0, PT g1 0]), (g0, hs true ((hq q0.f q0.n).s) ((hq q0.f q0.n).r) ((hq q0.f q0.n).c)), (g1, hs true ((hq q1.f q1.n).s) ((hq q1.f q1.n).r) ((hq q1.f q1.n).c)), (0, ints .u32 fT 8), (1, ints .u32 kT 64)] := H131.out.1.grow hM (Nat.le_refl _) hl [] rfl (by decide)
      have B132 : Sr w [gh, gm, g0, g1] q0 q1 w132 := Sr.step H131.out.2 (hM.below)
      clear hM hl l H131
      clear γ
      have H132 : Hid (_ ∧ _) := ⟨M132, B132⟩
      clear M132 B132
      refine rest0 rfl (then_normal (wp_cond_true rfl ?_))
      refine walk_seqA 2 [.quiet (.int .i64 1), .quiet (.int .i64 0)] (sB H132) ?ho113K3n1 ?he113K3n1
      case ho113K3n1 => exact ak (fun _ => ⟨rfl, fun _ _ => rfl⟩) (ak (by refine fun γ => ⟨rfl, fun w' h => ?_⟩; clear h; go_simp; rw [IntKind.wrap_i64]; omega) trivial)
      intro γ w133 l hM hl
      have M133 : Mm w133 [(γ105_4, ac (X k)), (gm, [Value.slice q0.p q0.n q0.cp, Value.slice q1.p q1.n q1.cp]), (gh, [PT g0 0, PT g1 0]), (g0, hs true ((hq q0.f q0.n).s) ((hq q0.f q0.n).r) ((hq q0.f q0.n).c)), (g1, hs true ((hq q1.f q1.n).s) ((hq q1.f q1.n).r) ((hq q1.f q1.n).c)), (0, ints .u32 fT 8), (1, ints .u32 kT 64)] := H132.out.1.grow hM (Nat.le_refl _) hl [] rfl (by decide)
      have B133 : Sr w [gh, gm, g0, g1] q0 q1 w133 := Sr.step H132.out.2 (hM.below)
      clear hM hl l H132
      clear γ
      have H133 : Hid (_ ∧ _) := ⟨M133, B133⟩
      clear M133 B133
      refine rest_at (l := [2]) rfl ?_
      refine rest_set (d := 5) (v := .int .i64 0) (w' := w133) rfl rfl rfl rfl ?_
      simp only [Act.put, sa, sz, ss]
      refine rest_nil (block_normal ?_)
      refine then_normal (wp_seq ?_)
      refine walk_anyA 18 [.quiet (.slice (some ⟨gh, 0, none⟩) 2 2), .quiet (.int .i64 0), .quiet (PT gh 0), .quiet (PT g0 0), .quiet (.bool false), .quiet (.bool false), .quiet (.slice (some ⟨gh, 0, none⟩) 2 2), .quiet (.int .i64 0), .quiet (PT gh 0), .quiet (PT g0 0), .call (.int .i64 ((q0.n : Nat) : Int)), .quiet (.slice (some ⟨gm, 0, none⟩) 2 2), .quiet (.int .i64 0), .quiet (PT gm 0), .quiet (.slice q0.p q0.n q0.cp), .quiet (.int .i64 ((q0.n : Nat) : Int)), .quiet (.bool false), .quiet (.bool false)] (sB H133) ?ho114K3n1 ?he114K3n1
      case ho114K3n1 => exact ak (fun _ => ⟨rfl, fun _ _ => rfl⟩) (ak (fun _ => ⟨rfl, fun _ _ => rfl⟩) (ak (fun γ => ⟨rfl, fun w' _ => ex_ixP43 (j := 0) (off := 0) rfl rfl rfl rfl (by decide)⟩) (ak (fun γ => ⟨rfl, fun w' h => ex_loadC h 2 rfl rfl rfl Tryd.isAgg41 rfl⟩) (ak (by refine fun γ => ⟨rfl, fun w' h => ?_⟩; clear h; go_simp) (ak (fun _ => ⟨rfl, fun _ _ => rfl⟩) (ak (fun _ => ⟨rfl, fun _ _ => rfl⟩) (ak (fun _ => ⟨rfl, fun _ _ => rfl⟩) (ak (fun γ => ⟨rfl, fun w' _ => ex_ixP43 (j := 0) (off := 0) rfl rfl rfl rfl (by decide)⟩) (ak (fun γ => ⟨rfl, fun w' h => ex_loadC h 2 rfl rfl rfl Tryd.isAgg41 rfl⟩) (ak (fun γ => ⟨rfl, fun w' h => ⟨31, #[PT g0 0], exec_call rfl call31 rfl (mpn rfl), Len_hq g0 q0 (by omega) w' (h.one 3 rfl)⟩⟩) (ak (fun _ => ⟨rfl, fun _ _ => rfl⟩) (ak (fun _ => ⟨rfl, fun _ _ => rfl⟩) (ak (fun γ => ⟨rfl, fun w' _ => ex_ixP29 (j := 0) (off := 0) rfl rfl rfl rfl (by decide)⟩) (ak (fun γ => ⟨rfl, fun w' h => ex_loadC h 1 rfl rfl rfl Tryd.isAgg22 rfl⟩) (ak (by refine fun γ => ⟨rfl, fun w' h => ?_⟩; clear h; go_simp) (ak (by refine fun γ => ⟨rfl, fun w' h => ?_⟩; clear h; go_simp <;> omega) (ak (by refine fun γ => ⟨rfl, fun w' h => ?_⟩; clear h; go_simp) trivial)))))))))))))))))
      intro γ w134 l hM hl
      have M134 : Mm w134 [(γ105_4, ac (X k)), (gm, [Value.slice q0.p q0.n q0.cp, Value.slice q1.p q1.n q1.cp]), (gh, [PT g0 0, PT g1 0]), (g0, hs true ((hq q0.f q0.n).s) ((hq q0.f q0.n).r) ((hq q0.f q0.n).c)), (g1, hs true ((hq q1.f q1.n).s) ((hq q1.f q1.n).r) ((hq q1.f q1.n).c)), (0, ints .u32 fT 8), (1, ints .u32 kT 64)] := H133.out.1.grow hM (Nat.le_refl _) hl [] rfl (by decide)
      have B134 : Sr w [gh, gm, g0, g1] q0 q1 w134 := Sr.step H133.out.2 (hM.below)
      clear hM hl l H133
      clear γ
      have H134 : Hid (_ ∧ _) := ⟨M134, B134⟩
      clear M134 B134
      refine rest0 rfl (then_normal (wp_cond_false rfl ?_))
      refine wp_skip (block_normal (then_normal ?_))
      refine walk_seqA 2 [.quiet (.int .i64 ((k : Nat) : Int)), .quiet (.int .i64 ((k + 1 : Nat) : Int))] (sB H134) ?ho115K3n1 ?he115K3n1
      case ho115K3n1 => exact ak (fun _ => ⟨rfl, fun _ _ => rfl⟩) (ak (by refine fun γ => ⟨rfl, fun w' h => ?_⟩; clear h; go_simp; rw [IntKind.wrap_i64]; omega) trivial)
      intro γ w135 l hM hl
      have M135 : Mm w135 [(γ105_4, ac (X k)), (gm, [Value.slice q0.p q0.n q0.cp, Value.slice q1.p q1.n q1.cp]), (gh, [PT g0 0, PT g1 0]), (g0, hs true ((hq q0.f q0.n).s) ((hq q0.f q0.n).r) ((hq q0.f q0.n).c)), (g1, hs true ((hq q1.f q1.n).s) ((hq q1.f q1.n).r) ((hq q1.f q1.n).c)), (0, ints .u32 fT 8), (1, ints .u32 kT 64)] := H134.out.1.grow hM (Nat.le_refl _) hl [] rfl (by decide)
      have B135 : Sr w [gh, gm, g0, g1] q0 q1 w135 := Sr.step H134.out.2 (hM.below)
      clear hM hl l H134
      clear γ
      have H135 : Hid (_ ∧ _) := ⟨M135, B135⟩
      clear M135 B135
      refine rest_at (l := [2]) rfl ?_
      refine rest_set (d := 6) (v := .int .i64 ((k + 1 : Nat) : Int)) (w' := w135) rfl rfl rfl rfl ?_
      simp only [Act.put, sa, sz, ss]
      refine rest_nil (then_normal ?_)
      exact ⟨⟨k + 1, 0, g0, g1, q0, q1⟩, ⟨(slotfn [undef, undef, s0 2, undef, undef, undef, undef, PT γ105_4 0, s0 8, undef, undef, undef, undef, undef, undef, undef, .int .i64 ((k : Nat) : Int), .slice pl m c2, .int .i64 ((m : Nat) : Int), .bool true, .int .i64 ((k : Nat) : Int), .int .i64 ((k + 1 : Nat) : Int), .slice pl m c2, .int .i64 ((k : Nat) : Int), PT ga (oa + 2 * k), .agg (ac (X k)).toArray, PT γ105_4 1, .slice (X k).q.p (X k).q.n (X k).q.cp, .int .i64 (((X k).q.n : Nat) : Int), .bool false, .slice (some ⟨gh, 0, none⟩) 2 2, .int .i64 1, PT gh 1, PT g1 0, .bool false, PT γ105_4 0, Z8 ((X k).kd), .bool false, .bool false, s0 39, s0 40, s0 41, s0 42, s0 43, s0 44, s0 45, s0 46, s0 47, s0 48, s0 49, s0 50, s0 51, s0 52, s0 53, s0 54, s0 55, s0 56, s0 57, s0 58, s0 59, s0 60, s0 61, s0 62, s0 63, s0 64, s0 65, s0 66, s0 67, s0 68, .bool false, .bool false, s0 71, s0 72, s0 73, s0 74, s0 75, s0 76, s0 77, s0 78, s0 79, s0 80, s0 81, .bool false, .bool false, s0 84, s0 85, s0 86, s0 87, s0 88, s0 89, s0 90, s0 91, s0 92, s0 93, s0 94, s0 95, s0 96, s0 97, s0 98, s0 99, s0 100, s0 101, s0 102, .bool true, .bool true, .int .i64 1, .int .i64 0, .slice (some ⟨gh, 0, none⟩) 2 2, .int .i64 0, PT gh 0, PT g0 0, .bool false, .bool false, .slice (some ⟨gh, 0, none⟩) 2 2, .int .i64 0, PT gh 0, PT g0 0, .int .i64 ((q0.n : Nat) : Int), .slice (some ⟨gm, 0, none⟩) 2 2, .int .i64 0, PT gm 0, .slice q0.p q0.n q0.cp, .int .i64 ((q0.n : Nat) : Int), .bool false, .bool false]), rfl, ⟨H135.out.1.sel [1, 2, 3, 4, 5, 6] (by decide) rfl, H135.out.2.b⟩, ⟨by show k + 1 ≤ m; omega, by show 0 < 2; decide, by show q0.n ≤ 4000 * (k + 1); omega, by show q1.n ≤ 4000 * (k + 1); omega, hp0, hp1, o_g0.out, o_g1.out, H135.out.2.less (by simp)⟩⟩, by show m - (k + 1) < m - k; omega⟩
    · have hrd : True := trivial
      clear hrd
      refine wp_seq (wp_seq ?_)
      refine walk_seqA 4 [.quiet (.int .i64 ((k : Nat) : Int)), .quiet (.slice pl m c2), .quiet (.int .i64 ((m : Nat) : Int)), .quiet (.bool true)] (sB H10) ?ho116K4n1 ?he116K4n1
      case ho116K4n1 => exact ak (fun _ => ⟨rfl, fun _ _ => rfl⟩) (ak (fun _ => ⟨rfl, fun _ _ => rfl⟩) (ak (by refine fun γ => ⟨rfl, fun w' h => ?_⟩; clear h; go_simp) (ak (by refine fun γ => ⟨rfl, fun w' h => ?_⟩; clear h; go_simp <;> omega) trivial)))
      intro γ w136 l hM hl
      have M136 : Mm w136 [(gm, [Value.slice q0.p q0.n q0.cp, Value.slice q1.p q1.n q1.cp]), (gh, [PT g0 0, PT g1 0]), (g0, hs true ((hq q0.f q0.n).s) ((hq q0.f q0.n).r) ((hq q0.f q0.n).c)), (g1, hs true ((hq q1.f q1.n).s) ((hq q1.f q1.n).r) ((hq q1.f q1.n).c)), (0, ints .u32 fT 8), (1, ints .u32 kT 64)] := H10.out.1.grow hM (Nat.le_refl _) hl [] rfl (by decide)
      have B136 : Sr w [gh, gm, g0, g1] q0 q1 w136 := Sr.step H10.out.2 (hM.below)
      clear hM hl l H10
      clear γ
      have H136 : Hid (_ ∧ _) := ⟨M136, B136⟩
      clear M136 B136
      refine rest0 rfl (then_normal (wp_cond_true rfl ?_))
      refine wp_skip (then_normal ?_)
      refine wp_seq (wp_block (wp_seq ?_))
      refine (walk_seq) 6 [.quiet (.slice pl m c2), .quiet (.int .i64 ((k : Nat) : Int)), .quiet (PT ga (oa + 2 * k)), .quiet (.agg (ac (X k)).toArray), .made [Z8 0, .slice none 0 0] 45, .laid 4 [Z8 0, .slice none 0 0] (ac (X k))] (fun u' => Mm u' [(gm, [Value.slice q0.p q0.n q0.cp, Value.slice q1.p q1.n q1.cp]), (gh, [PT g0 0, PT g1 0]), (g0, hs true ((hq q0.f q0.n).s) ((hq q0.f q0.n).r) ((hq q0.f q0.n).c)), (g1, hs true ((hq q1.f q1.n).s) ((hq q1.f q1.n).r) ((hq q1.f q1.n).c)), (0, ints .u32 fT 8), (1, ints .u32 kT 64)] ∧ (q0.rs u' ∧ q1.rs u' ∧ Lc pl X m u')) ?pre117K4n1 ?F117K4n1 ?hpre117K4n1 (fun γ => ?hF117K4n1) (by kernel_rfl) ?hL117K4n1 ?hS117K4n1 ?ho117K4n1 ?he117K4n1
      case hpre117K4n1 => simp only [tk, tz]; rfl
      case hF117K4n1 => simp only [fill, Kind.val, Act.put, sa, sz, ss]; rfl
      case hL117K4n1 => exact ⟨⟨_, rfl⟩, trivial⟩
      case hS117K4n1 => exact fun w' hb => ⟨H136.out.1.below hb, ⟨(Sr.step H136.out.2 (hb)).r0, (Sr.step H136.out.2 (hb)).r1, LC.out.below (Sr.step H136.out.2 (hb)).b⟩⟩
      case ho117K4n1 =>
        refine ak (fun _ => ⟨rfl, fun _ _ => rfl⟩) ?_
        refine ak (fun _ => ⟨rfl, fun _ _ => rfl⟩) ?_
        refine ak (fun γ => ⟨rfl, fun w' _ => ex_ixP40 (j := k) E2.out rfl rfl rfl (by omega)⟩) ?_
        refine ak (fun γ => ⟨rfl, fun w' hX => ex_ld45 (j := k) hX.2.2.2 E2.out (by omega) rfl rfl⟩) ?_
        refine ak (fun γ => ⟨rfl, fun w' => ex_mk45 rfl⟩) ?_
        refine ak (fun γ => ⟨rfl, rfl, rfl, fun w' h => ex_laidT h rfl rfl Tryd.sizeOf45 rfl rfl rfl⟩) ?_
        exact trivial
      intro γ w137 l hM hl
      have M137 : Mm w137 [(γ 4, ac (X k)), (gm, [Value.slice q0.p q0.n q0.cp, Value.slice q1.p q1.n q1.cp]), (gh, [PT g0 0, PT g1 0]), (g0, hs true ((hq q0.f q0.n).s) ((hq q0.f q0.n).r) ((hq q0.f q0.n).c)), (g1, hs true ((hq q1.f q1.n).s) ((hq q1.f q1.n).r) ((hq q1.f q1.n).c)), (0, ints .u32 fT 8), (1, ints .u32 kT 64)] := H136.out.1.grow hM (Nat.le_refl _) hl [4] rfl (by decide)
      have B137 : Sr w [gh, gm, g0, g1] q0 q1 w137 := Sr.step H136.out.2 (hM.below)
      have o117_4 : Hid (w.heap.size ≤ γ 4) := Nat.le_trans H136.out.2.size (hM.fin (Nat.le_refl _) hl (i := 4) rfl).2.1
      clear hM hl l H136
      generalize γ 4 = γ117_4 at M137 o117_4 ⊢
      clear γ
      have H137 : Hid (_ ∧ _) := ⟨M137, B137⟩
      clear M137 B137
      refine rest0 rfl (then_normal (wp_seq (wp_seq ?_)))
      refine walk_seqA 4 [.quiet (PT γ117_4 1), .quiet (.slice (X k).q.p (X k).q.n (X k).q.cp), .quiet (.int .i64 (((X k).q.n : Nat) : Int)), .quiet (.bool false)] (sB H137) ?ho118K4n1 ?he118K4n1
      case ho118K4n1 => exact ak (by refine fun γ => ⟨rfl, fun w' h => ?_⟩; clear h; go_simp) (ak (fun γ => ⟨rfl, fun w' h => ex_loadC h 0 rfl rfl rfl Tryd.isAgg22 rfl⟩) (ak (by refine fun γ => ⟨rfl, fun w' h => ?_⟩; clear h; go_simp) (ak (by refine fun γ => ⟨rfl, fun w' h => ?_⟩; clear h; go_simp <;> omega) trivial)))
      intro γ w138 l hM hl
      have M138 : Mm w138 [(γ117_4, ac (X k)), (gm, [Value.slice q0.p q0.n q0.cp, Value.slice q1.p q1.n q1.cp]), (gh, [PT g0 0, PT g1 0]), (g0, hs true ((hq q0.f q0.n).s) ((hq q0.f q0.n).r) ((hq q0.f q0.n).c)), (g1, hs true ((hq q1.f q1.n).s) ((hq q1.f q1.n).r) ((hq q1.f q1.n).c)), (0, ints .u32 fT 8), (1, ints .u32 kT 64)] := H137.out.1.grow hM (Nat.le_refl _) hl [] rfl (by decide)
      have B138 : Sr w [gh, gm, g0, g1] q0 q1 w138 := Sr.step H137.out.2 (hM.below)
      clear hM hl l H137
      clear γ
      have H138 : Hid (_ ∧ _) := ⟨M138, B138⟩
      clear M138 B138
      refine rest0 rfl (then_normal (wp_cond_false rfl ?_))
      refine wp_skip (then_normal ?_)
      refine wp_seq (wp_seq ?_)
      refine walk_seqA 5 [.quiet (.slice (some ⟨gh, 0, none⟩) 2 2), .quiet (.int .i64 1), .quiet (PT gh 1), .quiet (PT g1 0), .quiet (.bool false)] (sB H138) ?ho119K4n1 ?he119K4n1
      case ho119K4n1 => exact ak (fun _ => ⟨rfl, fun _ _ => rfl⟩) (ak (fun _ => ⟨rfl, fun _ _ => rfl⟩) (ak (fun γ => ⟨rfl, fun w' _ => ex_ixP43 (j := 1) (off := 0) rfl rfl rfl rfl (by decide)⟩) (ak (fun γ => ⟨rfl, fun w' h => ex_loadC h 2 rfl rfl rfl Tryd.isAgg41 rfl⟩) (ak (by refine fun γ => ⟨rfl, fun w' h => ?_⟩; clear h; go_simp) trivial))))
      intro γ w139 l hM hl
      have M139 : Mm w139 [(γ117_4, ac (X k)), (gm, [Value.slice q0.p q0.n q0.cp, Value.slice q1.p q1.n q1.cp]), (gh, [PT g0 0, PT g1 0]), (g0, hs true ((hq q0.f q0.n).s) ((hq q0.f q0.n).r) ((hq q0.f q0.n).c)), (g1, hs true ((hq q1.f q1.n).s) ((hq q1.f q1.n).r) ((hq q1.f q1.n).c)), (0, ints .u32 fT 8), (1, ints .u32 kT 64)] := H138.out.1.grow hM (Nat.le_refl _) hl [] rfl (by decide)
      have B139 : Sr w [gh, gm, g0, g1] q0 q1 w139 := Sr.step H138.out.2 (hM.below)
      clear hM hl l H138
      clear γ
      have H139 : Hid (_ ∧ _) := ⟨M139, B139⟩
      clear M139 B139
      refine rest0 rfl (then_normal (wp_cond_false rfl ?_))
      refine wp_skip (then_normal ?_)
      refine wp_seq (wp_seq ?_)
      refine walk_seqA 2 [.quiet (PT γ117_4 0), .quiet (Z8 ((X k).kd))] (sB H139) ?ho120K4n1 ?he120K4n1
      case ho120K4n1 => exact ak (by refine fun γ => ⟨rfl, fun w' h => ?_⟩; clear h; go_simp) (ak (fun γ => ⟨rfl, fun w' h => ex_loadC h 0 rfl rfl rfl Tryd.isAgg5 rfl⟩) trivial)
      intro γ w140 l hM hl
      have M140 : Mm w140 [(γ117_4, ac (X k)), (gm, [Value.slice q0.p q0.n q0.cp, Value.slice q1.p q1.n q1.cp]), (gh, [PT g0 0, PT g1 0]), (g0, hs true ((hq q0.f q0.n).s) ((hq q0.f q0.n).r) ((hq q0.f q0.n).c)), (g1, hs true ((hq q1.f q1.n).s) ((hq q1.f q1.n).r) ((hq q1.f q1.n).c)), (0, ints .u32 fT 8), (1, ints .u32 kT 64)] := H139.out.1.grow hM (Nat.le_refl _) hl [] rfl (by decide)
      have B140 : Sr w [gh, gm, g0, g1] q0 q1 w140 := Sr.step H139.out.2 (hM.below)
      clear hM hl l H139
      clear γ
      have H140 : Hid (_ ∧ _) := ⟨M140, B140⟩
      clear M140 B140
      refine rest0 rfl (then_normal (wp_block (wp_seq ?_)))
      refine walk_seqA 2 [.quiet (.bool false), .quiet (.bool false)] (sB H140) ?ho121K4n1 ?he121K4n1
      case ho121K4n1 => exact ak (fun γ => ⟨rfl, fun w' _ => ex_eq8 (b := 0) (decide_eq_false (by omega)) rfl rfl rfl⟩) (ak (fun _ => ⟨rfl, fun _ _ => rfl⟩) trivial)
      intro γ w141 l hM hl
      have M141 : Mm w141 [(γ117_4, ac (X k)), (gm, [Value.slice q0.p q0.n q0.cp, Value.slice q1.p q1.n q1.cp]), (gh, [PT g0 0, PT g1 0]), (g0, hs true ((hq q0.f q0.n).s) ((hq q0.f q0.n).r) ((hq q0.f q0.n).c)), (g1, hs true ((hq q1.f q1.n).s) ((hq q1.f q1.n).r) ((hq q1.f q1.n).c)), (0, ints .u32 fT 8), (1, ints .u32 kT 64)] := H140.out.1.grow hM (Nat.le_refl _) hl [] rfl (by decide)
      have B141 : Sr w [gh, gm, g0, g1] q0 q1 w141 := Sr.step H140.out.2 (hM.below)
      clear hM hl l H140
      clear γ
      have H141 : Hid (_ ∧ _) := ⟨M141, B141⟩
      clear M141 B141
      refine rest0 rfl (then_normal (wp_cond_false rfl (wp_seq ?_)))
      refine walk_seqA 2 [.quiet (.bool false), .quiet (.bool false)] (sB H141) ?ho122K4n1 ?he122K4n1
      case ho122K4n1 => exact ak (fun γ => ⟨rfl, fun w' _ => ex_eq8 (b := 1) (decide_eq_false (by omega)) rfl rfl rfl⟩) (ak (fun _ => ⟨rfl, fun _ _ => rfl⟩) trivial)
      intro γ w142 l hM hl
      have M142 : Mm w142 [(γ117_4, ac (X k)), (gm, [Value.slice q0.p q0.n q0.cp, Value.slice q1.p q1.n q1.cp]), (gh, [PT g0 0, PT g1 0]), (g0, hs true ((hq q0.f q0.n).s) ((hq q0.f q0.n).r) ((hq q0.f q0.n).c)), (g1, hs true ((hq q1.f q1.n).s) ((hq q1.f q1.n).r) ((hq q1.f q1.n).c)), (0, ints .u32 fT 8), (1, ints .u32 kT 64)] := H141.out.1.grow hM (Nat.le_refl _) hl [] rfl (by decide)
      have B142 : Sr w [gh, gm, g0, g1] q0 q1 w142 := Sr.step H141.out.2 (hM.below)
      clear hM hl l H141
      clear γ
      have H142 : Hid (_ ∧ _) := ⟨M142, B142⟩
      clear M142 B142
      refine rest0 rfl (then_normal (wp_cond_false rfl (wp_seq ?_)))
      refine walk_seqA 2 [.quiet (.bool false), .quiet (.bool false)] (sB H142) ?ho123K4n1 ?he123K4n1
      case ho123K4n1 => exact ak (fun γ => ⟨rfl, fun w' _ => ex_eq8 (b := 2) (decide_eq_false (by omega)) rfl rfl rfl⟩) (ak (fun _ => ⟨rfl, fun _ _ => rfl⟩) trivial)
      intro γ w143 l hM hl
      have M143 : Mm w143 [(γ117_4, ac (X k)), (gm, [Value.slice q0.p q0.n q0.cp, Value.slice q1.p q1.n q1.cp]), (gh, [PT g0 0, PT g1 0]), (g0, hs true ((hq q0.f q0.n).s) ((hq q0.f q0.n).r) ((hq q0.f q0.n).c)), (g1, hs true ((hq q1.f q1.n).s) ((hq q1.f q1.n).r) ((hq q1.f q1.n).c)), (0, ints .u32 fT 8), (1, ints .u32 kT 64)] := H142.out.1.grow hM (Nat.le_refl _) hl [] rfl (by decide)
      have B143 : Sr w [gh, gm, g0, g1] q0 q1 w143 := Sr.step H142.out.2 (hM.below)
      clear hM hl l H142
      clear γ
      have H143 : Hid (_ ∧ _) := ⟨M143, B143⟩
      clear M143 B143
      refine rest0 rfl (then_normal (wp_cond_false rfl (wp_seq ?_)))
      refine walk_seqA 2 [.quiet (.bool false), .quiet (.bool false)] (sB H143) ?ho124K4n1 ?he124K4n1
      case ho124K4n1 => exact ak (fun γ => ⟨rfl, fun w' _ => ex_eq8 (b := 3) (decide_eq_false (by omega)) rfl rfl rfl⟩) (ak (fun _ => ⟨rfl, fun _ _ => rfl⟩) trivial)
      intro γ w144 l hM hl
      have M144 : Mm w144 [(γ117_4, ac (X k)), (gm, [Value.slice q0.p q0.n q0.cp, Value.slice q1.p q1.n q1.cp]), (gh, [PT g0 0, PT g1 0]), (g0, hs true ((hq q0.f q0.n).s) ((hq q0.f q0.n).r) ((hq q0.f q0.n).c)), (g1, hs true ((hq q1.f q1.n).s) ((hq q1.f q1.n).r) ((hq q1.f q1.n).c)), (0, ints .u32 fT 8), (1, ints .u32 kT 64)] := H143.out.1.grow hM (Nat.le_refl _) hl [] rfl (by decide)
      have B144 : Sr w [gh, gm, g0, g1] q0 q1 w144 := Sr.step H143.out.2 (hM.below)
      clear hM hl l H143
      clear γ
      have H144 : Hid (_ ∧ _) := ⟨M144, B144⟩
      clear M144 B144
      refine rest0 rfl (then_normal (wp_cond_false rfl ?_))
      refine wp_skip (block_normal ?_)
      refine then_normal (wp_seq ?_)
      refine walk_anyA 18 [.quiet (.slice (some ⟨gh, 0, none⟩) 2 2), .quiet (.int .i64 1), .quiet (PT gh 1), .quiet (PT g1 0), .quiet (.bool false), .quiet (.bool false), .quiet (.slice (some ⟨gh, 0, none⟩) 2 2), .quiet (.int .i64 1), .quiet (PT gh 1), .quiet (PT g1 0), .call (.int .i64 ((q1.n : Nat) : Int)), .quiet (.slice (some ⟨gm, 0, none⟩) 2 2), .quiet (.int .i64 1), .quiet (PT gm 1), .quiet (.slice q1.p q1.n q1.cp), .quiet (.int .i64 ((q1.n : Nat) : Int)), .quiet (.bool false), .quiet (.bool false)] (sB H144) ?ho125K4n1 ?he125K4n1
      case ho125K4n1 => exact ak (fun _ => ⟨rfl, fun _ _ => rfl⟩) (ak (fun _ => ⟨rfl, fun _ _ => rfl⟩) (ak (fun γ => ⟨rfl, fun w' _ => ex_ixP43 (j := 1) (off := 0) rfl rfl rfl rfl (by decide)⟩) (ak (fun γ => ⟨rfl, fun w' h => ex_loadC h 2 rfl rfl rfl Tryd.isAgg41 rfl⟩) (ak (by refine fun γ => ⟨rfl, fun w' h => ?_⟩; clear h; go_simp) (ak (fun _ => ⟨rfl, fun _ _ => rfl⟩) (ak (fun _ => ⟨rfl, fun _ _ => rfl⟩) (ak (fun _ => ⟨rfl, fun _ _ => rfl⟩) (ak (fun γ => ⟨rfl, fun w' _ => ex_ixP43 (j := 1) (off := 0) rfl rfl rfl rfl (by decide)⟩) (ak (fun γ => ⟨rfl, fun w' h => ex_loadC h 2 rfl rfl rfl Tryd.isAgg41 rfl⟩) (ak (fun γ => ⟨rfl, fun w' h => ⟨31, #[PT g1 0], exec_call rfl call31 rfl (mpn rfl), Len_hq g1 q1 (by omega) w' (h.one 4 rfl)⟩⟩) (ak (fun _ => ⟨rfl, fun _ _ => rfl⟩) (ak (fun _ => ⟨rfl, fun _ _ => rfl⟩) (ak (fun γ => ⟨rfl, fun w' _ => ex_ixP29 (j := 1) (off := 0) rfl rfl rfl rfl (by decide)⟩) (ak (fun γ => ⟨rfl, fun w' h => ex_loadC h 1 rfl rfl rfl Tryd.isAgg22 rfl⟩) (ak (by refine fun γ => ⟨rfl, fun w' h => ?_⟩; clear h; go_simp) (ak (by refine fun γ => ⟨rfl, fun w' h => ?_⟩; clear h; go_simp <;> omega) (ak (by refine fun γ => ⟨rfl, fun w' h => ?_⟩; clear h; go_simp) trivial)))))))))))))))))
      intro γ w145 l hM hl
      have M145 : Mm w145 [(γ117_4, ac (X k)), (gm, [Value.slice q0.p q0.n q0.cp, Value.slice q1.p q1.n q1.cp]), (gh, [PT g0 0, PT g1 0]), (g0, hs true ((hq q0.f q0.n).s) ((hq q0.f q0.n).r) ((hq q0.f q0.n).c)), (g1, hs true ((hq q1.f q1.n).s) ((hq q1.f q1.n).r) ((hq q1.f q1.n).c)), (0, ints .u32 fT 8), (1, ints .u32 kT 64)] := H144.out.1.grow hM (Nat.le_refl _) hl [] rfl (by decide)
      have B145 : Sr w [gh, gm, g0, g1] q0 q1 w145 := Sr.step H144.out.2 (hM.below)
      clear hM hl l H144
      clear γ
      have H145 : Hid (_ ∧ _) := ⟨M145, B145⟩
      clear M145 B145
      refine rest0 rfl (then_normal (wp_cond_false rfl ?_))
      refine wp_skip (block_normal (then_normal ?_))
      refine walk_seqA 2 [.quiet (.int .i64 ((k : Nat) : Int)), .quiet (.int .i64 ((k + 1 : Nat) : Int))] (sB H145) ?ho126K4n1 ?he126K4n1
      case ho126K4n1 => exact ak (fun _ => ⟨rfl, fun _ _ => rfl⟩) (ak (by refine fun γ => ⟨rfl, fun w' h => ?_⟩; clear h; go_simp; rw [IntKind.wrap_i64]; omega) trivial)
      intro γ w146 l hM hl
      have M146 : Mm w146 [(γ117_4, ac (X k)), (gm, [Value.slice q0.p q0.n q0.cp, Value.slice q1.p q1.n q1.cp]), (gh, [PT g0 0, PT g1 0]), (g0, hs true ((hq q0.f q0.n).s) ((hq q0.f q0.n).r) ((hq q0.f q0.n).c)), (g1, hs true ((hq q1.f q1.n).s) ((hq q1.f q1.n).r) ((hq q1.f q1.n).c)), (0, ints .u32 fT 8), (1, ints .u32 kT 64)] := H145.out.1.grow hM (Nat.le_refl _) hl [] rfl (by decide)
      have B146 : Sr w [gh, gm, g0, g1] q0 q1 w146 := Sr.step H145.out.2 (hM.below)
      clear hM hl l H145
      clear γ
      have H146 : Hid (_ ∧ _) := ⟨M146, B146⟩
      clear M146 B146
      refine rest_at (l := [2]) rfl ?_
      refine rest_set (d := 6) (v := .int .i64 ((k + 1 : Nat) : Int)) (w' := w146) rfl rfl rfl rfl ?_
      simp only [Act.put, sa, sz, ss]
      refine rest_nil (then_normal ?_)
      exact ⟨⟨k + 1, 1, g0, g1, q0, q1⟩, ⟨(slotfn [undef, undef, s0 2, undef, undef, undef, undef, PT γ117_4 0, s0 8, undef, undef, undef, undef, undef, undef, undef, .int .i64 ((k : Nat) : Int), .slice pl m c2, .int .i64 ((m : Nat) : Int), .bool true, .int .i64 ((k : Nat) : Int), .int .i64 ((k + 1 : Nat) : Int), .slice pl m c2, .int .i64 ((k : Nat) : Int), PT ga (oa + 2 * k), .agg (ac (X k)).toArray, PT γ117_4 1, .slice (X k).q.p (X k).q.n (X k).q.cp, .int .i64 (((X k).q.n : Nat) : Int), .bool false, .slice (some ⟨gh, 0, none⟩) 2 2, .int .i64 1, PT gh 1, PT g1 0, .bool false, PT γ117_4 0, Z8 ((X k).kd), .bool false, .bool false, s0 39, s0 40, s0 41, s0 42, s0 43, s0 44, s0 45, s0 46, s0 47, s0 48, s0 49, s0 50, s0 51, s0 52, s0 53, s0 54, s0 55, s0 56, s0 57, s0 58, s0 59, s0 60, s0 61, s0 62, s0 63, s0 64, s0 65, s0 66, s0 67, s0 68, .bool false, .bool false, s0 71, s0 72, s0 73, s0 74, s0 75, s0 76, s0 77, s0 78, s0 79, s0 80, s0 81, .bool false, .bool false, s0 84, s0 85, s0 86, s0 87, s0 88, s0 89, s0 90, s0 91, s0 92, s0 93, s0 94, s0 95, s0 96, s0 97, s0 98, s0 99, s0 100, s0 101, s0 102, .bool false, .bool false, s0 105, s0 106, .slice (some ⟨gh, 0, none⟩) 2 2, .int .i64 1, PT gh 1, PT g1 0, .bool false, .bool false, .slice (some ⟨gh, 0, none⟩) 2 2, .int .i64 1, PT gh 1, PT g1 0, .int .i64 ((q1.n : Nat) : Int), .slice (some ⟨gm, 0, none⟩) 2 2, .int .i64 1, PT gm 1, .slice q1.p q1.n q1.cp, .int .i64 ((q1.n : Nat) : Int), .bool false, .bool false]), rfl, ⟨H146.out.1.sel [1, 2, 3, 4, 5, 6] (by decide) rfl, H146.out.2.b⟩, ⟨by show k + 1 ≤ m; omega, by show 1 < 2; decide, by show q0.n ≤ 4000 * (k + 1); omega, by show q1.n ≤ 4000 * (k + 1); omega, hp0, hp1, o_g0.out, o_g1.out, H146.out.2.less (by simp)⟩⟩, by show m - (k + 1) < m - k; omega⟩
  obtain ⟨k, now, g0, g1, q0, q1⟩ := D
  obtain ⟨hkm, hnw, hl0, hl1, hp0, hp1, ho0, ho1, hsr⟩ := hk0
  dsimp only at hkm hnw hl0 hl1 hp0 hp1 ho0 ho1 hsr hlt
  have o_g0 : Hid (w.heap.size ≤ g0) := ho0
  have o_g1 : Hid (w.heap.size ≤ g1) := ho1
  have H147 : Hid (Mm w9 [(gm, [Value.slice q0.p q0.n q0.cp, Value.slice q1.p q1.n q1.cp]), (gh, [PT g0 0, PT g1 0]), (g0, hs true ((hq q0.f q0.n).s) ((hq q0.f q0.n).r) ((hq q0.f q0.n).c)), (g1, hs true ((hq q1.f q1.n).s) ((hq q1.f q1.n).r) ((hq q1.f q1.n).c)), (0, ints .u32 fT 8), (1, ints .u32 kT 64)] ∧ Sr w [gh, gm, g0, g1] q0 q1 w9) := ⟨H9.out.1, hsr⟩
  clear hsr ho0 ho1 H9
  have hN : now = 0 ∨ now = 1 := by omega
  rcases hN with rfl | rfl
  · refine wp_seq ?_
    refine wp_seq ?_
    refine walk_seqA 4 [.quiet (.int .i64 ((k : Nat) : Int)), .quiet (.slice pl m c2), .quiet (.int .i64 ((m : Nat) : Int)), .quiet (.bool false)] (sB H147) ?ho127o0 ?he127o0
    case ho127o0 => exact ak (fun _ => ⟨rfl, fun _ _ => rfl⟩) (ak (fun _ => ⟨rfl, fun _ _ => rfl⟩) (ak (by refine fun γ => ⟨rfl, fun w' h => ?_⟩; clear h; go_simp) (ak (by refine fun γ => ⟨rfl, fun w' h => ?_⟩; clear h; go_simp <;> omega) trivial)))
    intro γ w148 l hM hl
    have M148 : Mm w148 [(gm, [Value.slice q0.p q0.n q0.cp, Value.slice q1.p q1.n q1.cp]), (gh, [PT g0 0, PT g1 0]), (g0, hs true ((hq q0.f q0.n).s) ((hq q0.f q0.n).r) ((hq q0.f q0.n).c)), (g1, hs true ((hq q1.f q1.n).s) ((hq q1.f q1.n).r) ((hq q1.f q1.n).c)), (0, ints .u32 fT 8), (1, ints .u32 kT 64)] := H147.out.1.grow hM (Nat.le_refl _) hl [] rfl (by decide)
    have B148 : Sr w [gh, gm, g0, g1] q0 q1 w148 := Sr.step H147.out.2 (hM.below)
    clear hM hl l H147
    clear γ
    have H148 : Hid (_ ∧ _) := ⟨M148, B148⟩
    clear M148 B148
    refine rest0 rfl (then_normal (wp_cond_false rfl ?_))
    refine wp_exit ?_
    repeat refine then_exit ?_
    refine block_exit ?_
    refine then_normal (wp_seq ?_)
    refine (walk_any) (by kernel_rfl) 19 [.quiet (.slice (some ⟨gh, 0, none⟩) 2 2), .quiet (.int .i64 0), .quiet (PT gh 0), .quiet (PT g0 0), .quiet (.bool true), .quiet (.bool true), .quiet (.slice (some ⟨gh, 0, none⟩) 2 2), .quiet (.int .i64 0), .quiet (PT gh 0), .quiet (PT g0 0), .call (.agg (ints .u8 (dg0 q0.f q0.n) 32).toArray), .quiet (.slice (some ⟨gm, 0, none⟩) 2 2), .quiet (.int .i64 0), .quiet (PT gm 0), .quiet (.slice q0.p q0.n q0.cp), .call (.agg (ints .u8 (ds q0.f q0.n) 32).toArray), .quiet (.bool true), .quiet (.bool true), .quiet (.bool true)] (fun u' => Mm u' [(gm, [Value.slice q0.p q0.n q0.cp, Value.slice q1.p q1.n q1.cp]), (gh, [PT g0 0, PT g1 0]), (g0, hs true ((hq q0.f q0.n).s) ((hq q0.f q0.n).r) ((hq q0.f q0.n).c)), (g1, hs true ((hq q1.f q1.n).s) ((hq q1.f q1.n).r) ((hq q1.f q1.n).c)), (0, ints .u32 fT 8), (1, ints .u32 kT 64)] ∧ (q0.rs u' ∧ q1.rs u' ∧ Lc pl X m u')) ?pre128o0 ?F128o0 ?hpre128o0 (fun γ => ?hF128o0) (by kernel_rfl) ?hL128o0 ?hS128o0 ?ho128o0 ?he128o0
    case hpre128o0 => simp only [tk, tz]; rfl
    case hF128o0 => simp only [fill, Kind.val, Act.put, sa, sz, ss]; rfl
    case hL128o0 => exact trivial
    case hS128o0 => exact fun w' hb => ⟨H148.out.1.below hb, ⟨(Sr.step H148.out.2 (hb)).r0, (Sr.step H148.out.2 (hb)).r1, LC.out.below (Sr.step H148.out.2 (hb)).b⟩⟩
    case ho128o0 =>
      refine ak (fun _ => ⟨rfl, fun _ _ => rfl⟩) ?_
      refine ak (fun _ => ⟨rfl, fun _ _ => rfl⟩) ?_
      refine ak (fun γ => ⟨rfl, fun w' _ => ex_ixP43 (j := 0) (off := 0) rfl rfl rfl rfl (by decide)⟩) ?_
      refine ak (fun γ => ⟨rfl, fun w' hX => have h := hX.1; ex_loadC h 1 rfl rfl rfl Tryd.isAgg41 rfl⟩) ?_
      refine ak (by refine fun γ => ⟨rfl, fun w' h => ?_⟩; clear h; go_simp) ?_
      refine ak (fun _ => ⟨rfl, fun _ _ => rfl⟩) ?_
      refine ak (fun _ => ⟨rfl, fun _ _ => rfl⟩) ?_
      refine ak (fun _ => ⟨rfl, fun _ _ => rfl⟩) ?_
      refine ak (fun γ => ⟨rfl, fun w' _ => ex_ixP43 (j := 0) (off := 0) rfl rfl rfl rfl (by decide)⟩) ?_
      refine ak (fun γ => ⟨rfl, fun w' hX => have h := hX.1; ex_loadC h 1 rfl rfl rfl Tryd.isAgg41 rfl⟩) ?_
      refine ak (fun γ => ⟨rfl, fun w' hX => have h := hX.1; ⟨29, #[PT g0 0], exec_call rfl call29 rfl (mpn rfl), HSum_ok g0 (hq q0.f q0.n) w' (h.two 2 5 rfl rfl (by decide))⟩⟩) ?_
      refine ak (fun _ => ⟨rfl, fun _ _ => rfl⟩) ?_
      refine ak (fun _ => ⟨rfl, fun _ _ => rfl⟩) ?_
      refine ak (fun γ => ⟨rfl, fun w' _ => ex_ixP29 (j := 0) (off := 0) rfl rfl rfl rfl (by decide)⟩) ?_
      refine ak (fun γ => ⟨rfl, fun w' hX => have h := hX.1; ex_loadC h 0 rfl rfl rfl Tryd.isAgg22 rfl⟩) ?_
      refine ak (fun γ => ⟨rfl, fun w' hX => ⟨15, #[.slice q0.p q0.n q0.cp], exec_call rfl call15 rfl (mpn rfl), dSum_any q0.f q0.n (by omega) _ w' (pt_doc hp0.ok hp0.nn hX.2.1)⟩⟩) ?_
      refine ak (fun γ => ⟨rfl, fun w' _ => ex_eq25 (all_of (dg0_ds _ hp0.lt _ (by omega))) rfl rfl rfl⟩) ?_
      refine ak (by refine fun γ => ⟨rfl, fun w' h => ?_⟩; clear h; go_simp) ?_
      refine ak (fun _ => ⟨rfl, fun _ _ => rfl⟩) ?_
      exact trivial
    intro γ w149 l hM hl
    have M149 : Mm w149 [(gm, [Value.slice q0.p q0.n q0.cp, Value.slice q1.p q1.n q1.cp]), (gh, [PT g0 0, PT g1 0]), (g0, hs true ((hq q0.f q0.n).s) ((hq q0.f q0.n).r) ((hq q0.f q0.n).c)), (g1, hs true ((hq q1.f q1.n).s) ((hq q1.f q1.n).r) ((hq q1.f q1.n).c)), (0, ints .u32 fT 8), (1, ints .u32 kT 64)] := H148.out.1.grow hM (Nat.le_refl _) hl [] rfl (by decide)
    have B149 : Sr w [gh, gm, g0, g1] q0 q1 w149 := Sr.step H148.out.2 (hM.below)
    clear hM hl l H148
    clear γ
    have H149 : Hid (_ ∧ _) := ⟨M149, B149⟩
    clear M149 B149
    refine rest0 rfl (then_normal (wp_ret ?_))
    repeat (first | refine then_ret ?_ | refine block_ret ?_)
    refine bodyPost_ret (v := .bool true) (by simp [results, Tryd.results5, go_sem, *]) rfl ?_
    exact ⟨rfl, H149.out.2.b⟩
  · refine wp_seq ?_
    refine wp_seq ?_
    refine walk_seqA 4 [.quiet (.int .i64 ((k : Nat) : Int)), .quiet (.slice pl m c2), .quiet (.int .i64 ((m : Nat) : Int)), .quiet (.bool false)] (sB H147) ?ho127o1 ?he127o1
    case ho127o1 => exact ak (fun _ => ⟨rfl, fun _ _ => rfl⟩) (ak (fun _ => ⟨rfl, fun _ _ => rfl⟩) (ak (by refine fun γ => ⟨rfl, fun w' h => ?_⟩; clear h; go_simp) (ak (by refine fun γ => ⟨rfl, fun w' h => ?_⟩; clear h; go_simp <;> omega) trivial)))
    intro γ w148 l hM hl
    have M148 : Mm w148 [(gm, [Value.slice q0.p q0.n q0.cp, Value.slice q1.p q1.n q1.cp]), (gh, [PT g0 0, PT g1 0]), (g0, hs true ((hq q0.f q0.n).s) ((hq q0.f q0.n).r) ((hq q0.f q0.n).c)), (g1, hs true ((hq q1.f q1.n).s) ((hq q1.f q1.n).r) ((hq q1.f q1.n).c)), (0, ints .u32 fT 8), (1, ints .u32 kT 64)] := H147.out.1.grow hM (Nat.le_refl _) hl [] rfl (by decide)
    have B148 : Sr w [gh, gm, g0, g1] q0 q1 w148 := Sr.step H147.out.2 (hM.below)
    clear hM hl l H147
    clear γ
    have H148 : Hid (_ ∧ _) := ⟨M148, B148⟩
    clear M148 B148
    refine rest0 rfl (then_normal (wp_cond_false rfl ?_))
    refine wp_exit ?_
    repeat refine then_exit ?_
    refine block_exit ?_
    refine then_normal (wp_seq ?_)
    refine (walk_any) (by kernel_rfl) 19 [.quiet (.slice (some ⟨gh, 0, none⟩) 2 2), .quiet (.int .i64 1), .quiet (PT gh 1), .quiet (PT g1 0), .quiet (.bool true), .quiet (.bool true), .quiet (.slice (some ⟨gh, 0, none⟩) 2 2), .quiet (.int .i64 1), .quiet (PT gh 1), .quiet (PT g1 0), .call (.agg (ints .u8 (dg0 q1.f q1.n) 32).toArray), .quiet (.slice (some ⟨gm, 0, none⟩) 2 2), .quiet (.int .i64 1), .quiet (PT gm 1), .quiet (.slice q1.p q1.n q1.cp), .call (.agg (ints .u8 (ds q1.f q1.n) 32).toArray), .quiet (.bool true), .quiet (.bool true), .quiet (.bool true)] (fun u' => Mm u' [(gm, [Value.slice q0.p q0.n q0.cp, Value.slice q1.p q1.n q1.cp]), (gh, [PT g0 0, PT g1 0]), (g0, hs true ((hq q0.f q0.n).s) ((hq q0.f q0.n).r) ((hq q0.f q0.n).c)), (g1, hs true ((hq q1.f q1.n).s) ((hq q1.f q1.n).r) ((hq q1.f q1.n).c)), (0, ints .u32 fT 8), (1, ints .u32 kT 64)] ∧ (q0.rs u' ∧ q1.rs u' ∧ Lc pl X m u')) ?pre128o1 ?F128o1 ?hpre128o1 (fun γ => ?hF128o1) (by kernel_rfl) ?hL128o1 ?hS128o1 ?ho128o1 ?he128o1
    case hpre128o1 => simp only [tk, tz]; rfl
    case hF128o1 => simp only [fill, Kind.val, Act.put, sa, sz, ss]; rfl
    case hL128o1 => exact trivial
    case hS128o1 => exact fun w' hb => ⟨H148.out.1.below hb, ⟨(Sr.step H148.out.2 (hb)).r0, (Sr.step H148.out.2 (hb)).r1, LC.out.below (Sr.step H148.out.2 (hb)).b⟩⟩
    case ho128o1 =>
      refine ak (fun _ => ⟨rfl, fun _ _ => rfl⟩) ?_
      refine ak (fun _ => ⟨rfl, fun _ _ => rfl⟩) ?_
      refine ak (fun γ => ⟨rfl, fun w' _ => ex_ixP43 (j := 1) (off := 0) rfl rfl rfl rfl (by decide)⟩) ?_
      refine ak (fun γ => ⟨rfl, fun w' hX => have h := hX.1; ex_loadC h 1 rfl rfl rfl Tryd.isAgg41 rfl⟩) ?_
      refine ak (by refine fun γ => ⟨rfl, fun w' h => ?_⟩; clear h; go_simp) ?_
      refine ak (fun _ => ⟨rfl, fun _ _ => rfl⟩) ?_
      refine ak (fun _ => ⟨rfl, fun _ _ => rfl⟩) ?_
      refine ak (fun _ => ⟨rfl, fun _ _ => rfl⟩) ?_
      refine ak (fun γ => ⟨rfl, fun w' _ => ex_ixP43 (j := 1) (off := 0) rfl rfl rfl rfl (by decide)⟩) ?_
      refine ak (fun γ => ⟨rfl, fun w' hX => have h := hX.1; ex_loadC h 1 rfl rfl rfl Tryd.isAgg41 rfl⟩) ?_
      refine ak (fun γ => ⟨rfl, fun w' hX => have h := hX.1; ⟨29, #[PT g1 0], exec_call rfl call29 rfl (mpn rfl), HSum_ok g1 (hq q1.f q1.n) w' (h.two 3 5 rfl rfl (by decide))⟩⟩) ?_
      refine ak (fun _ => ⟨rfl, fun _ _ => rfl⟩) ?_
      refine ak (fun _ => ⟨rfl, fun _ _ => rfl⟩) ?_
      refine ak (fun γ => ⟨rfl, fun w' _ => ex_ixP29 (j := 1) (off := 0) rfl rfl rfl rfl (by decide)⟩) ?_
      refine ak (fun γ => ⟨rfl, fun w' hX => have h := hX.1; ex_loadC h 0 rfl rfl rfl Tryd.isAgg22 rfl⟩) ?_
      refine ak (fun γ => ⟨rfl, fun w' hX => ⟨15, #[.slice q1.p q1.n q1.cp], exec_call rfl call15 rfl (mpn rfl), dSum_any q1.f q1.n (by omega) _ w' (pt_doc hp1.ok hp1.nn hX.2.2.1)⟩⟩) ?_
      refine ak (fun γ => ⟨rfl, fun w' _ => ex_eq25 (all_of (dg0_ds _ hp1.lt _ (by omega))) rfl rfl rfl⟩) ?_
      refine ak (by refine fun γ => ⟨rfl, fun w' h => ?_⟩; clear h; go_simp) ?_
      refine ak (fun _ => ⟨rfl, fun _ _ => rfl⟩) ?_
      exact trivial
    intro γ w149 l hM hl
    have M149 : Mm w149 [(gm, [Value.slice q0.p q0.n q0.cp, Value.slice q1.p q1.n q1.cp]), (gh, [PT g0 0, PT g1 0]), (g0, hs true ((hq q0.f q0.n).s) ((hq q0.f q0.n).r) ((hq q0.f q0.n).c)), (g1, hs true ((hq q1.f q1.n).s) ((hq q1.f q1.n).r) ((hq q1.f q1.n).c)), (0, ints .u32 fT 8), (1, ints .u32 kT 64)] := H148.out.1.grow hM (Nat.le_refl _) hl [] rfl (by decide)
    have B149 : Sr w [gh, gm, g0, g1] q0 q1 w149 := Sr.step H148.out.2 (hM.below)
    clear hM hl l H148
    clear γ
    have H149 : Hid (_ ∧ _) := ⟨M149, B149⟩
    clear M149 B149
    refine rest0 rfl (then_normal (wp_ret ?_))
    repeat (first | refine then_ret ?_ | refine block_ret ?_)
    refine bodyPost_ret (v := .bool true) (by simp [results, Tryd.results5, go_sem, *]) rfl ?_
    exact ⟨rfl, H149.out.2.b⟩
end Rg
end Go.Proofs.YtolflfjfegngnaaDoor
end
