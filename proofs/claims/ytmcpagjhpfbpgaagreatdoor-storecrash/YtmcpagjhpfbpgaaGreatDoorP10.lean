/- Texts of the proof, joined. -/
import Derived.Test.YtmcpagjhpfbpgaaGreatDoorP9
import Derived.Laws.ResultCell
import Derived.Sort.Walk0
set_option maxRecDepth 100000
set_option maxHeartbeats 8000000
section
namespace Go.Proofs.YtmcpagjhpfbpgaaGreatDoor
open Go.RowKit
namespace Rg
namespace Wi
set_option maxRecDepth 100000
theorem gbs_mem {P:Nat→Pt8} {m i:Nat} (hi:i<m) (h0:0<(P i).n):(P i).gb∈gbs P m:=List.mem_flatMap.2 ⟨i,List.mem_range.2 hi,by unfold gbl;rw[if_neg (by omega)];exact List.mem_singleton.2 rfl⟩
theorem Lq.kx {B m:Nat} {vv:Value} {P:Nat→Pt8} {u u':World} {M:List Nat} (h:Lq B vv m P u) (hk:Kx M u u') (hv:∀ x∈vbl vv,x∈M) (hg:∀ x∈gbs P m,x∈M):Lq B vv m P u' :=
 ⟨own_keep h.own fun x hx=>hk.2 x (hv x hx),fun i hi=>⟨(h.ok i hi).1,(h.ok i hi).2.1,Kx.pt hk (h.ok i hi).2.2.1 fun h0=>hg _ (gbs_mem hi h0),(h.ok i hi).2.2.2⟩⟩
theorem Lq.new {B m:Nat} {vv:Value} {P:Nat→Pt8} {u:World} (h:Lq B vv m P u):∀ x,x∈vbl vv∨x∈gbs P m→B≤x∧x<u.heap.size:=fun x hx=>by
 rcases hx with hx | hx
 ·exact⟨h.lo x hx,own_lt h.own x hx⟩
 ·obtain⟨i,h7,h8⟩:=List.mem_flatMap.1 hx
  have hi:=List.mem_range.1 h7
  obtain⟨o1,o2,o3,o4⟩:=h.ok i hi
  unfold gbl at h8
  by_cases h0:(P i).n=0
  ·rw[if_pos h0] at h8;cases h8
  ·rw[if_neg h0] at h8
   rw[List.mem_singleton.1 h8]
   exact⟨o4 (by omega),o3.lt (by omega)⟩
theorem jcut_err (d:Nat) (s:ByteArray) (k:Nat) (r:Int) (hr:¬r=0) (I1:World→Prop) (w:World) (hcu:Calls Tryz.prog 169 #[PT d 0,.string s,.int .i64 ((k:Nat):Int)] w fun e u'=>e=.returned (.int .i64 r)∧I1 u') :
  Calls Tryz.prog 149 #[PT d 0,.string s,.int .i64 ((k:Nat):Int)] w fun e w'=>e=.returned (.int .i64 r)∧I1 w':=by
 have HC:Hid _:=hcu
 clear hcu
 go_enter Tryz.func149,Tryz.ntmps149
 go_wp2_with (first
  | (go_at_call 169;refine Calls.mono HC.out ?_;rintro e w1 ⟨rfl,h1⟩;have H1:Hid _:=h1;clear h1)
  | fail)
 go_ret
 exact⟨rfl,H1.out⟩
theorem jopen_c2 (d:Nat) (s:ByteArray) (hs:s.size≤281474976710656) (N:Nat) (C:Nat→Nat) (A Ln:Nat→Nat) (M:Nat) (hN:N≤1048576) (hw0:A M<N) (I2:Nat→Nat→Value→(Nat→Pt8)→World→Prop) (w:World) (hcnz:∀ u,Below w.heap.size w u→Calls Tryz.prog 147 #[PT d 0,.string s] u fun e u'=>∃ q:Pt8,e=.returned (.tuple #[.slice q.p q.n q.cp,.int .i64 0])∧Pw w N C q u') (hlgz:Lgk C N A Ln M) (henz:End C N A M)  (s2pz:∀ B j v P u off vs,I2 B j v P u→I2 B j v P (u.setCells j off vs)) (hcutz:∀ B j v P u,Below w.heap.size w u→w.heap.size≤j→j<B→j<u.heap.size→Lq B v M P u→Calls Tryz.prog 149 #[PT d 0,.string s,.int .i64 ((A M:Nat):Int)] u fun e u'=>e=.returned (.int .i64 0)∧I2 B j v P u'∧Kx (j :: (vbl v++gbs P M)) u u') :
  Calls Tryz.prog 111 #[PT d 0,.string s] w fun e w'=>∃ j v P B,e=.returned (.tuple #[PT j 0,v,.int .i64 0])∧Mm w' [(j,jc d s M (A M))]∧I2 B j v P w'∧Lq B v M P w'∧w.heap.size≤j∧j<B∧∀ i,i<M→(P i).n=Ln i∧∀ k,k<Ln i→(P i).f k=C (A i+8+k):=by
 have H0:Hid (_∧_):=⟨Mm.nil w,Below.refl w.heap.size w⟩
 have hcn:Hid _:=hcnz
 have hlg:Hid _:=hlgz
 have hen:Hid _:=henz
 clear hcnz hlgz henz
 have s2p:Hid _:=s2pz
 have hcut:Hid _:=hcutz
 clear s2pz hcutz
 go_enter Tryz.func111,Tryz.ntmps111
 refine wp_seq ?_
 refine zG (l:=[0,1,2]) rfl (fun u0 hu0 => ?_)
 have H1:Hid (Mm u0 []∧Below w.heap.size w u0):=by rw[hu0];exact H0
 clear hu0 H0
 refine zA (d:=4) (v:=.pointer none) (w':=u0) rfl rfl rfl rfl ?_
 simp only[Act.put,sa,sz,ss]
 refine zA (d:=5) (v:=.slice none 0 0) (w':=u0) rfl rfl rfl rfl ?_
 simp only[Act.put,sa,sz,ss]
 refine zA (d:=6) (v:=.int .i64 0) (w':=u0) rfl rfl rfl rfl ?_
 simp only[Act.put,sa,sz,ss]
 refine zC (zB (wp_seq ?_))
 refine zD (l:=[0,1,2,3,4,5,6,7]) rfl ?_
 refine zA (d:=14) (v:=PT d 0) (w':=u0) rfl rfl rfl rfl ?_
 simp only[Act.put,sa,sz,ss]
 refine zA (d:=15) (v:=.string s) (w':=u0) rfl rfl rfl rfl ?_
 simp only[Act.put,sa,sz,ss]
 refine zE (d:=16) (R:=fun vv w'=>∃ q:Pt8,vv=.tuple #[.slice q.p q.n q.cp,.int .i64 0]∧Pw w N C q w') rfl rfl rfl (zF (args:=#[PT d 0,.string s]) rfl call147 rfl (mpn rfl)) (Calls.mono (hcn.out u0 H1.out.2) (fun e w2 hh=>by obtain⟨q,he,hI⟩:=hh;exact⟨_,he,q,rfl,hI⟩)) ?_
 rintro _ w2 ⟨q,rfl,hI⟩
 have hqN:Hid _:=hI.n
 have hqC:Hid _:=hI.f
 have H2:Hid (Mm w2 []∧Pw w N C q w2):=⟨Mm.nil _,hI⟩
 clear hI H1
 simp only[Act.put,sa,sz,ss]
 refine zA (d:=13) (v:=.tuple #[.slice q.p q.n q.cp,.int .i64 0]) (w':=w2) rfl rfl rfl rfl ?_
 simp only[Act.put,sa,sz,ss]
 refine zA (d:=17) (v:=.slice q.p q.n q.cp) (w':=w2) rfl rfl rfl (by go_simp) ?_
 simp only[Act.put,sa,sz,ss]
 refine zA (d:=18) (v:=.int .i64 0) (w':=w2) rfl rfl rfl (by go_simp) ?_
 simp only[Act.put,sa,sz,ss]
 refine zA (d:=7) (v:=.slice q.p q.n q.cp) (w':=w2) rfl rfl rfl rfl ?_
 simp only[Act.put,sa,sz,ss]
 refine zA (d:=8) (v:=.int .i64 0) (w':=w2) rfl rfl rfl rfl ?_
 simp only[Act.put,sa,sz,ss]
 refine zC (zB ?_)
 refine wp_seq (wp_seq ?_)
 refine zD (l:=[0,1]) rfl ?_
 refine zA (d:=19) (v:=.int .i64 0) (w':=w2) rfl rfl rfl rfl ?_
 simp only[Act.put,sa,sz,ss]
 refine zA (d:=20) (v:=.bool false) (w':=w2) rfl rfl rfl (by kernel_rfl) ?_
 simp only[Act.put,sa,sz,ss]
 refine zC (zB ?_)
 refine wp_cond_false rfl (wp_skip ?_)
 refine zB (wp_seq ?_)
 refine zD (l:=[0,1,2,3,4,5,6]) rfl ?_
 refine zA (d:=22) (v:=PT d 0) (w':=w2) rfl rfl rfl rfl ?_
 simp only[Act.put,sa,sz,ss]
 refine zA (d:=23) (v:=.string s) (w':=w2) rfl rfl rfl rfl ?_
 simp only[Act.put,sa,sz,ss]
 refine zE (d:=24) (R:=fun vv w'=>vv=.string s∧Below w2.heap.size w2 w') rfl rfl rfl (zF (args:=#[.string s]) rfl call57 rfl (mpn rfl)) (Calls.mono (sclone_any s hs w2) (fun e w2 hh=>⟨_,hh.1,rfl,hh.2⟩)) ?_
 rintro _ w3 ⟨rfl,hb⟩
 have H3:Hid (Mm w3 []∧Pw w N C q w3):=⟨H2.out.1.below hb,Pw.step H2.out.2 (hb)⟩
 clear hb
 clear H2
 simp only[Act.put,sa,sz,ss]
 refine zE (d:=25) (R:=fun vv w'=>vv=.agg (zN .u32 crt 256).toArray∧Below w3.heap.size w3 w') rfl rfl rfl (zF (args:=#[]) rfl call146 rfl (mpn rfl)) (Calls.mono (newTable_any w3) (fun e w2 hh=>⟨_,hh.1,rfl,hh.2⟩)) ?_
 rintro _ w4 ⟨rfl,hb⟩
 have H4:Hid (Mm w4 []∧Pw w N C q w4):=⟨H3.out.1.below hb,Pw.step H3.out.2 (hb)⟩
 clear hb
 clear H3
 simp only[Act.put,sa,sz,ss]
 refine zA (d:=26) (v:=.agg (jc d s 0 0).toArray) (w':=w4) rfl rfl rfl (ex_bj rfl rfl rfl rfl) ?_
 simp only[Act.put,sa,sz,ss]
 refine zA (d:=27) (v:=PT w4.heap.size 0) (w':=(w4.alloc (.cells (jc d s 0 0).toArray 171))) rfl rfl rfl (ex_boxT rfl rfl) ?_
 simp only[Act.put,sa,sz,ss]
 have hwj:Hid (w.heap.size≤w4.heap.size):=H4.out.2.b.size
 have H5:Hid (Mm (w4.alloc (.cells (jc d s 0 0).toArray 171)) [(w4.heap.size,jc d s 0 0)]∧Pw w N C q (w4.alloc (.cells (jc d s 0 0).toArray 171))):=⟨(Mm.nil _).alloc _ _ rfl,H4.out.2.step ((Below.refl _ _).alloc (Nat.le_refl _) _)⟩
 clear H4
 generalize hgw:w4.alloc (.cells (jc d s 0 0).toArray 171)=w5 at H5 ⊢
 clear hgw
 generalize w4.heap.size=j at H5 hwj ⊢
 refine zA (d:=9) (v:=PT j 0) (w':=w5) rfl rfl rfl rfl ?_
 simp only[Act.put,sa,sz,ss]
 refine zC (zB (wp_seq ?_))
 refine zD (l:=[0,1,2,3,4,5,6,7,8,9,10,11]) rfl ?_
 refine zA (d:=29) (v:=PT j 0) (w':=w5) rfl rfl rfl rfl ?_
 simp only[Act.put,sa,sz,ss]
 refine zA (d:=30) (v:=PT j 0) (w':=w5) rfl rfl rfl (by go_simp) ?_
 simp only[Act.put,sa,sz,ss]
 refine zA (d:=31) (v:=PT j 2) (w':=w5) rfl rfl rfl (by go_simp) ?_
 simp only[Act.put,sa,sz,ss]
 refine zA (d:=32) (v:=.slice q.p q.n q.cp) (w':=w5) rfl rfl rfl rfl ?_
 simp only[Act.put,sa,sz,ss]
 have hlq:Lgk q.f q.n A Ln M:=by rw[hqN.out,hqC.out];exact hlg.out
 have heq:End q.f q.n A M:=by rw[hqN.out,hqC.out];exact hen.out
 refine zE (d:=33) (R:=fun vv w'=>∃ v P,vv=.tuple #[v,.int .i64 ((A M:Nat):Int),.int .i64 0]∧Lr w5 v M P w'∧∀ i,i<M→(P i).n=Ln i∧∀ j,j<Ln i→(P i).f j=C (A i+8+j)) rfl rfl rfl (zF (args:=#[PT j 2,.slice q.p q.n q.cp]) rfl call148 rfl (mpn rfl)) (Calls.mono (read_fine j 2 q A Ln M (by rw[hqN.out];exact hN) w5 (Tb.jc (H5.out.1.one 0 rfl)) ⟨H5.out.2.ok,H5.out.2.rs⟩ H5.out.2.no hlq heq) (fun e w2 hh=>by obtain⟨v,P,he,hI,hP⟩:=hh;exact⟨_,he,v,P,rfl,hI,by rw[← hqC.out];exact hP⟩)) ?_
 rintro _ w6 ⟨v,P,rfl,hI,hP⟩
 have hPs:Hid _:=hP
 have hjB:Hid (j<w5.heap.size):=(H5.out.1.blk _ (List.mem_cons_self ..)).1
 have hBw:Hid (w.heap.size≤w5.heap.size):=H5.out.2.b.size
 have H6:Hid (Mm w6 [(j,jc d s 0 0)]∧Below w.heap.size w w6∧Lq w5.heap.size v M P w6):=⟨H5.out.1.below hI.b,zR _ _ H5.out.2.b hI.b,hI.lq⟩
 clear hI hP hlq heq H5
 generalize w5.heap.size=B at H6 hjB hBw
 simp only[Act.put,sa,sz,ss]
 refine zA (d:=28) (v:=.tuple #[v,.int .i64 ((A M:Nat):Int),.int .i64 0]) (w':=w6) rfl rfl rfl rfl ?_
 simp only[Act.put,sa,sz,ss]
 refine zA (d:=34) (v:=v) (w':=w6) rfl rfl rfl (by go_simp) ?_
 simp only[Act.put,sa,sz,ss]
 refine zA (d:=35) (v:=.int .i64 ((A M:Nat):Int)) (w':=w6) rfl rfl rfl (by go_simp) ?_
 simp only[Act.put,sa,sz,ss]
 refine zA (d:=36) (v:=.int .i64 0) (w':=w6) rfl rfl rfl (by go_simp) ?_
 simp only[Act.put,sa,sz,ss]
 refine zA (d:=10) (v:=v) (w':=w6) rfl rfl rfl rfl ?_
 simp only[Act.put,sa,sz,ss]
 refine zA (d:=11) (v:=.int .i64 ((A M:Nat):Int)) (w':=w6) rfl rfl rfl rfl ?_
 simp only[Act.put,sa,sz,ss]
 refine zA (d:=8) (v:=.int .i64 0) (w':=w6) rfl rfl rfl rfl ?_
 simp only[Act.put,sa,sz,ss]
 refine zC (zB ?_)
 refine wp_seq (wp_seq ?_)
 refine zD (l:=[0,1]) rfl ?_
 refine zA (d:=37) (v:=.int .i64 0) (w':=w6) rfl rfl rfl rfl ?_
 simp only[Act.put,sa,sz,ss]
 refine zA (d:=38) (v:=.bool false) (w':=w6) rfl rfl rfl (by kernel_rfl) ?_
 simp only[Act.put,sa,sz,ss]
 refine zC (zB ?_)
 refine wp_cond_false rfl (wp_skip ?_)
 refine zB (wp_seq (wp_seq ?_))
 refine zD (l:=[0,1,2,3]) rfl ?_
 refine zA (d:=40) (v:=.int .i64 ((A M:Nat):Int)) (w':=w6) rfl rfl rfl rfl ?_
 simp only[Act.put,sa,sz,ss]
 refine zA (d:=41) (v:=.slice q.p q.n q.cp) (w':=w6) rfl rfl rfl rfl ?_
 simp only[Act.put,sa,sz,ss]
 refine zA (d:=42) (v:=.int .i64 ((q.n:Nat):Int)) (w':=w6) rfl rfl rfl (by go_simp) ?_
 simp only[Act.put,sa,sz,ss]
 refine zA (d:=43) (v:=.bool true) (w':=w6) rfl rfl rfl (by have:=hqN.out;go_simp <;> omega) ?_
 simp only[Act.put,sa,sz,ss]
 refine zC (zB ?_)
 refine wp_cond_true rfl (wp_seq ?_)
 refine zD (l:=[0,1,2,3,4]) rfl ?_
 refine zA (d:=44) (v:=PT d 0) (w':=w6) rfl rfl rfl rfl ?_
 simp only[Act.put,sa,sz,ss]
 refine zA (d:=45) (v:=.string s) (w':=w6) rfl rfl rfl rfl ?_
 simp only[Act.put,sa,sz,ss]
 refine zA (d:=46) (v:=.int .i64 ((A M:Nat):Int)) (w':=w6) rfl rfl rfl rfl ?_
 simp only[Act.put,sa,sz,ss]
 refine zE (d:=47) (R:=fun vv w'=>vv=.int .i64 0∧I2 B j v P w'∧Kx (j :: (vbl v++gbs P M)) w6 w') rfl rfl rfl (zF (args:=#[PT d 0,.string s,.int .i64 ((A M:Nat):Int)]) rfl call149 rfl (mpn rfl)) (Calls.mono (hcut.out B j v P w6 H6.out.2.1 hwj.out hjB.out (H6.out.1.blk _ (List.mem_cons_self ..)).1 H6.out.2.2) (fun e w2 hh=>⟨_,hh.1,rfl,hh.2⟩)) ?_
 rintro _ w7 ⟨rfl,hI,hC⟩
 have H7:Hid (Mm w7 [(j,jc d s 0 0)]∧I2 B j v P w7∧Lq B v M P w7):=⟨Mm.keep1 H6.out.1 hC.1 (hC.2 j (List.mem_cons_self ..)),hI,Lq.kx H6.out.2.2 hC (fun x hx=>List.mem_cons_of_mem _ (List.mem_append_left _ hx)) (fun x hx=>List.mem_cons_of_mem _ (List.mem_append_right _ hx))⟩
 clear hI hC H6
 simp only[Act.put,sa,sz,ss]
 refine zA (d:=12) (v:=.int .i64 0) (w':=w7) rfl rfl rfl rfl ?_
 simp only[Act.put,sa,sz,ss]
 refine zC (zB (wp_seq ?_))
 refine zD (l:=[0,1]) rfl ?_
 refine zA (d:=48) (v:=.int .i64 0) (w':=w7) rfl rfl rfl rfl ?_
 simp only[Act.put,sa,sz,ss]
 refine zA (d:=49) (v:=.bool false) (w':=w7) rfl rfl rfl (by kernel_rfl) ?_
 simp only[Act.put,sa,sz,ss]
 refine zC (zB ?_)
 refine wp_cond_false rfl (wp_skip ?_)
 refine zB (wp_seq ?_)
 refine zD (l:=[0,1,2,3,4,5,6,7,8,9,10]) rfl ?_
 refine zA (d:=51) (v:=PT j 0) (w':=w7) rfl rfl rfl rfl ?_
 simp only[Act.put,sa,sz,ss]
 refine zA (d:=52) (v:=PT j 0) (w':=w7) rfl rfl rfl rfl ?_
 simp only[Act.put,sa,sz,ss]
 refine zA (d:=53) (v:=v) (w':=w7) rfl rfl rfl rfl ?_
 simp only[Act.put,sa,sz,ss]
 refine zA (d:=54) (v:=.int .i64 ((M:Nat):Int)) (w':=w7) rfl rfl rfl (ex_lnL H7.out.2.2.own rfl rfl) ?_
 simp only[Act.put,sa,sz,ss]
 refine zA (d:=55) (v:=.int .i64 ((A M:Nat):Int)) (w':=w7) rfl rfl rfl rfl ?_
 simp only[Act.put,sa,sz,ss]
 refine zA (d:=56) (v:=PT j 0) (w':=w7) rfl rfl rfl (by go_simp) ?_
 simp only[Act.put,sa,sz,ss]
 refine zA (d:=57) (v:=PT j 258) (w':=w7) rfl rfl rfl (by go_simp) ?_
 simp only[Act.put,sa,sz,ss]
 refine zM rfl rfl rfl (ex_st1 (v:=.int .i64 ((M:Nat):Int)) H7.out.1 0 rfl rfl As3 rfl rfl rfl (by rw[jc_len];decide)) ?_
 have H8:Hid (Mm (w7.setCells j 258 [Value.int .i64 ((M:Nat):Int)]) [(j,jc d s M 0)]∧I2 B j v P (w7.setCells j 258 [Value.int .i64 ((M:Nat):Int)])∧Lq B v M P (w7.setCells j 258 [Value.int .i64 ((M:Nat):Int)])):=⟨by
  have h:=H7.out.1.put 0 (off:=258) (vs:=[Value.int .i64 ((M:Nat):Int)]) rfl (by rw[jc_len];show 258+1≤260;decide)
  rw[jc_putc] at h
  exact h,⟨s2p.out B j v P _ _ _ H7.out.2.1,H7.out.2.2.put hjB.out _ _⟩⟩
 clear H7
 generalize hgw:World.setCells _ _ _ _=w8 at H8 ⊢
 clear hgw
 refine zA (d:=58) (v:=PT j 0) (w':=w8) rfl rfl rfl (by go_simp) ?_
 simp only[Act.put,sa,sz,ss]
 refine zA (d:=59) (v:=PT j 259) (w':=w8) rfl rfl rfl (by go_simp) ?_
 simp only[Act.put,sa,sz,ss]
 refine zM rfl rfl rfl (ex_st1 (v:=.int .i64 ((A M:Nat):Int)) H8.out.1 0 rfl rfl As3 rfl rfl rfl (by rw[jc_len];decide)) ?_
 have H9:Hid (Mm (w8.setCells j 259 [Value.int .i64 ((A M:Nat):Int)]) [(j,jc d s M (A M))]∧I2 B j v P (w8.setCells j 259 [Value.int .i64 ((A M:Nat):Int)])∧Lq B v M P (w8.setCells j 259 [Value.int .i64 ((A M:Nat):Int)])):=⟨by
  have h:=H8.out.1.put 0 (off:=259) (vs:=[Value.int .i64 ((A M:Nat):Int)]) rfl (by rw[jc_len];show 259+1≤260;decide)
  rw[jc_putz] at h
  exact h,⟨s2p.out B j v P _ _ _ H8.out.2.1,H8.out.2.2.put hjB.out _ _⟩⟩
 clear H8
 generalize hgw:World.setCells _ _ _ _=w9 at H9 ⊢
 clear hgw
 refine zC (zB (wp_seq ?_))
 refine zD (l:=[0,1,2,3,4]) rfl ?_
 refine zA (d:=60) (v:=PT j 0) (w':=w9) rfl rfl rfl rfl ?_
 simp only[Act.put,sa,sz,ss]
 refine zA (d:=61) (v:=v) (w':=w9) rfl rfl rfl rfl ?_
 simp only[Act.put,sa,sz,ss]
 refine zA (d:=4) (v:=PT j 0) (w':=w9) rfl rfl rfl rfl ?_
 simp only[Act.put,sa,sz,ss]
 refine zA (d:=5) (v:=v) (w':=w9) rfl rfl rfl rfl ?_
 simp only[Act.put,sa,sz,ss]
 refine zA (d:=6) (v:=.int .i64 0) (w':=w9) rfl rfl rfl rfl ?_
 simp only[Act.put,sa,sz,ss]
 refine zC (zB (wp_ret ?_))
 repeat (first | refine zI ?_ | refine zH ?_)
 refine bodyPost_ret (v:=.tuple #[PT j 0,v,.int .i64 0]) (by simp[results,Tryz.results111,go_sem, *]) rfl ?_
 exact⟨_,_,_,_,rfl,H9.out.1,H9.out.2.1,H9.out.2.2,hwj.out,hjB.out,hPs.out⟩
theorem jopen_e (d:Nat) (s:ByteArray) (hs:s.size≤281474976710656) (N:Nat) (C:Nat→Nat) (A Ln:Nat→Nat) (M:Nat) (hN:N≤1048576) (hw0:A M<N) (r:Int) (hr:¬r=0) (I2:World→Prop) (w:World) (hcnz:∀ u,Below w.heap.size w u→Calls Tryz.prog 147 #[PT d 0,.string s] u fun e u'=>∃ q:Pt8,e=.returned (.tuple #[.slice q.p q.n q.cp,.int .i64 0])∧Pw w N C q u') (hlgz:Lgk C N A Ln M) (henz:End C N A M) (hcutz:∀ u,Below w.heap.size w u→Calls Tryz.prog 149 #[PT d 0,.string s,.int .i64 ((A M:Nat):Int)] u fun e u'=>e=.returned (.int .i64 r)∧I2 u') :
  Calls Tryz.prog 111 #[PT d 0,.string s] w fun e w'=>e=.returned (.tuple #[.pointer none,.slice none 0 0,.int .i64 r])∧I2 w':=by
 have H0:Hid (_∧_):=⟨Mm.nil w,Below.refl w.heap.size w⟩
 have hcn:Hid _:=hcnz
 have hlg:Hid _:=hlgz
 have hen:Hid _:=henz
 clear hcnz hlgz henz
 have hcut:Hid _:=hcutz
 clear hcutz
 go_enter Tryz.func111,Tryz.ntmps111
 refine wp_seq ?_
 refine zG (l:=[0,1,2]) rfl (fun u0 hu0 => ?_)
 have H1:Hid (Mm u0 []∧Below w.heap.size w u0):=by rw[hu0];exact H0
 clear hu0 H0
 refine zA (d:=4) (v:=.pointer none) (w':=u0) rfl rfl rfl rfl ?_
 simp only[Act.put,sa,sz,ss]
 refine zA (d:=5) (v:=.slice none 0 0) (w':=u0) rfl rfl rfl rfl ?_
 simp only[Act.put,sa,sz,ss]
 refine zA (d:=6) (v:=.int .i64 0) (w':=u0) rfl rfl rfl rfl ?_
 simp only[Act.put,sa,sz,ss]
 refine zC (zB (wp_seq ?_))
 refine zD (l:=[0,1,2,3,4,5,6,7]) rfl ?_
 refine zA (d:=14) (v:=PT d 0) (w':=u0) rfl rfl rfl rfl ?_
 simp only[Act.put,sa,sz,ss]
 refine zA (d:=15) (v:=.string s) (w':=u0) rfl rfl rfl rfl ?_
 simp only[Act.put,sa,sz,ss]
 refine zE (d:=16) (R:=fun vv w'=>∃ q:Pt8,vv=.tuple #[.slice q.p q.n q.cp,.int .i64 0]∧Pw w N C q w') rfl rfl rfl (zF (args:=#[PT d 0,.string s]) rfl call147 rfl (mpn rfl)) (Calls.mono (hcn.out u0 H1.out.2) (fun e w2 hh=>by obtain⟨q,he,hI⟩:=hh;exact⟨_,he,q,rfl,hI⟩)) ?_
 rintro _ w2 ⟨q,rfl,hI⟩
 have hqN:Hid _:=hI.n
 have hqC:Hid _:=hI.f
 have H2:Hid (Mm w2 []∧Pw w N C q w2):=⟨Mm.nil _,hI⟩
 clear hI H1
 simp only[Act.put,sa,sz,ss]
 refine zA (d:=13) (v:=.tuple #[.slice q.p q.n q.cp,.int .i64 0]) (w':=w2) rfl rfl rfl rfl ?_
 simp only[Act.put,sa,sz,ss]
 refine zA (d:=17) (v:=.slice q.p q.n q.cp) (w':=w2) rfl rfl rfl (by go_simp) ?_
 simp only[Act.put,sa,sz,ss]
 refine zA (d:=18) (v:=.int .i64 0) (w':=w2) rfl rfl rfl (by go_simp) ?_
 simp only[Act.put,sa,sz,ss]
 refine zA (d:=7) (v:=.slice q.p q.n q.cp) (w':=w2) rfl rfl rfl rfl ?_
 simp only[Act.put,sa,sz,ss]
 refine zA (d:=8) (v:=.int .i64 0) (w':=w2) rfl rfl rfl rfl ?_
 simp only[Act.put,sa,sz,ss]
 refine zC (zB ?_)
 refine wp_seq (wp_seq ?_)
 refine zD (l:=[0,1]) rfl ?_
 refine zA (d:=19) (v:=.int .i64 0) (w':=w2) rfl rfl rfl rfl ?_
 simp only[Act.put,sa,sz,ss]
 refine zA (d:=20) (v:=.bool false) (w':=w2) rfl rfl rfl (by kernel_rfl) ?_
 simp only[Act.put,sa,sz,ss]
 refine zC (zB ?_)
 refine wp_cond_false rfl (wp_skip ?_)
 refine zB (wp_seq ?_)
 refine zD (l:=[0,1,2,3,4,5,6]) rfl ?_
 refine zA (d:=22) (v:=PT d 0) (w':=w2) rfl rfl rfl rfl ?_
 simp only[Act.put,sa,sz,ss]
 refine zA (d:=23) (v:=.string s) (w':=w2) rfl rfl rfl rfl ?_
 simp only[Act.put,sa,sz,ss]
 refine zE (d:=24) (R:=fun vv w'=>vv=.string s∧Below w2.heap.size w2 w') rfl rfl rfl (zF (args:=#[.string s]) rfl call57 rfl (mpn rfl)) (Calls.mono (sclone_any s hs w2) (fun e w2 hh=>⟨_,hh.1,rfl,hh.2⟩)) ?_
 rintro _ w3 ⟨rfl,hb⟩
 have H3:Hid (Mm w3 []∧Pw w N C q w3):=⟨H2.out.1.below hb,Pw.step H2.out.2 (hb)⟩
 clear hb
 clear H2
 simp only[Act.put,sa,sz,ss]
 refine zE (d:=25) (R:=fun vv w'=>vv=.agg (zN .u32 crt 256).toArray∧Below w3.heap.size w3 w') rfl rfl rfl (zF (args:=#[]) rfl call146 rfl (mpn rfl)) (Calls.mono (newTable_any w3) (fun e w2 hh=>⟨_,hh.1,rfl,hh.2⟩)) ?_
 rintro _ w4 ⟨rfl,hb⟩
 have H4:Hid (Mm w4 []∧Pw w N C q w4):=⟨H3.out.1.below hb,Pw.step H3.out.2 (hb)⟩
 clear hb
 clear H3
 simp only[Act.put,sa,sz,ss]
 refine zA (d:=26) (v:=.agg (jc d s 0 0).toArray) (w':=w4) rfl rfl rfl (ex_bj rfl rfl rfl rfl) ?_
 simp only[Act.put,sa,sz,ss]
 refine zA (d:=27) (v:=PT w4.heap.size 0) (w':=(w4.alloc (.cells (jc d s 0 0).toArray 171))) rfl rfl rfl (ex_boxT rfl rfl) ?_
 simp only[Act.put,sa,sz,ss]
 have hwj:Hid (w.heap.size≤w4.heap.size):=H4.out.2.b.size
 have H5:Hid (Mm (w4.alloc (.cells (jc d s 0 0).toArray 171)) [(w4.heap.size,jc d s 0 0)]∧Pw w N C q (w4.alloc (.cells (jc d s 0 0).toArray 171))):=⟨(Mm.nil _).alloc _ _ rfl,H4.out.2.step ((Below.refl _ _).alloc (Nat.le_refl _) _)⟩
 clear H4
 generalize hgw:w4.alloc (.cells (jc d s 0 0).toArray 171)=w5 at H5 ⊢
 clear hgw
 generalize w4.heap.size=j at H5 hwj ⊢
 refine zA (d:=9) (v:=PT j 0) (w':=w5) rfl rfl rfl rfl ?_
 simp only[Act.put,sa,sz,ss]
 refine zC (zB (wp_seq ?_))
 refine zD (l:=[0,1,2,3,4,5,6,7,8,9,10,11]) rfl ?_
 refine zA (d:=29) (v:=PT j 0) (w':=w5) rfl rfl rfl rfl ?_
 simp only[Act.put,sa,sz,ss]
 refine zA (d:=30) (v:=PT j 0) (w':=w5) rfl rfl rfl (by go_simp) ?_
 simp only[Act.put,sa,sz,ss]
 refine zA (d:=31) (v:=PT j 2) (w':=w5) rfl rfl rfl (by go_simp) ?_
 simp only[Act.put,sa,sz,ss]
 refine zA (d:=32) (v:=.slice q.p q.n q.cp) (w':=w5) rfl rfl rfl rfl ?_
 simp only[Act.put,sa,sz,ss]
 have hlq:Lgk q.f q.n A Ln M:=by rw[hqN.out,hqC.out];exact hlg.out
 have heq:End q.f q.n A M:=by rw[hqN.out,hqC.out];exact hen.out
 refine zE (d:=33) (R:=fun vv w'=>∃ v P,vv=.tuple #[v,.int .i64 ((A M:Nat):Int),.int .i64 0]∧Lr w5 v M P w'∧∀ i,i<M→(P i).n=Ln i∧∀ j,j<Ln i→(P i).f j=C (A i+8+j)) rfl rfl rfl (zF (args:=#[PT j 2,.slice q.p q.n q.cp]) rfl call148 rfl (mpn rfl)) (Calls.mono (read_fine j 2 q A Ln M (by rw[hqN.out];exact hN) w5 (Tb.jc (H5.out.1.one 0 rfl)) ⟨H5.out.2.ok,H5.out.2.rs⟩ H5.out.2.no hlq heq) (fun e w2 hh=>by obtain⟨v,P,he,hI,hP⟩:=hh;exact⟨_,he,v,P,rfl,hI,by rw[← hqC.out];exact hP⟩)) ?_
 rintro _ w6 ⟨v,P,rfl,hI,hP⟩
 have hPs:Hid _:=hP
 have hjB:Hid (j<w5.heap.size):=(H5.out.1.blk _ (List.mem_cons_self ..)).1
 have hBw:Hid (w.heap.size≤w5.heap.size):=H5.out.2.b.size
 have H6:Hid (Mm w6 [(j,jc d s 0 0)]∧Below w.heap.size w w6∧Lq w5.heap.size v M P w6):=⟨H5.out.1.below hI.b,zR _ _ H5.out.2.b hI.b,hI.lq⟩
 clear hI hP hlq heq H5
 generalize w5.heap.size=B at H6 hjB hBw
 simp only[Act.put,sa,sz,ss]
 refine zA (d:=28) (v:=.tuple #[v,.int .i64 ((A M:Nat):Int),.int .i64 0]) (w':=w6) rfl rfl rfl rfl ?_
 simp only[Act.put,sa,sz,ss]
 refine zA (d:=34) (v:=v) (w':=w6) rfl rfl rfl (by go_simp) ?_
 simp only[Act.put,sa,sz,ss]
 refine zA (d:=35) (v:=.int .i64 ((A M:Nat):Int)) (w':=w6) rfl rfl rfl (by go_simp) ?_
 simp only[Act.put,sa,sz,ss]
 refine zA (d:=36) (v:=.int .i64 0) (w':=w6) rfl rfl rfl (by go_simp) ?_
 simp only[Act.put,sa,sz,ss]
 refine zA (d:=10) (v:=v) (w':=w6) rfl rfl rfl rfl ?_
 simp only[Act.put,sa,sz,ss]
 refine zA (d:=11) (v:=.int .i64 ((A M:Nat):Int)) (w':=w6) rfl rfl rfl rfl ?_
 simp only[Act.put,sa,sz,ss]
 refine zA (d:=8) (v:=.int .i64 0) (w':=w6) rfl rfl rfl rfl ?_
 simp only[Act.put,sa,sz,ss]
 refine zC (zB ?_)
 refine wp_seq (wp_seq ?_)
 refine zD (l:=[0,1]) rfl ?_
 refine zA (d:=37) (v:=.int .i64 0) (w':=w6) rfl rfl rfl rfl ?_
 simp only[Act.put,sa,sz,ss]
 refine zA (d:=38) (v:=.bool false) (w':=w6) rfl rfl rfl (by kernel_rfl) ?_
 simp only[Act.put,sa,sz,ss]
 refine zC (zB ?_)
 refine wp_cond_false rfl (wp_skip ?_)
 refine zB (wp_seq (wp_seq ?_))
 refine zD (l:=[0,1,2,3]) rfl ?_
 refine zA (d:=40) (v:=.int .i64 ((A M:Nat):Int)) (w':=w6) rfl rfl rfl rfl ?_
 simp only[Act.put,sa,sz,ss]
 refine zA (d:=41) (v:=.slice q.p q.n q.cp) (w':=w6) rfl rfl rfl rfl ?_
 simp only[Act.put,sa,sz,ss]
 refine zA (d:=42) (v:=.int .i64 ((q.n:Nat):Int)) (w':=w6) rfl rfl rfl (by go_simp) ?_
 simp only[Act.put,sa,sz,ss]
 refine zA (d:=43) (v:=.bool true) (w':=w6) rfl rfl rfl (by have:=hqN.out;go_simp <;> omega) ?_
 simp only[Act.put,sa,sz,ss]
 refine zC (zB ?_)
 refine wp_cond_true rfl (wp_seq ?_)
 refine zD (l:=[0,1,2,3,4]) rfl ?_
 refine zA (d:=44) (v:=PT d 0) (w':=w6) rfl rfl rfl rfl ?_
 simp only[Act.put,sa,sz,ss]
 refine zA (d:=45) (v:=.string s) (w':=w6) rfl rfl rfl rfl ?_
 simp only[Act.put,sa,sz,ss]
 refine zA (d:=46) (v:=.int .i64 ((A M:Nat):Int)) (w':=w6) rfl rfl rfl rfl ?_
 simp only[Act.put,sa,sz,ss]
 refine zE (d:=47) (R:=fun vv w'=>vv=.int .i64 r∧I2 w') rfl rfl rfl (zF (args:=#[PT d 0,.string s,.int .i64 ((A M:Nat):Int)]) rfl call149 rfl (mpn rfl)) (Calls.mono (hcut.out w6 H6.out.2.1) (fun e w2 hh=>⟨_,hh.1,rfl,hh.2⟩)) ?_
 rintro _ w7 ⟨rfl,hI⟩
 have H7:Hid (I2 w7):=hI
 clear hI H6 hcut hlg hen
 simp only[Act.put,sa,sz,ss]
 refine zA (d:=12) (v:=.int .i64 r) (w':=w7) rfl rfl rfl rfl ?_
 simp only[Act.put,sa,sz,ss]
 refine zC (zB ?_)
 go_wp2
 go_ret3
 exact⟨rfl,H7.out⟩
def Ad.jop (A:Ad) (s:ByteArray) (m t:Nat):Int×Ad:=if t=0 then (0,A) else sq (A.cut s m) fun A1=>A1.syn s
theorem k_cut (A:Ad) (s:ByteArray) (c:Int):(A.cut s c).2.k=A.k+1:=by
 unfold Ad.cut
 split
 ·rfl
 ·cases A.lk s with
  | none=>rfl
  | some f=>dsimp only;split <;> rfl
section
variable {w0 u:World} {d:Nat} {A A':Ad} {L:List Nat}
theorem jopen_t (h:Da w0 d A L u) (hk:A.k<999999990) (ho:∀ f∈A.fs,f.ops.length<1000000) (s:ByteArray) (hs:s.size≤281474976710656) (hn:nmd s=true) (rs:List (List Nat)) (hr:∀ r∈rs,r.length≤65536) (t:List Nat) (hc:A.ct s=fl rs++t) (ht:Torn t) (hN:(fl rs++t).length≤1048576) (r:Int) (A':Ad) (hA:A.jop s (fl rs).length t.length=(r,A')) :
  Calls Tryz.prog 111 #[PT d 0,.string s] u fun e u'=>(r≠0→e=.returned (.tuple #[.pointer none,.slice none 0 0,.int .i64 r])∧Da w0 d A' L u'∧Kx L u u')∧(r=0→∃ j v P B,e=.returned (.tuple #[PT j 0,v,.int .i64 0])∧Mm u' [(j,jc d s rs.length (fl rs).length)]∧Lq B v rs.length P u'∧u.heap.size≤j∧j<B∧(∀ i,i<rs.length→bs (P i).n (P i).f=rs.getD i [])∧Da w0 d A' (j :: ((vbl v++gbs P rs.length)++L)) u'∧Kx L u u'):=by
 unfold Ad.jop at hA
 by_cases c0:t.length=0
 ·rw[if_pos c0] at hA
  obtain rfl:=List.eq_nil_of_length_eq_zero c0
  obtain⟨rfl,rfl⟩:=Prod.mk.inj hA
  rw[List.append_nil] at hc hN
  refine(jopen_a h s hs hn rs hr hc hN).mono ?_
  rintro e u' ⟨j,v,P,B,rfl,e2,e3,e4,e5,e6,e7⟩
  have hj:j<u'.heap.size:=(e2.blk _ (List.mem_cons_self ..)).1
  refine⟨fun e=>absurd rfl e,fun _=>⟨j,v,P,B,rfl,e2,e4,e5,e6,e7,?_,h.kx e3⟩⟩
  refine(h.add e3 (M:=j :: (vbl v++gbs P rs.length)) (fun x hx => ?_)).sub fun x hx=>by simpa using hx
  rcases List.mem_cons.1 hx with e | hx
  ·rw[e];exact⟨e5,hj⟩
  ·have:=e4.new x (List.mem_append.1 hx)
   omega
 ·rw[if_neg c0] at hA
  have hcb:=h
  obtain⟨D,h1,rfl,rfl,h4⟩:=hcb
  have hb:=Dq.ct_ab h1.dk s
  rw[hc] at hb
  obtain⟨l1,l2,l3⟩:=log_of hb hr ht
  rw[List.length_append] at hN
  have hAM:lA (rp rs) rs.length<cnN (lk D.fs s):=by rw[rp_all,l3];omega
  have e0:(fl rs).length=lA (rp rs) rs.length:=(rp_all rs).symm
  by_cases c1:(D.ab.cut s ((fl rs).length:Nat)).1=0
  rotate_left
  ·rw[sq_n c1] at hA
   have hr0:¬r=0:=by rw[hA] at c1;exact c1
   refine(jopen_e D.d s hs (cnN (lk D.fs s)) (cnC (lk D.fs s)) (lA (rp rs)) (fun i=>(rp rs i).n) rs.length (by omega) hAM r hr0 (fun u'=>Da w0 D.d A' L u'∧Kx L u u') u (jcontent_u D s hs hn h1.dk) l1 l2 (fun u1 hu1 => ?_)).mono fun e u' hh=>⟨fun _=>⟨hh.1,hh.2⟩,fun e=>absurd e hr0⟩
   refine jcut_err D.d s (lA (rp rs) rs.length) r hr0 _ u1 ((cut_a (h.step hu1) (by omega) ho s hs ((lA (rp rs) rs.length:Nat):Int)).mono fun e u' hh => ?_)
   rw[← e0,hA] at hh
   exact⟨hh.1,hh.2.1,(h.kx hu1).trans hh.2.2⟩
  ·rw[sq_z c1] at hA
   have hA1:D.ab.cut s ((fl rs).length:Nat)=(0,(D.ab.cut s ((fl rs).length:Nat)).2):=by rw[← c1]
   have hk1:=k_cut D.ab s ((fl rs).length:Nat)
   generalize (D.ab.cut s ((fl rs).length:Nat)).2=A1 at hA hA1 hk1
   by_cases c2:r=0
   rotate_left
   ·refine(jopen_e D.d s hs (cnN (lk D.fs s)) (cnC (lk D.fs s)) (lA (rp rs)) (fun i=>(rp rs i).n) rs.length (by omega) hAM r c2 (fun u'=>Da w0 D.d A' L u'∧Kx L u u') u (jcontent_u D s hs hn h1.dk) l1 l2 (fun u1 hu1 => ?_)).mono fun e u' hh=>⟨fun _=>⟨hh.1,hh.2⟩,fun e=>absurd e c2⟩
    refine jcut_ok D.d s (lA (rp rs) rs.length) r (fun u'=>Da w0 D.d D.ab L u'∧Kx L u u') (fun u'=>Da w0 D.d A1 L u'∧Kx L u u') (fun u'=>Da w0 D.d A' L u'∧Kx L u u') u1 ⟨h.step hu1,h.kx hu1⟩ (fun v v' hv hb=>⟨hv.1.step hb,hv.2.trans (hv.1.kx hb)⟩) (fun v v' hv hb=>⟨hv.1.step hb,hv.2.trans (hv.1.kx hb)⟩) (fun v v' hv hb=>⟨hv.1.step hb,hv.2.trans (hv.1.kx hb)⟩) (fun v hv => ?_) (fun v hv => ?_)
    ·refine(cut_a hv.1 (by omega) ho s hs ((lA (rp rs) rs.length:Nat):Int)).mono fun e u' hh => ?_
     rw[← e0,hA1] at hh
     exact⟨hh.1,hh.2.1,hv.2.trans hh.2.2⟩
    ·refine(syn_a hv.1 (by omega) s hs).mono fun e u' hh => ?_
     rw[hA] at hh
     exact⟨hh.1,hh.2.1,hv.2.trans hh.2.2⟩
   ·subst c2
    refine(jopen_c2 D.d s hs (cnN (lk D.fs s)) (cnC (lk D.fs s)) (lA (rp rs)) (fun i=>(rp rs i).n) rs.length (by omega) hAM (fun _ j v P u'=>Da w0 D.d A' (j :: ((vbl v++gbs P rs.length)++L)) u'∧Kx L u u'∧u.heap.size≤j) u (jcontent_u D s hs hn h1.dk) l1 l2 (fun B j v P v1 off vs hv=>⟨hv.1.jput (Nat.le_trans h.b.size hv.2.2) off vs,hv.2.1.trans ((put_chg j off vs).kx (fun x hx=>hv.1.lt (List.mem_cons_of_mem _ (List.mem_append_right _ hx))) (fun x hx hm => ?_)),hv.2.2⟩) (fun B j v P u1 hu1 hj1 hjB hj2 hlq => ?_)).mono ?_
    ·have:=h.lt hx
     have:=hv.2.2
     rw[List.mem_singleton.1 hm] at *
     omega
    ·have hda:Da w0 D.d D.ab (j :: ((vbl v++gbs P rs.length)++L)) u1:=(h.add hu1 (M:=j :: (vbl v++gbs P rs.length)) (fun x hx=>by
      rcases List.mem_cons.1 hx with e | hx
      ·rw[e];exact⟨hj1,hj2⟩
      ·have:=hlq.new x (List.mem_append.1 hx)
       omega)).sub fun x hx=>by simpa using hx
     have hkx:∀ {v1 v2:World},Kx (j :: ((vbl v++gbs P rs.length)++L)) v1 v2→Kx (j :: (vbl v++gbs P rs.length)) v1 v2:=fun hk=>hk.sub fun x hx=>by
      rcases List.mem_cons.1 hx with e | e
      ·exact List.mem_cons.2 (.inl e)
      ·exact List.mem_cons_of_mem _ (List.mem_append_left _ e)
     have hkl:∀ {v1 v2:World},Kx (j :: ((vbl v++gbs P rs.length)++L)) v1 v2→Kx L v1 v2:=fun hk=>hk.sub fun x hx=>List.mem_cons_of_mem _ (List.mem_append_right _ hx)
     refine(jcut_ok D.d s (lA (rp rs) rs.length) 0 (fun u'=>Da w0 D.d D.ab (j :: ((vbl v++gbs P rs.length)++L)) u'∧Kx (j :: ((vbl v++gbs P rs.length)++L)) u1 u') (fun u'=>Da w0 D.d A1 (j :: ((vbl v++gbs P rs.length)++L)) u'∧Kx (j :: ((vbl v++gbs P rs.length)++L)) u1 u') (fun u'=>Da w0 D.d A' (j :: ((vbl v++gbs P rs.length)++L)) u'∧Kx (j :: ((vbl v++gbs P rs.length)++L)) u1 u') u1 ⟨hda,Kx.refl _ _⟩ (fun v v' hv hb=>⟨hv.1.step hb,hv.2.trans (hv.1.kx hb)⟩) (fun v v' hv hb=>⟨hv.1.step hb,hv.2.trans (hv.1.kx hb)⟩) (fun v v' hv hb=>⟨hv.1.step hb,hv.2.trans (hv.1.kx hb)⟩) (fun v hv => ?_) (fun v hv => ?_)).mono ?_
     ·refine(cut_a hv.1 (by omega) ho s hs ((lA (rp rs) rs.length:Nat):Int)).mono fun e u' hh => ?_
      rw[← e0,hA1] at hh
      exact⟨hh.1,hh.2.1,hv.2.trans hh.2.2⟩
     ·refine(syn_a hv.1 (by omega) s hs).mono fun e u' hh => ?_
      rw[hA] at hh
      exact⟨hh.1,hh.2.1,hv.2.trans hh.2.2⟩
     ·rintro e u' ⟨rfl,e2,e3⟩
      exact⟨rfl,⟨e2,(h.kx hu1).trans (hkl e3),hj1⟩,hkx e3⟩
    ·rintro e u' ⟨j,v,P,B,rfl,e2,e3,e4,e5,e6,e7⟩
     refine⟨fun e=>absurd rfl e,fun _=>⟨j,v,P,B,rfl,by rw[e0];exact e2,e4,e5,e6,fun i hi => ?_,e3.1,e3.2.1⟩⟩
     obtain⟨f1,f2⟩:=e7 i hi
     rw[← rp_bs rs i,f1]
     exact bs_cg fun k hk=>(f2 k hk).trans (log_rec hb hi k hk)
end
end Wi
end Rg
end Go.Proofs.YtmcpagjhpfbpgaaGreatDoor
end
section
namespace Go.Proofs.YtmcpagjhpfbpgaaGreatDoor
open Go.RowKit
namespace Rg
namespace Wi
set_option maxRecDepth 100000
theorem be1 (u:World) (o:Obj):Below u.heap.size u (u.alloc o):=(Below.refl _ u).alloc (Nat.le_refl _) _
structure Fc (w1:World) (k:ByteArray) (v:Value) (u:World):Prop where
 b:Below w1.heap.size w1 u
 z:w1.heap.size<u.heap.size
 c0:u.cell? ⟨w1.heap.size,0,none⟩=some (.string k)
 c1:u.cell? ⟨w1.heap.size,1,none⟩=some v
 c2:u.cell? ⟨w1.heap.size,2,none⟩=some (.bool false)
theorem fc_1 (w1:World) (k:ByteArray) (v:Value):Fc w1 k v (w1.alloc (.cells #[.string k,v,.bool false] 65)).drew :=
 ⟨(be1 _ _).drew,by show w1.heap.size<(w1.alloc _).heap.size;simp,al_new w1 _ 65 0 _ rfl,al_new w1 _ 65 1 _ rfl,al_new w1 _ 65 2 _ rfl⟩
structure Gc (g:Nat) (k:ByteArray) (v:Value) (w2 u:World):Prop where
 ch:Chg [g] w2 u
 c0:u.cell? ⟨g,0,none⟩=some (.string k)
 c1:u.cell? ⟨g,1,none⟩=some v
 c2:u.cell? ⟨g,2,none⟩=some (.bool false)
theorem gc_1 {w2 w3:World} {g:Nat} {k:ByteArray} {v a b c:Value} (h:Below w2.heap.size w2 w3) (_hg:g<w2.heap.size) (h0:w3.cell? ⟨g,0,none⟩=some a) (h1:w3.cell? ⟨g,1,none⟩=some b) (h2:w3.cell? ⟨g,2,none⟩=some c):Gc g k v w2 (((w3.setCell ⟨g,0,none⟩ (.string k)).setCell ⟨g,1,none⟩ v).setCell ⟨g,2,none⟩ (.bool false)):=by
 have ck:∀ (u:World) (i j:Nat) (x:Value),i≠j→(u.setCell ⟨g,i,none⟩ x).cell? ⟨g,j,none⟩=u.cell? ⟨g,j,none⟩:=fun u i j x hij=>World.cell?_setCell_other _ _ _ _ (by intro e;cases e;exact hij rfl)
 refine⟨(Chg.of h).trans (put_chg g 0 [.string k,v,.bool false]) (fun x hx=>.inl hx),?_,?_,?_⟩
 ·rw[ck _ _ _ _ (by decide),ck _ _ _ _ (by decide)]
  exact World.cell?_setCell_same _ _ _ h0
 ·rw[ck _ _ _ _ (by decide)]
  refine World.cell?_setCell_same _ _ _ ((ck _ _ _ _ (by decide)).trans h1)
 ·refine World.cell?_setCell_same _ _ _ ((ck _ _ _ _ (by decide)).trans ((ck _ _ _ _ (by decide)).trans h2))
theorem rpair_any (q:Pt8) (k:ByteArray) (v:List Nat) (hk0:0<k.size) (hk:k.size≤128) (hv:v.length≤8192) (hn:q.n≤1048576) (hb:bs q.n q.f=wf [kb k,v]) (w:World) (hq:Pok q∧q.rs w) :
  Calls Tryz.prog 121 #[.slice q.p q.n q.cp] w fun e w'=>∃ p:Pt8,e=.returned (.tuple #[.agg #[.string k,.slice p.p p.n p.cp,.bool false],.bool true])∧Pq p w'∧(0<p.n→w.heap.size≤p.gb)∧bs p.n p.f=v∧Below w.heap.size w w':=by
 obtain⟨wa,hwa⟩:∃ wa,w.alloc (.cells #[.string ⟨#[]⟩,.slice none 0 0,.bool false] 65)=wa:=⟨_,rfl⟩
 have hba:Below w.heap.size w wa:=by rw[← hwa];exact be1 w _
 have HR:Hid (Calls Tryz.prog 155 #[.slice q.p q.n q.cp] wa fun e w'=>∃ vv P,e=.returned (.tuple #[vv,.int .i64 0])∧Lr wa vv 2 P w'∧∀ i,i<2→bs (P i).n (P i).f=([kb k,v]:List (List Nat)).getD i []):=ReadFields_q q [kb k,v] (by simp) hn hb wa ⟨hq.1,hq.2.below hba⟩
 have hsz:wa.heap.size=w.heap.size+1:=by rw[← hwa];simp
 have hca:∀ i x,(#[.string ⟨#[]⟩,.slice none 0 0,.bool false]:Array Value)[i]?=some x→wa.cell? ⟨w.heap.size,i,none⟩=some x:=fun i x hx=>by rw[← hwa];exact al_new w _ 65 i x hx
 have hfa:∀ i,wa.frozen? ⟨w.heap.size,i,none⟩=false:=fun i=>by rw[← hwa];exact World.frozen?_alloc_new ..
 have HA:Hid _:=hca
 have HF:Hid _:=hfa
 have HBA:Hid _:=hba
 have HSZ:Hid _:=hsz
 have HWA:Hid _:=hwa
 clear hca hfa hba hsz hb hq
 go_enter Tryz.func121,Tryz.ntmps121
 go_wp2_with (first
  | (go_at_call 155;refine Calls.mono HR.out ?_;rintro e w1 ⟨vv,P,rfl,hL,hP⟩;obtain⟨vp,vc,rfl,hvc⟩:=own_slice hL.own;have HL:Hid (Lr wa _ 2 P w1):=hL;have HP:Hid _:=hP;clear hL hP)
  | fail)
 clear hwa
 obtain⟨vb,rfl⟩:∃ vb,vp=some ⟨vb,0,none⟩:=by
  rcases HL.out.own.2 with ⟨_,h2⟩ | ⟨b,cap,cur,h1,_⟩
  ·cases h2
  ·cases h1
   exact⟨b,rfl⟩
 have c0:w1.cell? ⟨vb,0,none⟩=some (.slice (P 0).p (P 0).n (P 0).cp):=by rw[HL.out.own.cellAt 0 (by omega),pcs_get P (by omega)]
 have c1:w1.cell? ⟨vb,1,none⟩=some (.slice (P 1).p (P 1).n (P 1).cp):=by rw[HL.out.own.cellAt 1 (by omega),pcs_get P (by omega)]
 have hp0:=HP.out 0 (by omega)
 have hp1:=HP.out 1 (by omega)
 have HP1:Hid (bs (P 1).n (P 1).f=v):=hp1
 have hn0:(P 0).n=k.size:=by have:=congrArg List.length hp0;rw[bs_len] at this;rw[this];exact kb_len k
 have HCV:Hid (∀ u,Below w1.heap.size w1 u→(convert 40 9 (.slice (P 0).p (P 0).n (P 0).cp)).run Tryz.prog u=.ok (.string k) u):=fun u hu=>p2s (P 0) k hn0 hk0 hp0 u ⟨(HL.out.ok 0 (by omega)).1,(HL.out.ok 0 (by omega)).2.2.1.below hu⟩
 have hcv:(convert 40 9 (.slice (P 0).p (P 0).n (P 0).cp)).run Tryz.prog w1.drew=.ok (.string k) w1.drew:=HCV.out _ (Below.refl _ _).drew
 have hvb:vb<w1.heap.size:=own_lt HL.out.own vb (by simp[vbl,Value.ownBlock])
 have hcv2:(convert 40 9 (.slice (P 0).p (P 0).n (P 0).cp)).run Tryz.prog (w1.alloc (.cells #[.string ⟨#[]⟩,.slice none 0 0,.bool false] 65)).drew=.ok (.string k) (w1.alloc (.cells #[.string ⟨#[]⟩,.slice none 0 0,.bool false] 65)).drew:=HCV.out _ (be1 _ _).drew
 clear hp0 hp1 hn0 hvc
 refine wp_qm0 (fun u'=>Fc w1 k (.slice (P 1).p (P 1).n (P 1).cp) u') ?_
 apply Exists.intro
 apply And.intro
 ·go_region
  all_goals (
   simp only[Qm]
   first | exact⟨rfl,fc_1 _ _ _⟩ | exact⟨trivial,fc_1 _ _ _⟩)
 intro w2 hw2
 have HW2:Hid _:=hw2
 have d0:=hw2.c0
 have d1:=hw2.c1
 have d2:=hw2.c2
 have hz2:=hw2.z
 have HG:Hid (w.heap.size<wa.heap.size):=(by have:=HSZ.out;omega:w.heap.size<wa.heap.size)
 have e0:∀ i x,(#[.string ⟨#[]⟩,.slice none 0 0,.bool false]:Array Value)[i]?=some x→w2.cell? ⟨w.heap.size,i,none⟩=some x:=fun i x hx=>((hw2.b.cell (p:=⟨w.heap.size,i,none⟩) (Nat.lt_of_lt_of_le HG.out HL.out.b.size)).trans (HL.out.b.cell (p:=⟨w.heap.size,i,none⟩) HG.out)).trans (HA.out i x hx)
 have f0:w2.frozen? ⟨w.heap.size,0,none⟩=false:=((hw2.b.frozen (p:=⟨w.heap.size,0,none⟩) (Nat.lt_of_lt_of_le HG.out HL.out.b.size)).trans (HL.out.b.frozen (p:=⟨w.heap.size,0,none⟩) HG.out)).trans (HF.out 0)
 have f1:w2.frozen? ⟨w.heap.size,1,none⟩=false:=((hw2.b.frozen (p:=⟨w.heap.size,1,none⟩) (Nat.lt_of_lt_of_le HG.out HL.out.b.size)).trans (HL.out.b.frozen (p:=⟨w.heap.size,1,none⟩) HG.out)).trans (HF.out 1)
 have f2:w2.frozen? ⟨w.heap.size,2,none⟩=false:=((hw2.b.frozen (p:=⟨w.heap.size,2,none⟩) (Nat.lt_of_lt_of_le HG.out HL.out.b.size)).trans (HL.out.b.frozen (p:=⟨w.heap.size,2,none⟩) HG.out)).trans (HF.out 2)
 have g0:=e0 0 _ rfl
 have g1:=e0 1 _ rfl
 have g2:=e0 2 _ rfl
 have hfit:Cq.fit ⟨k,P 1,false⟩=0:=by
  have hv1:(P 1).n=v.length:=by have:=congrArg List.length HP1.out;rwa [bs_len] at this
  unfold Cq.fit
  rw[if_neg (by
   rintro (h | ⟨h,_⟩)
   ·have h:k.size=0:=h
    omega
   ·cases h),if_neg (by
   rintro (h | h)
   ·have h:128<k.size:=h
    omega
   ·have h:8192<(P 1).n:=h
    omega)]
 have HFIT:Hid (∀ u,Calls Tryz.prog 103 #[.agg #[.string k,.slice (P 1).p (P 1).n (P 1).cp,.bool false]] u fun e u'=>e=.returned (.int .i64 0)∧Below u.heap.size u u'):=fun u=>by
  have:=fits_any ⟨k,P 1,false⟩ u
  rw[hfit] at this
  exact this
 clear e0 hw2 hfit c0 c1 hcv hcv2 hvb
 have hlt2:w.heap.size<w2.heap.size:=Nat.lt_of_lt_of_le HG.out (Nat.le_trans HL.out.b.size HW2.out.b.size)
 go_wp2
 refine wp_qm0 (fun u'=>Gc w.heap.size k (.slice (P 1).p (P 1).n (P 1).cp) w2 u') ?_
 apply Exists.intro
 apply And.intro
 ·go_region_with (first
   | (go_at_call 103;refine Calls.mono (HFIT.out w2.drew) ?_;rintro e w3 ⟨rfl,hb3⟩;have HB3:Hid (Below w2.heap.size w2 w3):=(Below.refl _ w2).drew.trans hb3;have x0:=(HB3.out.cell (p:=⟨w1.heap.size,0,none⟩) hz2).trans d0;have x1:=(HB3.out.cell (p:=⟨w1.heap.size,1,none⟩) hz2).trans d1;have x2:=(HB3.out.cell (p:=⟨w1.heap.size,2,none⟩) hz2).trans d2;have y0:=(HB3.out.cell (p:=⟨w.heap.size,0,none⟩) hlt2).trans g0;have y1:=(HB3.out.cell (p:=⟨w.heap.size,1,none⟩) hlt2).trans g1;have y2:=(HB3.out.cell (p:=⟨w.heap.size,2,none⟩) hlt2).trans g2;have z0:=(HB3.out.frozen (p:=⟨w.heap.size,0,none⟩) hlt2).trans f0;have z1:=(HB3.out.frozen (p:=⟨w.heap.size,1,none⟩) hlt2).trans f1;have z2:=(HB3.out.frozen (p:=⟨w.heap.size,2,none⟩) hlt2).trans f2;clear hb3)
   | fail)
  all_goals (
   simp only[Qm]
   first | exact⟨rfl,gc_1 HB3.out hlt2 y0 y1 y2⟩ | exact⟨trivial,gc_1 HB3.out hlt2 y0 y1 y2⟩)
 intro w4 hw4
 have HW4:Hid _:=hw4
 have r0:=hw4.c0
 have r1:=hw4.c1
 have r2:=hw4.c2
 clear hw4 d0 d1 d2 g0 g1 g2 f0 f1 f2
 go_wp2
 refine bodyPost_ret (v:=.tuple #[.agg #[.string k,.slice (P 1).p (P 1).n (P 1).cp,.bool false],.bool true]) ?_ rfl ?_
 ·rw[results_cell_tmp rfl]
  go_simp
 ·have hok:=HL.out.ok 1 (by omega)
  have hg:0<(P 1).n→wa.heap.size≤(P 1).gb:=fun h0=>(hok.2.2.2 h0).1
  have hr2:(P 1).rs w2:=hok.2.2.1.below HW2.out.b
  have hbw:Below w.heap.size w w2:=HBA.out.trans ((HL.out.b.trans (HW2.out.b.mono HL.out.b.size)).mono HBA.out.size)
  have hsz:=HSZ.out
  refine⟨P 1,rfl,⟨hok.1,hok.2.1,fun h0=>Nat.lt_of_lt_of_le (hr2.lt h0) HW4.out.ch.size,fun i hi => ?_⟩,fun h0=>by have:=hg h0;omega,HP1.out,hbw.trans (HW4.out.ch.toBelow (fun x hx=>by rw[List.mem_singleton.1 hx];exact Nat.le_refl _) hbw.size)⟩
  have h0:0<(P 1).n:=by omega
  exact(HW4.out.ch.cell (p:=⟨(P 1).gb,(P 1).o+i,none⟩) (hr2.lt h0) (fun e=>by have e:=List.mem_singleton.1 e;have:=hg h0;have e:(P 1).gb=w.heap.size:=e;omega)).trans (hr2.at_ i hi)
end Wi
end Rg
end Go.Proofs.YtmcpagjhpfbpgaaGreatDoor
end
section
namespace Go.Proofs.YtmcpagjhpfbpgaaGreatDoor
open Go.RowKit
namespace Rg
namespace Wi
set_option maxRecDepth 100000
def kch (B:ByteArray→Option (List Nat)) (k:List UInt8):Ch:=⟨⟨k.toArray⟩,(B ⟨k.toArray⟩).getD [],false⟩
theorem cput_ks (B:ByteArray→Option (List Nat)):∀ (ks:List (List UInt8)) (X:ByteArray→Option (List Nat)),(∀ k∈ks,(B ⟨k.toArray⟩).isSome=true)→∀ s:ByteArray,(ks.foldl (fun Y k=>cput Y (kch B k)) X) s=if s.data.toList∈ks then B s else X s
 | [],X,_,s=>by simp
 | k :: r,X,h,s=>by
  rw[List.foldl_cons,cput_ks B r _ (fun x hx=>h x (List.mem_cons_of_mem _ hx)) s]
  by_cases c:s.data.toList∈r
  ·rw[if_pos c,if_pos (List.mem_cons_of_mem _ c)]
  ·rw[if_neg c]
   by_cases e:s.data.toList=k
   ·have e2:s=⟨k.toArray⟩:=by
     apply ByteArray.ext
     rw[← e]
    rw[if_pos (by rw[e];exact List.mem_cons_self ..)]
    have hk:=h k (List.mem_cons_self ..)
    show (if s=(⟨k.toArray⟩:ByteArray) then (if false=true then none else some ((B ⟨k.toArray⟩).getD [])) else X s)=B s
    rw[if_pos e2,if_neg (by decide),e2]
    cases hb:B ⟨k.toArray⟩ with
    | none=>rw[hb] at hk;cases hk
    | some x=>rfl
   ·rw[if_neg (by
     intro hm
     rcases List.mem_cons.1 hm with e1 | e1
     ·exact e e1
     ·exact c e1)]
    show (if s=(⟨k.toArray⟩:ByteArray) then _ else X s)=X s
    rw[if_neg (fun e2=>e (by rw[e2]))]
theorem kys_all {B:ByteArray→Option (List Nat)} {ks:List (List UInt8)} (h:Kys B ks):ks.foldl (fun Y k=>cput Y (kch B k)) (fun _=>none)=B:=by
 have hk:∀ k∈ks,(B ⟨k.toArray⟩).isSome=true:=fun k hk=>by
  obtain⟨s,rfl,hs⟩:=(h.2.2 k).1 hk
  exact hs
 funext s
 rw[cput_ks B ks _ hk s]
 split
 ·rfl
 ·rename_i c
  cases hb:B s with
  | none=>rfl
  | some x=>exact absurd ((h.2.2 _).2 ⟨s,rfl,by rw[hb];rfl⟩) c
theorem kys_lt {B:ByteArray→Option (List Nat)} {ks:List (List UInt8)} (h:Kys B ks) {i:Nat} (hi:i+1<ks.length):¬ks.getD (i+1) []≤ks.getD i []:=by
 intro hle
 have h1:=List.pairwise_iff_getElem.1 h.2.1 i (i+1) (by omega) hi (by omega)
 have h2:=List.pairwise_iff_getElem.1 h.1 i (i+1) (by omega) hi (by omega)
 rw[List.getD_eq_getElem?_getD,List.getD_eq_getElem?_getD,List.getElem?_eq_getElem hi,List.getElem?_eq_getElem (show i<ks.length by omega)] at hle
 exact h2 (List.le_antisymm h1 hle)
end Wi
end Rg
end Go.Proofs.YtmcpagjhpfbpgaaGreatDoor
end
section
namespace Go.Proofs.YtmcpagjhpfbpgaaGreatDoor
open Go.RowKit
namespace Rg
namespace Wi
set_option maxRecDepth 100000
theorem str_above {a b:ByteArray} (h:¬a.data.toList≤b.data.toList):(Op.bytesLess a.toList b.toList || a.toList == b.toList)=false:=by
 rw[ByteArray.toList_eq,ByteArray.toList_eq,bytesLess_eq]
 rw[Bool.or_eq_false_iff]
 refine⟨decide_eq_false fun e=>h (List.le_of_lt e),Bool.eq_false_iff.2 fun e=>h ?_⟩
 rw[eq_of_beq e]
 exact List.le_refl _
theorem jread_l (q:Pt8) (rs:List (List Nat)) (hr:∀ r∈rs,r.length≤65536) (hb:bs q.n q.f=fl rs) (hn:q.n≤1048576) (w:World) (hq:Pq q w) :
  Calls Tryz.prog 119 #[.slice q.p q.n q.cp] w fun e w'=>∃ v P,e=.returned (.tuple #[v,.int .i64 ((q.n:Nat):Int),.int .i64 0])∧Below w.heap.size w w'∧Lq w.heap.size v rs.length P w'∧∀ i,i<rs.length→bs (P i).n (P i).f=rs.getD i []:=by
 have hb':bs q.n q.f=fl rs++[]:=by rw[hb,List.append_nil]
 obtain⟨l1,l2,l3⟩:=log_of hb' hr (.inl rfl)
 rw[List.length_nil,Nat.add_zero] at l3
 refine(Read_fine q (lA (rp rs)) (fun i=>(rp rs i).n) rs.length hn w ⟨hq.1,hq.2.2⟩ hq.2.1 l1 l2).mono fun e w' hh => ?_
 obtain⟨v,P,e1,⟨e2,e3⟩,e4⟩:=hh
 refine⟨v,P,by rw[e1,rp_all,l3],e2,e3,fun i hi => ?_⟩
 obtain⟨f1,f2⟩:=e4 i hi
 rw[← rp_bs rs i,f1]
 exact bs_cg fun k hk=>(f2 k hk).trans (log_rec hb' hi k hk)
section
variable {w0 u u1 wr:World} {d g mv N:Nat} {A A':Ad} {base:ByteArray} {G:Int} {B:ByteArray→Option (List Nat)} {O L LL:List Nat}
theorem Sy.one (h:Sy w0 d A g mv base G B N O LL u) (bx:Nat) (hbx:bx∈LL) (cb:u.cell? ⟨bx,0,none⟩=some (PT g 0)) (k:ByteArray) (p:Pt8) (hp:Pq p u) (hpm:mv∉gbl p) (hk:k.size≤128) (hpn:p.n≤8192) (hN:N+1≤4096) :
  Calls Tryz.prog 58 #[.slice (some ⟨u.heap.size,0,none⟩) 1 1,PT bx 0] (u.alloc (.cells #[.string k,.slice p.p p.n p.cp,.bool false] 65)) fun e u'=>e=.returned (.bool true)∧(∃ O',Sy w0 d A g mv base G (cput B ⟨k,bs p.n p.f,false⟩) (N+1) O' LL u')∧Kx LL u u'∧u'.cell? ⟨g,2,none⟩=u.cell? ⟨g,2,none⟩∧∀ x,x<u.heap.size→x≠mv→u'.heap[x]?=u.heap[x]?:=by
 have hb3:=be1 u (.cells #[.string k,.slice p.p p.n p.cp,.bool false] 65)
 have hc3:∀ i v,(#[.string k,.slice p.p p.n p.cp,.bool false]:Array Value)[i]?=some v→(u.alloc (.cells #[.string k,.slice p.p p.n p.cp,.bool false] 65)).cell? ⟨u.heap.size,i,none⟩=some v:=fun i v hi=>al_new u _ 65 i v hi
 have hz3:u.heap.size<(u.alloc (.cells #[.string k,.slice p.p p.n p.cp,.bool false] 65)).heap.size:=by simp
 generalize u.alloc (.cells #[.string k,.slice p.p p.n p.cp,.bool false] 65)=u3 at hb3 hc3 hz3
 obtain⟨s1,s2⟩:=h.below hb3
 have hbl:=h.da.lt (List.mem_append_right _ hbx)
 have hmv:=h.vb.lt
 have hcl:Cl (some ⟨u.heap.size,0,none⟩) u.heap.size 0 1 (fun _=>⟨k,p,false⟩) u3:=⟨fun _=>rfl,fun _=>hz3,fun i hi=>by
  obtain rfl:i=0:=by omega
  exact hc3 0 _ rfl,fun i hi=>by
  obtain rfl:i=0:=by omega
  exact hc3 1 _ rfl,fun i hi=>by
  obtain rfl:i=0:=by omega
  exact hc3 2 _ rfl⟩
 refine(clos_any bx (fun b=>b∈O∨u3.heap.size≤b) g mv N B (some ⟨u.heap.size,0,none⟩) 1 1 u.heap.size 0 (fun _=>⟨k,p,false⟩) (by decide) hN u3 ((hb3.cell (p:=⟨bx,0,none⟩) hbl).trans cb) ⟨Nat.lt_of_lt_of_le hbl hb3.size,fun e=>s1.ap mv s1.om (by rw[← e];exact hbx)⟩ s1.c4 ⟨s1.gl,s1.gm⟩ hcl (by omega)
  (fun _ _=>⟨hp.below hb3,hpm,hpn,hk⟩) (s1.vb.wide fun b hb=>.inl hb) s1.vb.lt (fun b hb=>.inr hb)).mono ?_
 rintro e w3 ⟨rfl,e2,e3⟩
 obtain⟨⟨O',f1⟩,f2⟩:=s1.did e2 e3
 refine⟨rfl,⟨O',?_⟩,s2.trans f2,(e2.cell (p:=⟨g,2,none⟩) s1.gl (fun e=>s1.gm (List.mem_singleton.1 e))).trans (hb3.cell (p:=⟨g,2,none⟩) h.gl),fun x hx hxm=>(e2.block x (Nat.lt_of_lt_of_le hx hb3.size) (fun e=>hxm (List.mem_singleton.1 e))).trans (hb3.block x hx)⟩
 rw[bdo_cdo] at f1
 exact f1
def Ip (w0:World) (d:Nat) (A:Ad) (g mv:Nat) (base:ByteArray) (n:Nat) (B:ByteArray→Option (List Nat)) (ks:List (List UInt8)) (LL:List Nat) (u1:World) (i:Nat) (wr:World):Prop :=
 (∃ O,Sy w0 d A g mv base (n:Int) ((ks.take i).foldl (fun Y k=>cput Y (kch B k)) fun _=>none) i O LL wr)∧Kx LL u1 wr∧wr.cell? ⟨g,2,none⟩=some (.pointer none)
def kbe (ks:List (List UInt8)) (i:Nat):ByteArray:=if i=0 then ⟨#[]⟩ else ⟨(ks.getD (i - 1) []).toArray⟩
structure Lp (w0:World) (d:Nat) (A:Ad) (g mv:Nat) (base:ByteArray) (n:Nat) (B:ByteArray→Option (List Nat)) (ks:List (List UInt8)) (L LL:List Nat) (b:Nat) (P:Nat→Pt8) (u1:World):Prop where
 ip:Ip w0 d A g mv base n B ks LL u1 0 u1
 bl:b∈LL
 ce:∀ i,i<ks.length→u1.cell? ⟨b,i+1,none⟩=some (.slice (P (i+1)).p (P (i+1)).n (P (i+1)).cp)
 pt:∀ i,i<ks.length→(Pok (P (i+1))∧(P (i+1)).rs u1)∧(0<(P (i+1)).n→(P (i+1)).gb∈LL)∧(P (i+1)).n≤65536∧bs (P (i+1)).n (P (i+1)).f=pbd B (ks.getD i [])
 sb:∀ x∈L,x∈LL
end
end Wi
end Rg
end Go.Proofs.YtmcpagjhpfbpgaaGreatDoor
end
section
namespace Go.Proofs.YtmcpagjhpfbpgaaGreatDoor
open Go.RowKit
namespace Rg
namespace Wi
set_option maxRecDepth 100000
theorem own_set3 {u:World} {g d n:Nat} {x:Value} {P:Nat→Nat} (h:u.ownsRow 0 5 1 x n (zN .u8 P n)) (c0:u.cell? ⟨g,0,none⟩=some (PT d 0)) (v:Value):(u.setCell ⟨g,3,none⟩ v).ownsRow 0 5 1 x n (zN .u8 P n):=by
 rcases h.2 with ⟨h1,h2⟩ | ⟨b,cap,cur,h1,h2,h3,h4,h5,h6,h7⟩
 ·exact⟨h.1,.inl ⟨h1,h2⟩⟩
 ·by_cases e:b=g
  ·subst e
   by_cases hn:n=0
   ·subst hn
    refine⟨h.1,.inr ⟨b,cap,cur.setIfInBounds 3 v,h1,h2,?_,h4,h5,?_,?_⟩⟩
    ·simp[World.setCell,Array.getElem?_modify,h3]
    ·simp[h6]
    ·simp[zN]
   ·exfalso
    have h':=h
    rw[h1] at h'
    have e1:=h'.cellAt 0 (by omega)
    rw[c0] at e1
    have e2:(zN .u8 P n)[0]?=some (.int .u8 (P 0)):=by
     unfold zN
     rw[List.getElem?_map,List.getElem?_range (by omega)]
     rfl
    rw[e2] at e1
    cases e1
  ·refine own_keep h fun y hy=>Below.heap_setCell _ _ _ _ fun hg=>e ?_
   rw[h1] at hy
   have:y=b:=by simpa [vbl,Value.ownBlock] using hy
   rw[← this,hg]
section
variable {w0 u u':World} {d g j mv nb N:Nat} {A A':Ad} {base s:ByteArray} {G:Int} {B:ByteArray→Option (List Nat)} {O L L0:List Nat}
theorem Sy.put3 (h:Sy w0 d A g mv base G B N O L u) (G':Int):Sy w0 d A g mv base G' B N O L (u.setCell ⟨g,3,none⟩ (.int .i64 G'))∧Kx L u (u.setCell ⟨g,3,none⟩ (.int .i64 G'))∧(u.setCell ⟨g,3,none⟩ (.int .i64 G')).cell? ⟨g,2,none⟩=u.cell? ⟨g,2,none⟩:=by
 have hc:Chg [g] u (u.setCell ⟨g,3,none⟩ (.int .i64 G')):=put_chg g 3 [.int .i64 G']
 have hmg:mv∉[g]:=fun e=>h.gm (List.mem_singleton.1 e).symm
 have hk:∀ k,k≠3→(u.setCell ⟨g,3,none⟩ (.int .i64 G')).cell? ⟨g,k,none⟩=u.cell? ⟨g,k,none⟩:=fun k hk=>World.cell?_setCell_other _ _ _ _ (by intro e;cases e;omega)
 have hm:(u.setCell ⟨g,3,none⟩ (.int .i64 G')).heap[mv]?=u.heap[mv]?:=hc.block mv h.vb.lt hmg
 obtain⟨V,M,v1,v2,v3,v4⟩:=h.vb
 refine⟨⟨h.da.chg hc (fun x hx=>by rw[List.mem_singleton.1 hx];exact List.mem_append_left _ h.og) (fun x hx=>by rw[List.mem_singleton.1 hx];exact h.lo _ h.og),(hk 0 (by omega)).trans h.c0,(hk 1 (by omega)).trans h.c1,World.cell?_setCell_same _ _ _ h.c3,(hk 4 (by omega)).trans h.c4,fun k => ?_,?_,h.lo,h.og,h.om,h.gm,h.ap⟩,hc.kx (fun x hx=>h.da.lt (List.mem_append_right _ hx)) (fun x hx hm=>h.ap g h.og (by rw[← List.mem_singleton.1 hm];exact hx)),hk 2 (by omega)⟩
 ·rw[World.frozen?_setCell]
  exact h.fz k
 ·obtain⟨X,x1,x2⟩:=v1.mp
  exact⟨V,M,⟨⟨X,zQ x1 hm,x2⟩,fun t y hy=>own_set3 (v1.ow t y hy) h.c0 (.int .i64 G'),v1.nb⟩,v2,v3,v4⟩
theorem Vb.kys {Q:Nat→Prop} {w:World} {mv N:Nat} (h:Vb Q w mv B N):∃ ks,Kys B ks∧ks.length≤N:=by
 obtain⟨V,M,h1,h2,h3,h4⟩:=h
 obtain⟨X,x1,x2,x3,x4⟩:=h1.mp
 obtain⟨n1,n0,n2⟩:=keys_spec x1 x3
 have hp:=List.mergeSort_perm (strKeys X) (fun x y=>decide (x≤y))
 refine⟨(strKeys X).mergeSort (fun x y=>decide (x≤y)),⟨hp.nodup_iff.2 n1,?_,fun l => ?_⟩,by rw[hp.length_eq,n0,x4];exact h2⟩
 ·have:=List.pairwise_mergeSort (le:=fun (x y:List UInt8)=>decide (x≤y)) (fun a b c h1 h2=>decide_eq_true (List.le_trans (of_decide_eq_true h1) (of_decide_eq_true h2))) (fun a b=>by simpa using List.le_total a b) (strKeys X)
  exact this.imp fun h=>of_decide_eq_true h
 ·rw[hp.mem_iff,n2 l]
  constructor
  ·rintro⟨s,e1,e2⟩
   exact⟨s,e1,by rw[← h3 s];simpa using e2⟩
  ·rintro⟨s,e1,e2⟩
   rw[← h3 s] at e2
   exact⟨s,e1,by simpa using e2⟩
theorem So.kys (h:So w0 d A g j mv base s G nb B N L0 u):∃ ks,Kys B ks∧ks.length≤N:=by
 obtain⟨O,h1⟩:=h.1
 exact h1.vb.kys
end
theorem sq_k (X:Int×Ad) (f:Ad→Int×Ad) {m M:Nat} (h1:X.2.k≤m) (hm:m≤M) (h2:∀ Y:Ad,Y.k≤m→(f Y).2.k≤M):(sq X f).2.k≤M:=by
 unfold sq
 split
 ·exact h2 _ h1
 ·omega
theorem k_rnt (A:Ad) (a t:ByteArray):(A.rnt a t).2.k≤A.k+1:=by
 unfold Ad.rnt
 cases A.lk a with
 | none=>exact Nat.le_refl _
 | some f =>
  show (A.rnm f a t).2.k≤_
  unfold Ad.rnm
  split <;> exact Nat.le_refl _
theorem k_rep (A:Ad) (base:ByteArray) (n:Nat) (b:List Nat):(A.rep base n b).2.k≤A.k+5:=by
 unfold Ad.rep
 refine sq_k _ _ (m:=A.k+1) (k_rma _ _) (by omega) fun A1 h1 => ?_
 refine sq_k _ _ (m:=A.k+2) (Nat.le_trans (k_rma _ _) (by omega)) (by omega) fun A2 h2 => ?_
 refine sq_k _ _ (m:=A.k+3) (by rw[k_app];omega) (by omega) fun A4 h4 => ?_
 refine sq_k _ _ (m:=A.k+4) (by rw[k_syn];omega) (by omega) fun A5 h5 => ?_
 exact Nat.le_trans (k_rnt _ _ _) (by omega)
theorem check_err (g j0:Nat) (n:Nat) (hn:n<1000000) (r:Int) (hr:¬r=0) (I0:World→Prop) (I1:Pt8→World→Prop) (I2:World→Prop)
  (s0:∀ u u',I0 u→Below u.heap.size u u'→I0 u')
  (c0:∀ u,I0 u→u.cell? ⟨g,2,none⟩=some (PT j0 0)∧u.cell? ⟨g,3,none⟩=some (.int .i64 (n:Int)))
  (h50:∀ u,I0 u→Calls Tryz.prog 50 #[PT g 0,.int .i64 ((n:Int)+1)] u fun e u'=>∃ q:Pt8,e=.returned (.tuple #[.slice q.p q.n q.cp,.int .i64 0])∧I1 q u')
  (h51:∀ q u,I1 q u→Calls Tryz.prog 51 #[PT g 0,.slice q.p q.n q.cp,.int .i64 ((n:Int)+1)] u fun e u'=>∃ v,e=.returned (.tuple #[v,.int .i64 r])∧I2 u')
  (w:World) (hw:I0 w):Calls Tryz.prog 15 #[PT g 0] w fun e u'=>e=.returned (.int .i64 r)∧I2 u':=by
 obtain⟨k2,k3⟩:=c0 w hw
 have H50:Hid _:=h50
 have H51:Hid _:=h51
 have S0:Hid _:=s0
 have HW:Hid _:=hw
 clear h50 h51 s0 c0 hw
 go_enter Tryz.func15,Tryz.ntmps15
 go_wp2_with (first
  | (go_at_call 42;refine(smade_j g j0 _ k2).mono ?_;rintro e w ⟨rfl,rfl⟩)
  | fail)
 refine wp_qm0 (fun u'=>Below w.heap.size w u') ?_
 apply Exists.intro
 apply And.intro
 ·go_region
  all_goals (
   simp only[Qm]
   first | exact⟨rfl,(Below.refl _ _).drew⟩ | exact⟨trivial,(Below.refl _ _).drew⟩)
 intro w1 hb1
 have HW1:Hid _:=S0.out _ _ HW.out hb1
 go_wp2_with (first
  | (go_at_call 51;refine Calls.mono (H51.out q w2 HW2.out) ?_;rintro e w3 ⟨v,rfl,hw3⟩;have HW3:Hid _:=hw3;clear hw3)
  | (go_at_call 50;refine Calls.mono (H50.out w1 HW1.out) ?_;rintro e w2 ⟨q,rfl,hw2⟩;have HW2:Hid _:=hw2;clear hw2)
  | fail)
 go_ret
 exact⟨rfl,HW3.out⟩
section
variable {w0 u u':World} {d g j mv nb N:Nat} {A A':Ad} {base s:ByteArray} {G:Int} {B:ByteArray→Option (List Nat)} {O L L0:List Nat}
theorem So.ckb (h:So w0 d A g j mv base s G nb B N L0 u) (n:Nat) (hn:n<1000000) (hN:N≤1000000) (hkl:∀ k,(B k).isSome=true→k.size≤128) (ks:List (List UInt8)) (hks:Kys B ks) (hsz:(fl (ckl n B ks)).length≤1048576) :
  Calls Tryz.prog 50 #[PT g 0,.int .i64 (n:Int)] u fun e u'=>∃ q:Pt8,e=.returned (.tuple #[.slice q.p q.n q.cp,.int .i64 0])∧So w0 d A g j mv base s G nb B N (gbl q++L0) u'∧Kx L0 u u'∧Pq q u'∧bs q.n q.f=fl (ckl n B ks):=by
 obtain⟨O,h1⟩:=h.1
 refine(ckb_any g mv N n (by omega) _ B u h1.c4 h1.gl h1.vb hN hkl (fun k2 h2=>by rw[Kys.uniq h2 hks];exact hsz)).mono ?_
 rintro e u' ⟨v,k2,rfl,h2,M,P,hc,hb⟩
 obtain⟨q,rfl,q1,q2,q3,q4,q5,q6⟩:=hc.part
 have hlt:∀ x∈gbl q,u.heap.size≤x∧x<u'.heap.size:=fun x hx=>by
  unfold gbl at hx
  split at hx
  ·cases hx
  ·obtain rfl:=List.mem_singleton.1 hx
   exact⟨q6 (by omega),q5.lt (by omega)⟩
 refine⟨q,rfl,h.more hc.b hlt,(h.below hc.b).2,⟨q1,q2,q5⟩,?_⟩
 rw[q3,q4,hb,Kys.uniq h2 hks]
theorem So.check (n:Nat) (h:So w0 d A g j mv base (zP base n) (n:Int) nb B N L0 u) (hk:A.k<999999980) (ho:∀ f∈A.fs,f.ops.length<999999) (hs:base.size≤40) (hn:n+1<32) (hnl:nmd (zP base (n+1))=true) (hns:nmd (nsnap base)=true) (hN:N≤1000000) (hkl:∀ k,(B k).isSome=true→k.size≤128) (ks:List (List UInt8)) (hks:Kys B ks) (hsz:(fl (ckl (n+1) B ks)).length≤1048576) (r:Int) (A':Ad) (hA:A.rep base (n+1) (fl (ckl (n+1) B ks))=(r,A')) :
  Calls Tryz.prog 15 #[PT g 0] u fun e u'=>e=.returned (.int .i64 r)∧Kx L0 u u'∧(r=0→∃ j',So w0 d (A'.rma (zP base n)).2 g j' mv base (zP base (n+1)) ((n+1:Nat):Int) nb B N L0 u')∧(r≠0→So w0 d A' g j mv base (zP base n) (n:Int) nb B N L0 u'):=by
 have en:(n:Int)+1=((n+1:Nat):Int):=by omega
 have hLL:∀ q:Pt8,∀ x∈gbl q,x∈gbl q++L0:=fun q x hx=>List.mem_append_left _ hx
 have h50:∀ v,(So w0 d A g j mv base (zP base n) (n:Int) nb B N L0 v∧Kx L0 u v)→Calls Tryz.prog 50 #[PT g 0,.int .i64 ((n:Int)+1)] v fun e u'=>∃ q:Pt8,e=.returned (.tuple #[.slice q.p q.n q.cp,.int .i64 0])∧(So w0 d A g j mv base (zP base n) (n:Int) nb B N (gbl q++L0) u'∧Kx L0 u u'∧Pq q u'∧bs q.n q.f=fl (ckl (n+1) B ks)):=fun v hv=>by
  rw[en]
  refine(hv.1.ckb (n+1) (by omega) hN hkl ks hks hsz).mono ?_
  rintro e u' ⟨q,rfl,e1,e2,e3,e4⟩
  exact⟨q,rfl,e1,hv.2.trans e2,e3,e4⟩
 have h51:∀ (q:Pt8) v,(So w0 d A g j mv base (zP base n) (n:Int) nb B N (gbl q++L0) v∧Kx L0 u v∧Pq q v∧bs q.n q.f=fl (ckl (n+1) B ks))→Calls Tryz.prog 51 #[PT g 0,.slice q.p q.n q.cp,.int .i64 ((n:Int)+1)] v fun e u'=>∃ x,e=.returned (.tuple #[x,.int .i64 r])∧So w0 d A' g j mv base (zP base n) (n:Int) nb B N L0 u'∧Kx L0 u u'∧(r=0→∃ j',x=PT j' 0∧So w0 d A' g j mv base (zP base n) (n:Int) nb B N (j' :: L0) u'∧Mm u' [(j',jc d (zP base (n+1)) 0 0)]∧w0.heap.size≤j'∧j'∉L0):=fun q v hv=>by
  rw[en]
  obtain⟨v1,v2,v3,v4⟩:=hv
  have hqn:q.n≤281474976710656:=by
   have e1:q.n=(fl (ckl (n+1) B ks)).length:=by rw[← v4,bs_len]
   omega
  refine(v1.rep (by omega) ho hs (n+1) hn hnl hns q v3 (hLL q) hqn r A' (by rw[v4];exact hA)).mono ?_
  rintro e u' ⟨x,rfl,e1,e2,e3⟩
  refine⟨x,rfl,e1.sub fun y hy=>List.mem_append_right _ hy,v2.trans (e2.sub fun y hy=>List.mem_append_right _ hy),fun hr => ?_⟩
  obtain⟨j',rfl,f1,f2,f3,f4,f5⟩:=e3 hr
  refine⟨j',rfl,f1.sub fun y hy => ?_,f4,Nat.le_trans v1.da.b.size f5,fun hm => ?_⟩
  ·rcases List.mem_cons.1 hy with e | e
   ·exact List.mem_cons.2 (.inl e)
   ·exact List.mem_cons_of_mem _ (List.mem_append_right _ e)
  ·have:=v1.da.lt (List.mem_append_right (gbl q) hm)
   omega
 have hI:So w0 d A g j mv base (zP base n) (n:Int) nb B N L0 u∧Kx L0 u u:=⟨h,Kx.refl _ _⟩
 have s0:∀ v v',(So w0 d A g j mv base (zP base n) (n:Int) nb B N L0 v∧Kx L0 u v)→Below v.heap.size v v'→(So w0 d A g j mv base (zP base n) (n:Int) nb B N L0 v'∧Kx L0 u v'):=fun v v' hv hb=>⟨(hv.1.below hb).1,hv.2.trans (hv.1.below hb).2⟩
 by_cases hr:r=0
 rotate_left
 ·refine(check_err g j n (by omega) r hr _ _ (fun u'=>So w0 d A' g j mv base (zP base n) (n:Int) nb B N L0 u'∧Kx L0 u u') s0 (fun v hv=>⟨hv.1.2.1,hv.1.c3⟩) h50 (fun q v hv=>(h51 q v hv).mono fun e u' hh=>by
   obtain⟨x,e1,e2,e3,_⟩:=hh
   exact⟨x,e1,e2,e3⟩) u hI).mono fun e u' hh => ?_
  exact⟨hh.1,hh.2.2,fun e=>absurd e hr,fun _=>hh.2.1⟩
 subst hr
 have hk':A'.k<1000000000:=by
  have e:A'.k=(A.rep base (n+1) (fl (ckl (n+1) B ks))).2.k:=by rw[hA]
  have e2:(A.rep base (n+1) (fl (ckl (n+1) B ks))).2.k≤A.k+5:=by
   exact k_rep A base _ _
  omega
 refine(check_ok g j n (by omega) (zP base n) _ _ (fun j' u'=>So w0 d A' g j mv base (zP base n) (n:Int) nb B N (j' :: L0) u'∧Kx L0 u u'∧Mm u' [(j',jc d (zP base (n+1)) 0 0)]∧w0.heap.size≤j'∧j'∉L0)
  (fun j' u'=>So w0 d A' g j' mv base (zP base (n+1)) ((n+1:Nat):Int) nb B N L0 u'∧Kx L0 u u')
  (fun j' u'=>So w0 d (A'.rma (zP base n)).2 g j' mv base (zP base (n+1)) ((n+1:Nat):Int) nb B N L0 u'∧Kx L0 u u')
  s0 (fun j' v v' hv hb=>⟨(hv.1.below hb).1,hv.2.trans (hv.1.below hb).2⟩) (fun v hv=>⟨hv.1.2.1,hv.1.c3⟩)
  (fun j' v hv=>⟨⟨j,hv.1.2.1⟩,hv.1.c3,by obtain⟨O,h1⟩:=hv.1.1;exact⟨h1.fz 2,h1.fz 3⟩⟩) h50
  (fun q v hv=>(h51 q v hv).mono fun e u' hh=>by
   obtain⟨x,e1,e2,e3,e4⟩:=hh
   obtain⟨j',rfl,f1,f2,f3,f4⟩:=e4 rfl
   exact⟨j',e1,f1,e3,f2,f3,f4⟩)
  (fun j' v hv => ?_) (fun j' v hv=>log_any2 g n (by omega) base hs v hv.1.c1)
  (fun j' v hv=>(hv.1.rma hk' _ (nlog_sz hs n)).mono fun e u' hh=>⟨_,hh.1,hh.2.1,hv.2.trans hh.2.2⟩) u hI).mono fun e u' hh => ?_
 ·obtain⟨v1,v2,v3,v4,v5⟩:=hv
  obtain⟨⟨O,s1⟩,s2,s3,s4,s5⟩:=v1
  rw[en]
  obtain⟨t1,t2,t3⟩:=s1.put3 ((n+1:Nat):Int)
  obtain⟨p1,p2⟩:=t1.put2 (PT j' 0)
  have kk:=t2.trans p2
  have hj':j'∈j :: j' :: L0:=by simp
  refine⟨⟨⟨O,p1.sub fun x hx=>List.mem_cons_of_mem _ hx⟩,World.cell?_setCell_same _ _ _ (t3.trans s2),⟨0,0,Nat.zero_le _,Nat.zero_le _,Mm.keep1 v3 kk.1 (kk.2 j' hj')⟩,v4,v5⟩,v2.trans (kk.sub fun x hx=>List.mem_cons_of_mem _ (List.mem_cons_of_mem _ hx))⟩
 ·obtain⟨e1,j',e2,e3⟩:=hh
  exact⟨e1,e3,fun _=>⟨j',e2⟩,fun e=>absurd rfl e⟩
end
end Wi
end Rg
end Go.Proofs.YtmcpagjhpfbpgaaGreatDoor
end
section
namespace Go.Proofs.YtmcpagjhpfbpgaaGreatDoor
open Go.RowKit
namespace Rg
namespace Wi
set_option maxRecDepth 100000
section
variable {w0 u u1 u2 u3 wr:World} {d g mv N n b:Nat} {P:Nat→Pt8} {A A':Ad} {base:ByteArray} {G:Int} {B:ByteArray→Option (List Nat)} {O L LL:List Nat} {ks:List (List UInt8)}
structure Rs2 (w0:World) (d:Nat) (A:Ad) (g mv:Nat) (base:ByteArray) (n:Nat) (B:ByteArray→Option (List Nat)) (ks:List (List UInt8)) (O L LL:List Nat) (b:Nat) (P:Nat→Pt8) (u2:World):Prop where
 sy:Sy w0 d A g mv base 0 (fun _=>none) 0 O LL u2
 c2:u2.cell? ⟨g,2,none⟩=some (.pointer none)
 bl:b∈LL
 ce:∀ i,i<ks.length+1→u2.cell? ⟨b,i,none⟩=some (.slice (P i).p (P i).n (P i).cp)
 pt:∀ i,i<ks.length+1→(Pok (P i)∧(P i).rs u2)∧(0<(P i).n→(P i).gb∈LL)∧(P i).n≤65536∧bs (P i).n (P i).f=(ckl n B ks).getD i []
 sb:∀ x∈L,x∈LL
theorem Rs2.lp (h:Rs2 w0 d A g mv base n B ks O L LL b P u2) (hb:Below u2.heap.size u2 u3):Lp w0 d A g mv base n B ks L LL b P (u3.setCell ⟨g,3,none⟩ (.int .i64 (n:Int))):=by
 obtain⟨s1,s2⟩:=h.sy.below hb
 obtain⟨t1,t2,t3⟩:=s1.put3 (n:Int)
 have kk:=s2.trans t2
 refine⟨⟨⟨O,t1⟩,Kx.refl _ _,t3.trans ((hb.cell (p:=⟨g,2,none⟩) h.sy.gl).trans h.c2)⟩,h.bl,fun i hi=>(World.cell?_of_block (a:=⟨b,i+1,none⟩) (kk.2 b h.bl)).trans (h.ce (i+1) (by omega)),fun i hi => ?_,h.sb⟩
 obtain⟨⟨p1,p2⟩,p3,p4,p5⟩:=h.pt (i+1) (by omega)
 refine⟨⟨p1,Kx.pt kk p2 p3⟩,p3,p4,?_⟩
 rw[p5]
 show (wn 8 n :: ks.map (pbd B)).getD (i+1) []=_
 rw[List.getD_cons_succ,List.getD_eq_getElem?_getD,List.getElem?_map,List.getD_eq_getElem?_getD,List.getElem?_eq_getElem hi]
 rfl
theorem jread_lp (h:Sy w0 d A g mv base 0 (fun _=>none) 0 O L u) (c2:u.cell? ⟨g,2,none⟩=some (.pointer none)) (q:Pt8) (hq:Pq q u) (hb:bs q.n q.f=fl (ckl n B ks)) (hr:∀ r∈ckl n B ks,r.length≤65536) (hn:q.n≤1048576) :
  Calls Tryz.prog 119 #[.slice q.p q.n q.cp] u fun e u2=>∃ (b c:Nat) (P:Nat→Pt8) (LL:List Nat),e=.returned (.tuple #[.slice (some ⟨b,0,none⟩) (ks.length+1) c,.int .i64 ((q.n:Nat):Int),.int .i64 0])∧ks.length+1≤c∧Rs2 w0 d A g mv base n B ks O L LL b P u2∧Below u.heap.size u u2:=by
 have hl:(ckl n B ks).length=ks.length+1:=by simp[ckl]
 refine(jread_l q (ckl n B ks) hr hb hn u hq).mono ?_
 rintro e u2 ⟨v,P,rfl,h2,h3,h4⟩
 rw[hl] at h3 h4
 obtain⟨p,c,rfl,hpc⟩:=own_slice h3.own
 have hvl:∀ x∈vbl (.slice p (ks.length+1) c),u.heap.size≤x∧x<u2.heap.size:=fun x hx=>⟨h3.lo x hx,own_lt h3.own x hx⟩
 have hgl:∀ x∈gbs P (ks.length+1),u.heap.size≤x∧x<u2.heap.size:=fun x hx=>by
  obtain⟨i,h7,h8⟩:=List.mem_flatMap.1 hx
  have hi:=List.mem_range.1 h7
  obtain⟨o1,o2,o3,o4⟩:=h3.ok i hi
  unfold gbl at h8
  by_cases h0:(P i).n=0
  ·rw[if_pos h0] at h8;cases h8
  ·rw[if_neg h0] at h8
   rw[List.mem_singleton.1 h8]
   exact⟨o4 (by omega),o3.lt (by omega)⟩
 have hs1:=h.add h2 (M:=vbl (.slice p (ks.length+1) c)++gbs P (ks.length+1)) (fun x hx=>by
  rcases List.mem_append.1 hx with e | e
  ·exact hvl x e
  ·exact hgl x e)
 obtain⟨b,rfl,hb1⟩:∃ b,p=some ⟨b,0,none⟩∧b∈vbl (.slice p (ks.length+1) c):=by
  rcases h3.own.2 with ⟨_,k2⟩ | ⟨b,cap,cur,k1,_⟩
  ·cases k2
  ·cases k1
   exact⟨b,rfl,by simp[vbl,Value.ownBlock]⟩
 refine⟨b,c,P,_,rfl,hpc,⟨hs1,(h2.cell (p:=⟨g,2,none⟩) h.gl).trans c2,List.mem_append_left _ (List.mem_append_left _ hb1),fun i hi=>by rw[h3.own.cellAt i (by omega),pcs_get P hi],fun i hi => ?_,fun x hx=>List.mem_append_right _ hx⟩,h2⟩
 obtain⟨o1,o2,o3,o4⟩:=h3.ok i hi
 have e1:=h4 i hi
 refine⟨⟨o1,o3⟩,fun h0=>List.mem_append_left _ (List.mem_append_right _ (List.mem_flatMap.2 ⟨i,List.mem_range.2 hi,by unfold gbl;rw[if_neg (by omega)];exact List.mem_singleton.2 rfl⟩)),?_,e1⟩
 have e2:(P i).n=((ckl n B ks).getD i []).length:=by have:=congrArg List.length e1;rwa [bs_len] at this
 have e3:=hr ((ckl n B ks).getD i []) (by rw[List.getD_eq_getElem?_getD,List.getElem?_eq_getElem (by omega:i<(ckl n B ks).length)];exact List.getElem_mem _)
 omega
theorem read_s (h:Sy w0 d A g mv base G B N O L u) (c2:u.cell? ⟨g,2,none⟩=some (.pointer none)) (s:ByteArray) (hs:s.size≤281474976710656) (f:Af) (hl:A.lk s=some f) :
  Calls Tryz.prog 100 #[PT d 0,.string s] u fun e u'=>∃ q:Pt8,e=.returned (.tuple #[.slice q.p q.n q.cp,.int .i64 0])∧Below u.heap.size u u'∧Pq q u'∧bs q.n q.f=f.cn∧Sy w0 d A g mv base G B N O L u'∧u'.cell? ⟨g,2,none⟩=some (.pointer none):=by
 refine(read_a h.da s hs).mono ?_
 rintro e u' ⟨hb,hh⟩
 rw[hl] at hh
 obtain⟨q,rfl,e2,e3,_⟩:=hh
 exact⟨q,rfl,hb,e2,e3,(h.below hb).1,(hb.cell (p:=⟨g,2,none⟩) h.gl).trans c2⟩
theorem Ip.pair {b:Nat} {P:Nat→Pt8} {i:Nat} (h:Ip w0 d A g mv base n B ks LL u1 i wr) (hl:Lp w0 d A g mv base n B ks L LL b P u1) (hi:i<ks.length) (hlen:ks.length≤4096) (hks:Kys B ks) (hkl:∀ k,(B k).isSome=true→0<k.size∧k.size≤128) (hvl:∀ k v,B k=some v→v.length≤8192) (bx:Nat) (hbx:bx∈L) (cb:u1.cell? ⟨bx,0,none⟩=some (PT g 0)) :
  Calls Tryz.prog 121 #[.slice (P (i+1)).p (P (i+1)).n (P (i+1)).cp] wr fun e w2=>∃ p:Pt8,e=.returned (.tuple #[.agg #[.string ⟨(ks.getD i []).toArray⟩,.slice p.p p.n p.cp,.bool false],.bool true])∧Below wr.heap.size wr w2 ∧
   ∀ w3,Below w2.heap.size w2 w3→Calls Tryz.prog 58 #[.slice (some ⟨w3.heap.size,0,none⟩) 1 1,PT bx 0] (w3.alloc (.cells #[.string ⟨(ks.getD i []).toArray⟩,.slice p.p p.n p.cp,.bool false] 65)) fun e w4=>e=.returned (.bool true)∧Ip w0 d A g mv base n B ks LL u1 (i+1) w4∧(∀ x,wr.heap.size≤x→x<w3.heap.size→w4.heap[x]?=w3.heap[x]?):=by
 obtain⟨⟨O,h1⟩,h2,h3⟩:=h
 obtain⟨⟨p1,p2⟩,p3,p4,p5⟩:=hl.pt i hi
 have hm:(B ⟨(ks.getD i []).toArray⟩).isSome=true:=by
  obtain⟨s,e1,e2⟩:=(hks.2.2 (ks.getD i [])).1 (by rw[List.getD_eq_getElem?_getD,List.getElem?_eq_getElem hi];exact List.getElem_mem hi)
  rw[e1]
  exact e2
 obtain⟨k1,k2⟩:=hkl _ hm
 obtain⟨v,hv⟩:=Option.isSome_iff_exists.1 hm
 have hvn:=hvl _ v hv
 have hpb:bs (P (i+1)).n (P (i+1)).f=wf [kb ⟨(ks.getD i []).toArray⟩,v]:=by
  rw[p5]
  unfold pbd
  rw[hv]
  rfl
 refine(rpair_any (P (i+1)) ⟨(ks.getD i []).toArray⟩ v k1 k2 hvn (by omega) hpb wr ⟨p1,Kx.pt h2 p2 p3⟩).mono ?_
 rintro e w2 ⟨p,rfl,e1,e2,e3,e4⟩
 refine⟨p,rfl,e4,fun w3 hw3 => ?_⟩
 have hbw:=e4.trans (hw3.mono e4.size)
 obtain⟨s1,s2⟩:=h1.below hbw
 have hpn:p.n=v.length:=by have:=congrArg List.length e3;rwa [bs_len] at this
 have hbl:=h1.da.lt (List.mem_append_right _ (hl.sb bx hbx))
 refine(s1.one bx (hl.sb bx hbx) ((hbw.cell (p:=⟨bx,0,none⟩) hbl).trans ((World.cell?_of_block (a:=⟨bx,0,none⟩) (h2.2 _ (hl.sb bx hbx))).trans cb)) ⟨(ks.getD i []).toArray⟩ p (e1.below hw3) (fun hx => ?_) k2 (by omega) (by omega)).mono ?_
 ·have hmv:=h1.vb.lt
  unfold gbl at hx
  split at hx
  ·cases hx
  ·obtain rfl:=List.mem_singleton.1 hx
   have:=e2 (by omega)
   omega
 ·rintro e w4 ⟨rfl,⟨O',f1⟩,f2,f3,f4⟩
  have hmv:=h1.vb.lt
  refine⟨rfl,⟨⟨O',?_⟩,(h2.trans s2).trans f2,f3.trans ((hbw.cell (p:=⟨g,2,none⟩) h1.gl).trans h3)⟩,fun x x1 x2=>f4 x x2 (by omega)⟩
  have e5:(ks.take (i+1)).foldl (fun Y k=>cput Y (kch B k)) (fun _=>none)=cput ((ks.take i).foldl (fun Y k=>cput Y (kch B k)) fun _=>none) ⟨⟨(ks.getD i []).toArray⟩,bs p.n p.f,false⟩:=by
   rw[take_snoc ks [] hi,List.foldl_append,e3]
   show cput _ (kch B (ks.getD i []))=_
   unfold kch
   rw[hv]
   rfl
  rw[e5]
  exact f1
end
end Wi
end Rg
end Go.Proofs.YtmcpagjhpfbpgaaGreatDoor
end
section
namespace Go.Proofs.YtmcpagjhpfbpgaaGreatDoor
open Go.RowKit
namespace Rg
namespace Wi
set_option maxRecDepth 100000
theorem wp_qmB {α:Type} {P:Program} {c:Code} {Q:Exit→Act→World→Prop} {a:Act} {w:World} (F:α→World→Prop) (h:∃ A:α→Act,c.wp P (Qm fun a' u'=>∃ x,a'=A x∧F x u') a w∧∀ x u',F x u'→Q .normal (A x) u'):c.wp P Q a w:=by
 obtain⟨A,h1,h2⟩:=h
 exact wp_qmc _ h1 fun a' u' ⟨x,e,hf⟩=>by rw[e];exact h2 x u' hf
theorem leq_no {a b:ByteArray} (h1:Op.bytesLess a.toList b.toList=false) (h2:(a.toList == b.toList)=false) {w:World}:(binOp .leq 9 (.string a) (.string b)).run Tryz.prog w=.ok (.bool false) w:=by
 simp[binOp,Op.stringOp,h1,h2]
theorem kbe_lt {B:ByteArray→Option (List Nat)} {ks:List (List UInt8)} (hks:Kys B ks) (hkl:∀ k,(B k).isSome=true→0<k.size∧k.size≤128) {i:Nat} (hi:i<ks.length):(Op.bytesLess (⟨(ks.getD i []).toArray⟩:ByteArray).toList (kbe ks i).toList || (⟨(ks.getD i []).toArray⟩:ByteArray).toList == (kbe ks i).toList)=false:=by
 refine str_above ?_
 unfold kbe
 by_cases c:i=0
 ·subst c
  rw[if_pos rfl]
  obtain⟨s,e1,e2⟩:=(hks.2.2 (ks.getD 0 [])).1 (by rw[List.getD_eq_getElem?_getD,List.getElem?_eq_getElem hi];exact List.getElem_mem hi)
  have h0:=(hkl s e2).1
  rw[e1]
  show ¬s.data.toList≤[]
  intro h
  have h1:s.data.toList.length=s.size:=by rw[Array.length_toList];rfl
  cases hs:s.data.toList with
  | nil=>rw[hs] at h1;simp at h1;omega
  | cons a r=>rw[hs] at h;exact absurd h (by simp)
 ·rw[if_neg c]
  have:=kys_lt hks (i:=i - 1) (by omega)
  rw[show i - 1+1=i by omega] at this
  exact this
section
variable {w0 u:World} {d g mv n:Nat} {A:Ad} {base:ByteArray} {B:ByteArray→Option (List Nat)} {O L:List Nat} {ks:List (List UInt8)}
theorem rchk_some (h:Sy w0 d A g mv base 0 (fun _=>none) 0 O L u) (c2:u.cell? ⟨g,2,none⟩=some (.pointer none)) (bx:Nat) (hbx:bx∈L) (cb:u.cell? ⟨bx,0,none⟩=some (PT g 0)) (hs:base.size≤40) (f:Af) (hl:A.lk (nsnap base)=some f) (hn:n<1000000) (hks:Kys B ks) (hcn:f.cn=fl (ckl n B ks)) (hkl:∀ k,(B k).isSome=true→0<k.size∧k.size≤128) (hvl:∀ k v,B k=some v→v.length≤8192) (hlen:ks.length≤4096) (hr:∀ r∈ckl n B ks,r.length≤65536) (hsz:(fl (ckl n B ks)).length≤1048576) :
  Calls Tryz.prog 59 #[PT g 0,.func (.func 58) #[] #[.pointer (some ⟨bx,0,none⟩)]] u fun e u'=>e=.returned (.int .i64 0)∧u'.cell? ⟨bx,0,none⟩=some (PT g 0)∧u'.cell? ⟨g,2,none⟩=some (.pointer none)∧(∃ O',Sy w0 d A g mv base (n:Int) B ks.length O' L u')∧Kx L u u':=by
 have HRD:Hid (∀ v,Below u.heap.size u v→Calls Tryz.prog 100 #[PT d 0,.string (nsnap base)] v fun e v'=>∃ q:Pt8,e=.returned (.tuple #[.slice q.p q.n q.cp,.int .i64 0])∧Below v.heap.size v v'∧Pq q v'∧bs q.n q.f=f.cn∧Sy w0 d A g mv base 0 (fun _=>none) 0 O L v'∧v'.cell? ⟨g,2,none⟩=some (.pointer none)):=fun v hv=>read_s (h.below hv).1 ((hv.cell (p:=⟨g,2,none⟩) h.gl).trans c2) (nsnap base) (nsnap_sz hs) f hl
 have HH:Hid _:=h
 have HCB:Hid _:=cb
 have HBX:Hid _:=hbx
 have HKS:Hid _:=hks
 have HCN:Hid _:=hcn
 have HKL:Hid _:=hkl
 have HVL:Hid _:=hvl
 have HR:Hid _:=hr
 have HSZ:Hid _:=hsz
 have c0:=h.c0
 have c1:=h.c1
 have c1d:u.drew.cell? ⟨g,1,none⟩=some (.string base):=c1
 have HB:Hid (Below u.heap.size u u.drew):=(Below.refl _ u).drew
 have HG:Hid (g<u.heap.size):=h.gl
 have HBL:Hid (bx<u.heap.size):=h.da.lt (List.mem_append_right _ hbx)
 clear h c2 hbx cb hl hks hcn hkl hvl hr hsz
 go_enter Tryz.func59,Tryz.ntmps59
 go_wp2
 refine wp_qmB (α:=Pt8) (fun q u'=>Below u.heap.size u u'∧Pq q u'∧bs q.n q.f=f.cn∧Sy w0 d A g mv base 0 (fun _=>none) 0 O L u'∧u'.cell? ⟨g,2,none⟩=some (.pointer none)) ?_
 apply Exists.intro
 apply And.intro
 ·go_region_with (first
   | (go_at_call 113;refine(snap_any g base hs u.drew c1d).mono ?_;rintro e w1 ⟨rfl,hw⟩;subst hw)
   | (go_at_call 100;refine Calls.mono (HRD.out u.drew HB.out) ?_;rintro e w2 ⟨q,rfl,r1,r2,r3,r4,r5⟩;have HQ:Hid (Below u.heap.size u w2∧Pq q w2∧bs q.n q.f=f.cn∧Sy w0 d A g mv base 0 (fun _=>none) 0 O L w2∧w2.cell? ⟨g,2,none⟩=some (.pointer none)):=⟨HB.out.trans r1,r2,r3,r4,r5⟩;clear r1 r2 r3 r4 r5)
   | fail)
  all_goals (
   simp only[Qm]
   first | exact⟨q,rfl,HQ.out⟩ | exact⟨q,trivial,HQ.out⟩)
 intro q w2 hw2
 have hqn:q.n≤1048576:=by
  have e1:q.n=(fl (ckl n B ks)).length:=by rw[← HCN.out,← hw2.2.2.1,bs_len]
  have:=HSZ.out
  omega
 have HJ:Hid _:=jread_lp hw2.2.2.2.1 hw2.2.2.2.2 q hw2.2.1 (hw2.2.2.1.trans HCN.out) HR.out hqn
 have HB2:Hid (Below u.heap.size u w2):=hw2.1
 clear hw2
 go_wp2_with (first
  | (go_at_call 119;refine Calls.mono HJ.out ?_;rintro e w3 ⟨b,c,P,LL,rfl,hcap,hrs,hb3⟩;have HRS:Hid _:=hrs;have HB3:Hid _:=hb3;have ce0:=hrs.ce 0 (by omega);have hle:¬((ks.length:Int)+1=0):=(by omega);have hbl:b<w3.heap.size:=hrs.sy.da.lt (List.mem_append_right _ hrs.bl);clear hrs hb3)
  | (go_at_call 120;refine Calls.mono (ReadInt_q (P 0) n (by omega) (HRS.out.pt 0 (by omega)).2.2.2 w3 (HRS.out.pt 0 (by omega)).1) ?_;rintro e w4 ⟨rfl,hb4⟩;have HLP:Hid _:=HRS.out.lp hb4;have c34:w4.cell? ⟨g,3,none⟩=some (.int .i64 0):=(HRS.out.sy.below hb4).1.c3;have f34:w4.frozen? ⟨g,3,none⟩=false:=(HRS.out.sy.below hb4).1.fz 3;have CB4:Hid (w4.cell? ⟨bx,0,none⟩=some (PT g 0)):=(((HB2.out.trans (HB3.out.mono HB2.out.size)).trans (hb4.mono (HB2.out.trans (HB3.out.mono HB2.out.size)).size)).cell (p:=⟨bx,0,none⟩) HBL.out).trans HCB.out;have HKL4:Hid (Kx L u (w4.setCell ⟨g,3,none⟩ (.int .i64 (n:Int)))):=((HH.out.da.kx ((HB2.out.trans (HB3.out.mono HB2.out.size)).trans (hb4.mono (HB2.out.trans (HB3.out.mono HB2.out.size)).size))).sub (fun x hx=>List.mem_append_right _ hx)).trans (((HRS.out.sy.below hb4).1.put3 (n:Int)).2.1.sub HRS.out.sb);clear hb4)
  | fail)
 case inl =>
  have HU1:Hid (∃ u1,w4.setCell ⟨g,3,none⟩ (.int .i64 (n:Int))=u1∧Lp w0 d A g mv base n B ks L LL b P u1∧u1.cell? ⟨bx,0,none⟩=some (PT g 0)∧Kx L u u1):=⟨_,rfl,HLP.out,(World.cell?_setCell_other _ _ _ _ (by intro e;cases e)).trans CB4.out,HKL4.out⟩
  clear HLP CB4 HKL4
  obtain⟨u1,hu1,hlp,hcb,hkl1⟩:=HU1.out
  have HLP:Hid _:=hlp
  have HCB1:Hid _:=hcb
  have HKL1:Hid _:=hkl1
  clear hlp hcb hkl1 HU1 c34 f34 ce0 hle
  rw[hu1]
  clear hu1
  go_loopw [9,63] (fun sv v wr=>∃ i:Nat,sv=.string (kbe ks i)∧v=.int .i64 (i:Int)∧i≤ks.length∧Hid (Ip w0 d A g mv base n B ks LL u1 i wr))
   (fun _ v _=>ks.length - (RowKit.intOf v).toNat)
  case atStart=>exact⟨0,rfl,rfl,Nat.zero_le _,HLP.out.ip⟩
  case round =>
   obtain⟨i,rfl,rfl,hi,hI⟩:=hrel
   by_cases hlt:i<ks.length
   ·exfalso;omega
   ·have E:Hid (i=ks.length):=(by omega:i=ks.length)
    have hz:¬((i:Int)<(ks.length:Int)):=by omega
    clear hlt hi
    go_wp2
    go_ret
    obtain⟨⟨O',r1⟩,r2,r3⟩:=hI.out
    rw[E.out,List.take_length,kys_all HKS.out] at r1
    exact⟨rfl,(World.cell?_of_block (a:=⟨bx,0,none⟩) (r2.2 _ (HLP.out.sb bx HBX.out))).trans HCB1.out,r3,⟨O',r1.sub HLP.out.sb⟩,Kx.trans HKL1.out (Kx.sub r2 HLP.out.sb)⟩
 case inr =>
  have HU1:Hid (∃ u1,w4.setCell ⟨g,3,none⟩ (.int .i64 (n:Int))=u1∧Lp w0 d A g mv base n B ks L LL b P u1∧u1.cell? ⟨bx,0,none⟩=some (PT g 0)∧Kx L u u1):=⟨_,rfl,HLP.out,(World.cell?_setCell_other _ _ _ _ (by intro e;cases e)).trans CB4.out,HKL4.out⟩
  clear HLP CB4 HKL4
  obtain⟨u1,hu1,hlp,hcb,hkl1⟩:=HU1.out
  have HLP:Hid _:=hlp
  have HCB1:Hid _:=hcb
  have HKL1:Hid _:=hkl1
  clear hlp hcb hkl1 HU1 c34 f34 ce0 hle
  rw[hu1]
  clear hu1
  go_loopw [9,63] (fun sv v wr=>∃ i:Nat,sv=.string (kbe ks i)∧v=.int .i64 (i:Int)∧i≤ks.length∧Hid (Ip w0 d A g mv base n B ks LL u1 i wr))
   (fun _ v _=>ks.length - (RowKit.intOf v).toNat)
  case atStart=>exact⟨0,rfl,rfl,Nat.zero_le _,HLP.out.ip⟩
  case round =>
   obtain⟨i,rfl,rfl,hi,hI⟩:=hrel
   by_cases hlt:i<ks.length
   ·have ci:wr.cell? ⟨b,1+i,none⟩=some (.slice (P (i+1)).p (P (i+1)).n (P (i+1)).cp):=by
     rw[Nat.add_comm 1 i]
     exact(World.cell?_of_block (a:=⟨b,i+1,none⟩) (hI.out.2.1.2 b HLP.out.bl)).trans (HLP.out.ce i hlt)
    have hP:=Ip.pair hI.out HLP.out hlt hlen HKS.out HKL.out HVL.out bx HBX.out HCB1.out
    have hcmp:=kbe_lt HKS.out HKL.out hlt
    obtain⟨kk,hkk⟩:∃ kk:ByteArray,(⟨(ks.getD i []).toArray⟩:ByteArray)=kk:=⟨_,rfl⟩
    rw[hkk] at hcmp hP
    obtain⟨hc1,hc2⟩:=Bool.or_eq_false_iff.1 hcmp
    clear hcmp
    have HKK:Hid _:=hkk
    have HP:Hid _:=hP
    clear hP hkk
    go_wp2_with (first
     | (go_at_call 121;refine Calls.mono HP.out ?_;rintro e w5 ⟨p,rfl,hb5,h58⟩;have h58a:=h58 (w5.alloc (.cells #[.string kk,.slice p.p p.n p.cp,.bool false] 65)) (be1 w5 _);rw[World.size_alloc] at h58a;have H58:Hid _:=h58a;have HB5:Hid _:=hb5;clear h58 h58a hb5)
     | fail)
    rw[leq_no hc1 hc2,Result.andThen_ok]
    go_wp2_with (first
     | (go_at_call 58;refine Calls.mono H58.out ?_;rintro e w6 ⟨rfl,hI6,hk6⟩;have HI6:Hid _:=hI6;have c6:w6.cell? ⟨w5.heap.size,0,none⟩=some (.string kk):=(World.cell?_of_block (a:=⟨w5.heap.size,0,none⟩) (hk6 w5.heap.size HB5.out.size (Nat.lt_succ_self _))).trans (al_new w5 _ 65 0 _ rfl);clear hI6 hk6)
     | fail)
    go_roundw
    case rel=>exact⟨i+1,by rw[← HKK.out];rfl,by simp,by omega,HI6.out⟩
    case measure=>simp[RowKit.intOf];omega
   ·have E:Hid (i=ks.length):=(by omega:i=ks.length)
    have hz:¬((i:Int)<(ks.length:Int)):=by omega
    clear hlt hi
    go_wp2
    go_ret
    obtain⟨⟨O',r1⟩,r2,r3⟩:=hI.out
    rw[E.out,List.take_length,kys_all HKS.out] at r1
    exact⟨rfl,(World.cell?_of_block (a:=⟨bx,0,none⟩) (r2.2 _ (HLP.out.sb bx HBX.out))).trans HCB1.out,r3,⟨O',r1.sub HLP.out.sb⟩,Kx.trans HKL1.out (Kx.sub r2 HLP.out.sb)⟩
end
end Wi
end Rg
end Go.Proofs.YtmcpagjhpfbpgaaGreatDoor
end
section
namespace Go.Proofs.YtmcpagjhpfbpgaaGreatDoor
open Go.RowKit
namespace Rg
namespace Wi
set_option maxRecDepth 100000
section
variable {w0 u u1 wr:World} {d g mv N:Nat} {A A':Ad} {base:ByteArray} {G:Int} {B:ByteArray→Option (List Nat)} {O L LL:List Nat} {rs:List (List Ch)}
theorem rlog_t (h:Sy w0 d A g mv base G B N O L u) (bx:Nat) (hbx:bx∈L) (s:ByteArray) 
  (hlog:∀ v,v.cell? ⟨g,1,none⟩=some (.string base)→Calls Tryz.prog 53 #[PT g 0,.int .i64 G] v fun e v'=>e=.returned (.string s)∧Below v.heap.size v v')
  (hr:∀ l∈rs,l.length≤64∧∀ c∈l,c.ok) (hjz:∀ v,Below u.heap.size u v→Calls Tryz.prog 111 #[PT d 0,.string s] v fun e u1=>∃ (j b c:Nat) (p:Option Addr) (P:Nat→Pt8) (LL:List Nat),e=.returned (.tuple #[PT j 0,.slice p rs.length c,.int .i64 0])∧Lo w0 d A' g mv base G B N s rs L LL j b p P u1∧u1.cell? ⟨bx,0,none⟩=some (PT g 0)∧Kx L u u1)
  (hNN:N+64*rs.length≤4096) :
  Calls Tryz.prog 60 #[PT g 0,.func (.func 58) #[] #[.pointer (some ⟨bx,0,none⟩)]] u fun e u'=>e=.returned (.int .i64 0)∧u'.cell? ⟨bx,0,none⟩=some (PT g 0)∧(∃ j,So w0 d A' g j mv base s G 1048576 (rs.foldl cdo B) (N+64*rs.length) L u')∧Kx L u u':=by
 have HJ:Hid _:=hjz
 have HLG:Hid _:=hlog
 have c0:=h.c0
 have c1:=h.c1
 have c3:=h.c3
 have c0d:u.drew.cell? ⟨g,0,none⟩=some (PT d 0):=c0
 have c1d:u.drew.cell? ⟨g,1,none⟩=some (.string base):=c1
 have HB:Hid (Below u.heap.size u u.drew):=(Below.refl _ u).drew
 have HG:Hid (g<u.heap.size):=h.gl
 have hrl:rs.length≤64:=by omega
 have HR:Hid _:=hr
 have HN:Hid _:=hNN
 have HX:Hid _:=hbx
 clear h hlog hr hNN hbx hjz
 go_enter Tryz.func60,Tryz.ntmps60
 go_wp2
 go_region_with (first
  | (go_at_call 53;refine Calls.mono (HLG.out u.drew c1d) ?_;rintro e w1 ⟨rfl,hb1⟩;have c01:=(hb1.cell (p:=⟨g,0,none⟩) HG.out).trans c0d;have HB1:Hid (Below u.heap.size u w1):=HB.out.trans hb1)
  | (go_at_call 111;refine Calls.mono (HJ.out w1 HB1.out) ?_;rintro e u1 ⟨j,b,c,p,P,LL,rfl,hl,hcb,hkl⟩;have HLo:Hid _:=hl;have HCB:Hid _:=hcb;have HKL:Hid _:=hkl;clear hl hcb hkl)
  | fail)
 all_goals go_wp2
 all_goals (
  go_loopw [32] (fun v wr=>∃ i:Nat,v=.int .i64 (i:Int)∧i≤rs.length∧Hid (Il w0 d A' g mv base G B N rs LL u1 i wr))
   (fun v _=>rs.length - (RowKit.intOf v).toNat)
  case atStart=>exact⟨0,rfl,Nat.zero_le _,HLo.out.il⟩
  case round =>
   obtain⟨i,rfl,hi,hI⟩:=hrel
   by_cases hlt:i<rs.length
   ·obtain⟨hp,hbl⟩:=HLo.out.hp (by omega)
    have hci:wr.cell? ⟨b,i,none⟩=some (.slice (P i).p (P i).n (P i).cp):=by
     obtain⟨O2,s1,s2,s3⟩:=hI.out
     exact(World.cell?_of_block (a:=⟨b,i,none⟩) (s2.2 b hbl)).trans (HLo.out.ce i hlt)
    have HB2:Hid _:=Il.batch hI.out hlt bx (HLo.out.sb bx HX.out) HCB.out (fun l hl=>HR.out l hl) HN.out (P i) (HLo.out.pt i hlt).1 (HLo.out.pt i hlt).2.1 (HLo.out.pt i hlt).2.2.1 (HLo.out.pt i hlt).2.2.2
    clear hbl
    rw[hp]
    clear hp
    go_wp2_with (first
     | (go_at_call 122;refine Calls.mono HB2.out ?_;rintro e w2 ⟨p2,m2,c2,rfl,h58⟩;have H58:Hid _:=h58;clear h58)
     | (go_at_call 58;refine Calls.mono H58.out ?_;rintro e w3 ⟨rfl,hI3⟩;have HI3:Hid _:=hI3;clear hI3)
     | fail)
    go_roundw
    case rel=>exact⟨i+1,by simp,by omega,HI3.out⟩
    case measure=>simp[RowKit.intOf];omega
   ·obtain⟨O2,s1,s2,s3⟩:=hI.out
    have hf:=s1.fz 2
    have hz:¬((i:Int)<(rs.length:Int)):=by omega
    have S1:Hid _:=s1
    have S2:Hid (Kx LL u1 wr):=s2
    have HI:Hid (i=rs.length):=(by omega:i=rs.length)
    clear s1 s2 hI hi hlt
    go_wp2
    go_ret
    have hl:=HLo.out
    have s1':=S1.out
    rw[HI.out,List.take_length] at s1'
    obtain⟨t1,t2⟩:=s1'.put2 (PT j 0)
    have k2:=Kx.trans S2.out t2
    obtain⟨z,z1,z2⟩:=hl.mj
    exact⟨rfl,(World.cell?_of_block (a:=⟨bx,0,none⟩) (k2.2 _ (hl.sb bx HX.out))).trans HCB.out,⟨j,⟨O2,t1.sub fun x hx=>by
     rcases List.mem_cons.1 hx with e | e
     ·rw[e];exact hl.jl
     ·exact hl.sb x e⟩,World.cell?_setCell_same _ _ _ s3,⟨_,z,by have:=HN.out;omega,z1,Mm.keep1 z2 k2.1 (k2.2 j hl.jl)⟩,hl.lo.1,hl.lo.2⟩,Kx.trans HKL.out (Kx.sub k2 hl.sb)⟩)
theorem rlog_e (r:Int) (hr:¬r=0) (I1:World→Prop) (h:Sy w0 d A g mv base G B N O L u) (fv:Value) (s:ByteArray)
  (hlog:∀ v,v.cell? ⟨g,1,none⟩=some (.string base)→Calls Tryz.prog 53 #[PT g 0,.int .i64 G] v fun e v'=>e=.returned (.string s)∧Below v.heap.size v v')
  (hjz:∀ v,Below u.heap.size u v→Calls Tryz.prog 111 #[PT d 0,.string s] v fun e u1=>e=.returned (.tuple #[.pointer none,.slice none 0 0,.int .i64 r])∧I1 u1) :
  Calls Tryz.prog 60 #[PT g 0,fv] u fun e u'=>e=.returned (.int .i64 r)∧I1 u':=by
 have HJ:Hid _:=hjz
 have HLG:Hid _:=hlog
 have c0:=h.c0
 have c1:=h.c1
 have c3:=h.c3
 have c0d:u.drew.cell? ⟨g,0,none⟩=some (PT d 0):=c0
 have c1d:u.drew.cell? ⟨g,1,none⟩=some (.string base):=c1
 have HB:Hid (Below u.heap.size u u.drew):=(Below.refl _ u).drew
 have HG:Hid (g<u.heap.size):=h.gl
 clear h hlog hjz
 go_enter Tryz.func60,Tryz.ntmps60
 go_wp2
 go_region_with (first
  | (go_at_call 53;refine Calls.mono (HLG.out u.drew c1d) ?_;rintro e w1 ⟨rfl,hb1⟩;have c01:=(hb1.cell (p:=⟨g,0,none⟩) HG.out).trans c0d;have HB1:Hid (Below u.heap.size u w1):=HB.out.trans hb1)
  | (go_at_call 111;refine Calls.mono (HJ.out w1 HB1.out) ?_;rintro e u1 ⟨rfl,hl⟩;have HI:Hid _:=hl;clear hl)
  | fail)
 all_goals go_wp2
 all_goals (
  go_ret
  exact⟨rfl,HI.out⟩)
theorem jopen_lt (h:Sy w0 d A g mv base G B N O L u) (c2:u.cell? ⟨g,2,none⟩=some (.pointer none)) (hk:A.k<999999990) (ho:∀ f∈A.fs,f.ops.length<1000000) (s:ByteArray) (hs:s.size≤281474976710656) (hn:nmd s=true) (hr:∀ l∈rs,(rc l).length≤65536) (t:List Nat) (hct:A.ct s=fl (rs.map rc)++t) (ht:Torn t) (hN:(fl (rs.map rc)++t).length≤1048576) (hA:A.jop s (fl (rs.map rc)).length t.length=(0,A')) :
  Calls Tryz.prog 111 #[PT d 0,.string s] u fun e u1=>∃ (j b c:Nat) (p:Option Addr) (P:Nat→Pt8) (LL:List Nat),e=.returned (.tuple #[PT j 0,.slice p rs.length c,.int .i64 0])∧Lo w0 d A' g mv base G B N s rs L LL j b p P u1∧Kx L u u1:=by
 refine(jopen_t h.da hk ho s hs hn (rs.map rc) (fun r hr'=>by obtain⟨l,h1,rfl⟩:=List.mem_map.1 hr';exact hr l h1) t hct ht hN 0 A' hA).mono ?_
 rintro e u1 ⟨_,hh⟩
 obtain⟨j,v,P,BB,rfl,h1,h3,h4,h5,h6,h7,h8⟩:=hh rfl
 rw[List.length_map] at h1 h3 h6 h7
 obtain⟨p,c,rfl,hpc⟩:=own_slice h3.own
 have hL:∀ x∈L,x<u.heap.size:=fun x hx=>h.da.lt (List.mem_append_right _ hx)
 have hO:∀ x∈O,x<u.heap.size:=fun x hx=>h.da.lt (List.mem_append_left _ hx)
 have hnew:∀ x∈vbl (.slice p rs.length c)++gbs P rs.length,BB≤x:=fun x hx=>(h3.new x (List.mem_append.1 hx)).1
 have s1:Sy w0 d A' g mv base G B N O ((j :: (vbl (.slice p rs.length c)++gbs P rs.length))++L) u1:=by
  have hg:∀ k,u1.cell? ⟨g,k,none⟩=u.cell? ⟨g,k,none⟩:=fun k=>World.cell?_of_block (h8.2 g (List.mem_append_left _ h.og))
  refine⟨h7.sub fun x hx => ?_,(hg 0).trans h.c0,(hg 1).trans h.c1,(hg 3).trans h.c3,(hg 4).trans h.c4,fun k=>(World.frozen?_of_block (h8.2 g (List.mem_append_left _ h.og))).trans (h.fz k),h.vb.keep (h8.2 mv (List.mem_append_left _ h.om)) fun b hb=>h8.2 b (List.mem_append_left _ hb),h.lo,h.og,h.om,h.gm,fun x hx hm => ?_⟩
  ·simp only[List.mem_append,List.mem_cons] at hx ⊢
   rcases hx with e | (e | e | e) | e
   ·exact .inr (.inr (.inl e))
   ·exact .inl e
   ·exact .inr (.inl (.inl e))
   ·exact .inr (.inl (.inr e))
   ·exact .inr (.inr (.inr e))
  ·have:=hO x hx
   rcases List.mem_append.1 hm with e | e
   ·rcases List.mem_cons.1 e with e | e
    ·omega
    ·have:=hnew x e
     omega
   ·exact h.ap x hx e
 obtain⟨b,hb1,hb2⟩:∃ b,(0<rs.length→p=some ⟨b,0,none⟩∧b∈vbl (.slice p rs.length c))∧∀ i,i<rs.length→u1.cell? ⟨b,i,none⟩=some (.slice (P i).p (P i).n (P i).cp):=by
  rcases h3.own.2 with ⟨k1,k2⟩ | ⟨b,cap,cur,k1,_⟩
  ·exact⟨0,fun h0=>by omega,fun i hi=>by omega⟩
  ·cases k1
   exact⟨b,fun _=>⟨rfl,by simp[vbl,Value.ownBlock]⟩,fun i hi=>by rw[h3.own.cellAt i (by omega),pcs_get P hi]⟩
 have hNf:(fl (rs.map rc)).length≤1048576:=by rw[List.length_append] at hN;omega
 refine⟨j,b,c,p,P,_,rfl,⟨⟨O,by simpa using s1,Kx.refl _ _,(World.cell?_of_block (a:=⟨g,2,none⟩) (h8.2 g (List.mem_append_left _ h.og))).trans c2⟩,fun h0=>⟨(hb1 h0).1,List.mem_append_left _ (List.mem_cons_of_mem _ (List.mem_append_left _ (hb1 h0).2))⟩,hb2,fun i hi => ?_,⟨_,hNf,h1⟩,List.mem_append_left _ (List.mem_cons_self ..),fun x hx=>List.mem_append_right _ hx,Nat.le_trans h.da.b.size h4,fun hj=>by have:=hL j hj;omega⟩,h8.sub fun x hx=>List.mem_append_right _ hx⟩
 obtain⟨o1,o2,o3,o4⟩:=h3.ok i hi
 have e1:bs (P i).n (P i).f=rc (rs.getD i []):=by
  rw[h6 i hi,List.getD_eq_getElem?_getD,List.getD_eq_getElem?_getD,List.getElem?_map,List.getElem?_eq_getElem hi]
  rfl
 refine⟨⟨o1,o3⟩,fun h0=>List.mem_append_left _ (List.mem_cons_of_mem _ (List.mem_append_right _ (gbs_mem hi h0))),?_,e1⟩
 have e2:(P i).n=(rc (rs.getD i [])).length:=by have:=congrArg List.length e1;rwa [bs_len] at this
 have e3:=hr (rs.getD i []) (by rw[List.getD_eq_getElem?_getD,List.getElem?_eq_getElem hi];exact List.getElem_mem hi)
 omega
end
end Wi
end Rg
end Go.Proofs.YtmcpagjhpfbpgaaGreatDoor
end
section
namespace Go.Proofs.YtmcpagjhpfbpgaaGreatDoor
open Go.RowKit
namespace Rg
namespace Wi
set_option maxRecDepth 100000
section
variable {w0 u:World} {d g mv n:Nat} {A A':Ad} {base:ByteArray} {B:ByteArray→Option (List Nat)} {O L:List Nat} {rs:List (List Ch)}
structure Bok (n:Nat) (B:ByteArray→Option (List Nat)) (Nb:Nat):Prop where
 kl:∀ k,(B k).isSome=true→0<k.size∧k.size≤128
 vl:∀ k v,B k=some v→v.length≤8192
 nb:Nb≤4096
 ks:∀ ks,Kys B ks→ks.length≤Nb∧(∀ r∈ckl n B ks,r.length≤65536)∧(fl (ckl n B ks)).length≤1048576
theorem rchk_any (h:Sy w0 d A g mv base 0 (fun _=>none) 0 O L u) (c2:u.cell? ⟨g,2,none⟩=some (.pointer none)) (bx:Nat) (hbx:bx∈L) (cb:u.cell? ⟨bx,0,none⟩=some (PT g 0)) (hs:base.size≤40) (hn:n<32) (hck:Ck A base n B) (Nb:Nat) (hB:Bok n B Nb) :
  Calls Tryz.prog 59 #[PT g 0,.func (.func 58) #[] #[.pointer (some ⟨bx,0,none⟩)]] u fun e u'=>e=.returned (.int .i64 0)∧u'.cell? ⟨bx,0,none⟩=some (PT g 0)∧u'.cell? ⟨g,2,none⟩=some (.pointer none)∧(∃ O',Sy w0 d A g mv base (n:Int) B Nb O' L u')∧Kx L u u':=by
 unfold Ck at hck
 by_cases c:n=0
 ·subst c
  rw[if_pos rfl] at hck
  obtain⟨h1,rfl⟩:=hck
  refine(rchk_none base hs _ h.da h.c0 h.c1 h1).mono ?_
  rintro e u' ⟨rfl,hb⟩
  exact⟨rfl,(hb.cell (p:=⟨bx,0,none⟩) (h.da.lt (List.mem_append_right _ hbx))).trans cb,(hb.cell (p:=⟨g,2,none⟩) h.gl).trans c2,⟨O,(h.below hb).1.mono (Nat.zero_le _)⟩,(h.below hb).2⟩
 ·rw[if_neg c] at hck
  obtain⟨f,ks,f1,f2,f3,f4,f5⟩:=hck
  obtain⟨k1,k2,k3⟩:=hB.ks ks f4
  have hcn:f.cn=fl (ckl n B ks):=by
   unfold Af.cn
   rw[f2,f5]
   rfl
  refine(rchk_some h c2 bx hbx cb hs f f1 (by omega) f4 hcn hB.kl hB.vl (Nat.le_trans k1 hB.nb) k2 k3).mono ?_
  rintro e u' ⟨rfl,e1,e2,⟨O',e3⟩,e4⟩
  exact⟨rfl,e1,e2,⟨O',e3.mono k1⟩,e4⟩
theorem sopen_t (h:Da w0 d A L u) (hk:A.k<999999990) (ho:∀ f∈A.fs,f.ops.length<1000000) (base:ByteArray) (hs:base.size≤40) (hb:nmd base=true) (n:Nat) (hn:n<32) (hnl:nmd (zP base n)=true) (B:ByteArray→Option (List Nat)) (hck:Ck A base n B) (Nb:Nat) (hB:Bok n B Nb) (rs:List (List Ch)) (hr:∀ l∈rs,l.length≤64∧(∀ c∈l,c.ok)∧(rc l).length≤65536) (t:List Nat) (hct:A.ct (zP base n)=fl (rs.map rc)++t) (ht:Torn t) (hN:(fl (rs.map rc)++t).length≤1048576) (hNN:Nb+64*rs.length≤4096) (r:Int) (A':Ad) (hA:A.jop (zP base n) (fl (rs.map rc)).length t.length=(r,A')) :
  Calls Tryz.prog 19 #[PT d 0,.string base] u fun e u'=>(r≠0→e=.returned (.tuple #[.pointer none,.int .i64 r])∧Da w0 d A' L u'∧Kx L u u')∧(r=0→∃ g j mv,e=.returned (.tuple #[PT g 0,.int .i64 0])∧So w0 d A' g j mv base (zP base n) (n:Int) 1048576 (rs.foldl cdo B) (Nb+64*rs.length) L u'∧Kx L u u'):=by
 have hL:∀ x∈L,x<u.heap.size:=fun x hx=>h.lt hx
 have hck1:∀ v,Below u.heap.size u v→Calls Tryz.prog 59 #[PT (v.heap.size+1) 0,sdo v.heap.size] (opw v d base) fun e u'=>e=.returned (.int .i64 0)∧u'.cell? ⟨v.heap.size+1+1,0,none⟩=some (PT (v.heap.size+1) 0)∧((∃ O,Sy w0 d A (v.heap.size+1) v.heap.size base (n:Int) B Nb O ((v.heap.size+1+1) :: L) u'∧u'.cell? ⟨v.heap.size+1,2,none⟩=some (.pointer none))∧u'.cell? ⟨v.heap.size+1+1,0,none⟩=some (PT (v.heap.size+1) 0)∧Kx L u u'):=fun v hv=>by
  have hd:=h.step hv
  obtain⟨s1,s2,s3⟩:=sy_opw hd (fun x hx=>hd.lt hx) base
  refine(rchk_any s1 s2 (v.heap.size+1+1) (List.mem_cons_self ..) s3 hs hn hck Nb hB).mono ?_
  rintro e v' ⟨rfl,e1,e2,⟨O',e3⟩,e4⟩
  have hbo:Below v.heap.size v (opw v d base):=((((Below.refl _ v).alloc (Nat.le_refl _) _).alloc (by simp) _).alloc (by simp;omega) _)
  exact⟨rfl,e1,⟨O',e3,e2⟩,e1,((h.kx hv).trans (hd.kx hbo)).trans (e4.sub fun x hx=>List.mem_cons_of_mem _ hx)⟩
 have hnm:∀ v,Below u.heap.size u v→Calls Tryz.prog 56 #[.string base] v fun e w'=>e=.returned (.bool true)∧Below v.heap.size v w':=fun v _=>by have:=snamed_ok base hs v;rwa [hb] at this
 by_cases hr0:r=0
 ·subst hr0
  refine(sopen_ok d base hs (fun m u'=>(∃ O,Sy w0 d A (m+1) m base (n:Int) B Nb O ((m+1+1) :: L) u'∧u'.cell? ⟨m+1,2,none⟩=some (.pointer none))∧u'.cell? ⟨m+1+1,0,none⟩=some (PT (m+1) 0)∧Kx L u u') (fun m u'=>(∃ j,So w0 d A' (m+1) j m base (zP base n) (n:Int) 1048576 (rs.foldl cdo B) (Nb+64*rs.length) L u')∧Kx L u u') u (working_any h) hnm hck1 (fun m v hi => ?_)).mono ?_
  ·obtain⟨⟨O,s1,s2⟩,s3,s4⟩:=hi
   refine(rlog_t (A':=A') s1 (m+1+1) (List.mem_cons_self ..) (zP base n) (fun v hv=>log_any2 (m+1) n hn base hs v hv) (fun l hl=>⟨(hr l hl).1,(hr l hl).2.1⟩) (fun v hv => ?_) hNN).mono ?_
   ·have t1:=(s1.below hv).1
    refine(jopen_lt t1 ((hv.cell (p:=⟨m+1,2,none⟩) s1.gl).trans s2) hk ho _ (nlog_sz hs n) hnl (fun l hl=>(hr l hl).2.2) t hct ht hN hA).mono ?_
    rintro e u1 ⟨j,b,c,p,P,LL,rfl,h1,h2⟩
    have hm:=s1.da.lt (List.mem_append_right _ (List.mem_cons_self ..))
    exact⟨j,b,c,p,P,LL,rfl,h1,(World.cell?_of_block (a:=⟨m+1+1,0,none⟩) (h2.2 _ (List.mem_cons_self ..))).trans ((hv.cell (p:=⟨m+1+1,0,none⟩) hm).trans s3),(s1.below hv).2.trans h2⟩
   ·rintro e v' ⟨rfl,e2,⟨j,t1,t2,t3,t4,t5⟩,e3⟩
    refine⟨rfl,e2,⟨j,?_,t2,t3,t4,fun hm=>t5 (List.mem_cons_of_mem _ hm)⟩,s4.trans (e3.sub fun x hx=>List.mem_cons_of_mem _ hx)⟩
    obtain⟨O',t1⟩:=t1
    refine⟨O',t1.sub fun x hx => ?_⟩
    rcases List.mem_cons.1 hx with e | e
    ·exact List.mem_cons.2 (.inl e)
    ·exact List.mem_cons_of_mem _ (List.mem_cons_of_mem _ e)
  ·rintro e v' ⟨m,rfl,⟨j,hh⟩,hkx⟩
   exact⟨fun e=>absurd rfl e,fun _=>⟨m+1,j,m,rfl,hh,hkx⟩⟩
 ·refine(sopen_log r hr0 d base hs (fun m u'=>(∃ O,Sy w0 d A (m+1) m base (n:Int) B Nb O ((m+1+1) :: L) u'∧u'.cell? ⟨m+1,2,none⟩=some (.pointer none))∧u'.cell? ⟨m+1+1,0,none⟩=some (PT (m+1) 0)∧Kx L u u') (fun m u'=>Da w0 d A' L u'∧Kx L u u') u (working_any h) hnm hck1 (fun m v hi => ?_)).mono ?_
  ·obtain⟨⟨O,s1,s2⟩,s3,s4⟩:=hi
   refine(rlog_e r hr0 (fun u'=>u'.cell? ⟨m+1+1,0,none⟩=some (PT (m+1) 0)∧Da w0 d A' L u'∧Kx L u u') s1 _ (zP base n) (fun v hv=>log_any2 (m+1) n hn base hs v hv) (fun v hv => ?_))
   have t1:=(s1.below hv).1
   refine(jopen_t t1.da hk ho _ (nlog_sz hs n) hnl (rs.map rc) (fun r hr'=>by obtain⟨l,h1,rfl⟩:=List.mem_map.1 hr';exact(hr l h1).2.2) t hct ht hN r A' hA).mono ?_
   rintro e u1 ⟨hh,_⟩
   obtain⟨rfl,h1,h2⟩:=hh hr0
   have hm:=s1.da.lt (List.mem_append_right _ (List.mem_cons_self ..))
   exact⟨rfl,(World.cell?_of_block (a:=⟨m+1+1,0,none⟩) (h2.2 _ (List.mem_append_right _ (List.mem_cons_self ..)))).trans ((hv.cell (p:=⟨m+1+1,0,none⟩) hm).trans s3),h1.sub fun x hx=>List.mem_append_right _ (List.mem_cons_of_mem _ hx),(s4.trans ((s1.below hv).2.sub fun x hx=>List.mem_cons_of_mem _ hx)).trans (h2.sub fun x hx=>List.mem_append_right _ (List.mem_cons_of_mem _ hx))⟩
  ·rintro e v' ⟨m,rfl,h1,h2⟩
   exact⟨fun _=>⟨rfl,h1,h2⟩,fun e=>absurd e hr0⟩
end
end Wi
end Rg
end Go.Proofs.YtmcpagjhpfbpgaaGreatDoor
end
section
namespace Go.Proofs.YtmcpagjhpfbpgaaGreatDoor
open Go.RowKit
namespace Rg
namespace Wi
set_option maxRecDepth 100000
def cnt (rf:Nat→Bool):Nat→Nat
 | 0=>0
 | k+1=>cnt rf k+if rf (k+1) then 1 else 0
theorem cnt_or (a c:Nat→Bool):∀ k,cnt (fun i=>a i || c i) k≤cnt a k+cnt c k
 | 0=>Nat.le_refl _
 | k+1=>by
  have:=cnt_or a c k
  unfold cnt
  cases h1:a (k+1) <;> cases h2:c (k+1) <;> simp <;> omega
theorem cnt_one (x:Int):∀ k,cnt (fun i=>decide (x=(i:Int))) k≤if x≤(k:Int) then 1 else 0
 | 0=>by unfold cnt;omega
 | k+1=>by
  have:=cnt_one x k
  unfold cnt
  by_cases h:x=((k+1:Nat):Int)
  ·rw[if_neg (by omega)] at this
   rw[decide_eq_true h,if_pos rfl,if_pos (by omega)]
   omega
  ·rw[decide_eq_false h]
   simp only[Bool.false_eq_true,if_false]
   by_cases h2:x≤(k:Int)
   ·rw[if_pos h2] at this
    rw[if_pos (by omega)]
    omega
   ·rw[if_neg h2] at this
    omega
theorem cnt_rff (F:Nat→Int) (k:Nat):∀ n,cnt (rff F n) k≤n
 | 0=>by
  have:∀ k,cnt (rff F 0) k=0:=fun k=>by
   induction k with
   | zero=>rfl
   | succ k ih =>
    unfold cnt
    rw[ih]
    simp[rff]
  rw[this]
  exact Nat.le_refl _
 | n+1=>by
  have h1:=cnt_rff F k n
  have h2:=cnt_one (F n) k
  have h3:=cnt_or (rff F n) (fun i=>decide (F n=(i:Int))) k
  have e:rff F (n+1)=fun i=>rff F n i || decide (F n=(i:Int)):=by
   funext i
   show (decide ((i:Int)=F n) || rff F n i)=_
   rw[Bool.or_comm]
   congr 1
   exact decide_eq_decide.2 eq_comm
  rw[e]
  split at h2 <;> omega
theorem cnt_mono (rf:Nat→Bool) {k m:Nat} (h:k≤m):cnt rf k≤cnt rf m:=by
 induction m with
 | zero=>rw[Nat.le_zero.1 h];exact Nat.le_refl _
 | succ m ih =>
  by_cases e:k=m+1
  ·rw[e];exact Nat.le_refl _
  ·exact Nat.le_trans (ih (by omega)) (Nat.le_add_right (cnt rf m) (if rf (m+1) then 1 else 0))
theorem cnt_hit {A:Ad} (h:A.no=true):cnt A.rf A.k+1≤cnt A.rf (A.k+1):=by
 unfold Ad.no at h
 show _≤cnt A.rf A.k+(if A.rf (A.k+1) then 1 else 0)
 rw[h]
 simp
section
variable {A A':Ad} {s t base:ByteArray} {n:Nat} {b:List Nat}
theorem rf_rma:(A.rma t).2.rf=A.rf:=by
 unfold Ad.rma
 cases A.lk t with
 | none=>rfl
 | some f =>
  show (A.rem t).2.rf=_
  unfold Ad.rem
  split
  ·rfl
  ·cases A.lk t <;> rfl
theorem rf_app:(A.app t b).2.rf=A.rf:=by
 unfold Ad.app
 split
 ·rfl
 ·split
  ·rfl
  ·cases A.lk t with
   | some f=>dsimp only;split <;> rfl
   | none=>dsimp only;split;rfl;split <;> rfl
theorem rf_syn:(A.syn t).2.rf=A.rf:=by
 unfold Ad.syn
 split
 ·rfl
 ·cases A.lk t <;> rfl
theorem rf_jsy:(A.jsy t).2.rf=A.rf:=by
 unfold Ad.jsy
 cases A.lk t with
 | none=>rfl
 | some f =>
  dsimp only
  split
  ·rfl
  ·exact rf_syn
theorem rf_rnt:(A.rnt s t).2.rf=A.rf:=by
 unfold Ad.rnt
 cases A.lk s with
 | none=>rfl
 | some f =>
  show (A.rnm f s t).2.rf=_
  unfold Ad.rnm
  split <;> rfl
theorem sq_rf {X:Int×Ad} {f:Ad→Int×Ad} {rf:Nat→Bool} (h1:X.2.rf=rf) (h2:∀ Y:Ad,Y.rf=rf→(f Y).2.rf=rf):(sq X f).2.rf=rf:=by
 unfold sq
 split
 ·exact h2 _ h1
 ·exact h1
theorem rf_rep:(A.rep base n b).2.rf=A.rf:=by
 unfold Ad.rep
 exact sq_rf rf_rma fun Y h=>sq_rf (rf_rma.trans h) fun Y h=>sq_rf (rf_app.trans h) fun Y h=>sq_rf (rf_syn.trans h) fun Y h=>rf_rnt.trans h
def Ob (A:Ad) (m:Nat):Prop:=∀ f∈A.fs,f.ops.length≤m
theorem Ob.mono {m k:Nat} (h:Ob A m) (hk:m≤k):Ob A k:=fun f hf=>Nat.le_trans (h f hf) hk
theorem ob_rma {m:Nat} (h:Ob A m):Ob (A.rma t).2 m:=fun f hf=>h f (fs_rma A t f hf)
theorem ob_app {m:Nat} (h:Ob A m):Ob (A.app t b).2 (m+1):=fo_app A t b h
theorem ob_swap {m:Nat} {f:Af} (h:Ob A m) (hf:f.ops.length≤m):Ob (A.swap t f) m:=fun x hx=>by
 obtain⟨y,hy,rfl⟩:=List.mem_map.1 hx
 split
 ·exact hf
 ·exact h y hy
theorem ob_syn {m:Nat} (h:Ob A m):Ob (A.syn t).2 m:=by
 unfold Ad.syn
 split
 ·exact h
 ·cases A.lk t with
  | none=>exact h
  | some f=>exact ob_swap (A:=A.tick) h (Nat.zero_le _)
theorem ob_jsy {m:Nat} (h:Ob A m):Ob (A.jsy t).2 m:=by
 unfold Ad.jsy
 cases A.lk t with
 | none=>exact h
 | some f =>
  dsimp only
  split
  ·exact h
  ·exact ob_syn h
theorem ob_ren {m:Nat} {f:Af} (h:Ob A m) (hf:f.ops.length≤m):Ob (A.ren f s t) m:=fun x hx=>by
 rcases List.mem_append.1 hx with e | e
 ·exact h x (List.mem_filter.1 e).1
 ·rw[List.mem_singleton.1 e]
  exact hf
theorem ob_rnt {m:Nat} (h:Ob A m):Ob (A.rnt s t).2 m:=by
 unfold Ad.rnt
 cases hl:A.lk s with
 | none=>exact h
 | some f =>
  show Ob (A.rnm f s t).2 m
  unfold Ad.rnm
  split
  ·exact h
  ·exact ob_ren h (h f (lk_in hl))
theorem sq_ob {X:Int×Ad} {f:Ad→Int×Ad} {m M:Nat} (hm:m≤M) (h1:Ob X.2 m) (h2:∀ Y:Ad,Ob Y m→Ob (f Y).2 M):Ob (sq X f).2 M:=by
 unfold sq
 split
 ·exact h2 _ h1
 ·exact h1.mono hm
theorem ob_rep {m:Nat} (h:Ob A m):Ob (A.rep base n b).2 (m+1):=by
 unfold Ad.rep
 exact sq_ob (Nat.le_succ m) (ob_rma h) fun Y h=>sq_ob (Nat.le_succ m) (ob_rma h) fun Y h=>sq_ob (Nat.le_refl _) (ob_app h) fun Y h=>sq_ob (Nat.le_refl _) (ob_syn h) fun Y h=>ob_rnt h
theorem ob_cra (K:ByteArray→Kv) (m:Nat):Ob (A.cra K) m:=fun x hx=>by
 obtain⟨y,_,rfl⟩:=List.mem_map.1 hx
 exact Nat.zero_le _
end
theorem jop_st {A A':Ad} {base:ByteArray} {n:Nat} {B:ByteArray→Option (List Nat)} {rs:List (List Ch)} {t:List Nat} (h:Sc A base n B rs t) (hne:nsnap base≠zP base n) (r:Int) (hA:A.jop (zP base n) (fl (rs.map rc)).length t.length=(r,A')) (m:Nat) (ho:Ob A m) :
  A'.rf=A.rf∧A'.k≤A.k+2∧Ob A' (m+1)∧((r=0∧Sc A' base n B rs [])∨(r=13∧cnt A.rf A.k+1≤cnt A.rf A'.k∧∃ t',Sc A' base n B rs t'∧t'.length≤t.length)):=by
 unfold Ad.jop at hA
 by_cases c0:t.length=0
 ·rw[if_pos c0] at hA
  obtain⟨rfl,rfl⟩:=Prod.mk.inj hA
  obtain rfl:=List.eq_nil_of_length_eq_zero c0
  exact⟨rfl,by omega,ho.mono (by omega),.inl ⟨rfl,h⟩⟩
 rw[if_neg c0] at hA
 obtain⟨f,hl⟩:∃ f,A.lk (zP base n)=some f:=by
  cases hl:A.lk (zP base n) with
  | some f=>exact⟨f,rfl⟩
  | none =>
   have:=h.ct
   unfold Ad.ct at this
   rw[hl] at this
   have:=congrArg List.length this
   rw[List.length_append] at this
   simp at this
   omega
 have hcn:f.cn=fl (rs.map rc)++t:=by
  have:=h.ct
  unfold Ad.ct at this
  rw[hl] at this
  exact this
 by_cases c1:A.no=true
 ·have e:A.cut (zP base n) ((fl (rs.map rc)).length:Nat)=(13,A.tick):=by unfold Ad.cut;rw[if_pos c1]
  rw[e,sq_n (show ¬((13,A.tick):Int×Ad).1=0 from fun e=>absurd (show (13:Int)=0 from e) (by decide))] at hA
  obtain⟨rfl,rfl⟩:=Prod.mk.inj hA
  exact⟨rfl,by show A.k+1≤_;omega,ho.mono (by omega),.inr ⟨rfl,cnt_hit c1,t,⟨h.ck.to rfl,h.ct,h.tn⟩,Nat.le_refl _⟩⟩
 ·have e:A.cut (zP base n) ((fl (rs.map rc)).length:Nat)=(0,A.tick.swap (zP base n) (f.more (fl (rs.map rc)).length [])):=by
   unfold Ad.cut
   rw[if_neg c1,hl]
   dsimp only
   rw[if_pos ⟨by omega,by rw[hcn,List.length_append];omega⟩]
   rfl
  rw[e,sq_z rfl] at hA
  dsimp only at hA
  obtain⟨A1,hA1⟩:∃ A1,A.tick.swap (zP base n) (f.more (fl (rs.map rc)).length [])=A1:=⟨_,rfl⟩
  have hnm:=lk_nm hl
  have l1:A1.lk (zP base n)=some (f.more (fl (rs.map rc)).length []):=by rw[← hA1];exact lk_swap_eq (A:=A.tick) _ hnm hl
  have l2:A1.lk (nsnap base)=A.lk (nsnap base):=by rw[← hA1];exact lk_swap_ne (A:=A.tick) _ hnm hne
  have e1:A1.rf=A.rf:=by rw[← hA1];rfl
  have e2:A1.k=A.k+1:=by rw[← hA1];rfl
  have hm1:(f.more (fl (rs.map rc)).length []).cn=fl (rs.map rc):=by
   show ctn f.sf (f.ops++[_])=_
   unfold ctn
   rw[List.foldl_append]
   show (f.cn.take _++[])=_
   rw[hcn,List.append_nil,List.take_left]
  have o1:Ob A1 (m+1):=by
   rw[← hA1]
   refine ob_swap (A:=A.tick) (Ob.mono ho (by omega)) ?_
   have:=ho f (lk_in hl)
   show (f.ops++[_]).length≤_
   simp
   omega
  rw[hA1] at hA
  have sc1:Sc A1 base n B rs []:=⟨h.ck.to l2,by unfold Ad.ct;rw[l1,List.append_nil];exact hm1,.inl rfl⟩
  have o2:Ob (A1.syn (zP base n)).2 (m+1):=ob_syn o1
  have k2:=k_syn A1 (zP base n)
  have r2:(A1.syn (zP base n)).2.rf=A1.rf:=rf_syn
  by_cases c2:A1.no=true
  ·have e:A1.syn (zP base n)=(13,A1.tick):=by unfold Ad.syn;rw[if_pos c2]
   rw[e] at hA
   obtain⟨rfl,rfl⟩:=Prod.mk.inj hA
   refine⟨e1,by show A1.k+1≤_;omega,o1,.inr ⟨rfl,?_,[],⟨sc1.ck.to rfl,sc1.ct,.inl rfl⟩,Nat.zero_le _⟩⟩
   have h1:=cnt_hit c2
   rw[e1,e2] at h1
   show _≤cnt A.rf (A1.k+1)
   rw[e2]
   have:=cnt_mono A.rf (show A.k≤A.k+1 by omega)
   omega
  ·have hz:(A1.syn (zP base n)).1=0:=by unfold Ad.syn;rw[if_neg c2,l1]
   obtain⟨f',f1,f2⟩:=syn_eq hz
   obtain rfl:=Option.some.inj (l1.symm.trans f1)
   have l3:(A1.syn (zP base n)).2.lk (nsnap base)=A1.lk (nsnap base):=syn_ne hne
   obtain rfl:(A1.syn (zP base n)).2=A':=by rw[hA]
   have hr:r=0:=by rw[hA] at hz;exact hz
   refine⟨r2.trans e1,by omega,o2,.inl ⟨hr,sc1.ck.to l3,?_,.inl rfl⟩⟩
   unfold Ad.ct
   rw[f2]
   show (ctn _ [])=_
   rw[List.append_nil]
   exact hm1
end Wi
end Rg
end Go.Proofs.YtmcpagjhpfbpgaaGreatDoor
end
section
namespace Go.Proofs.YtmcpagjhpfbpgaaGreatDoor
open Go.RowKit
namespace Rg
namespace Wi
set_option maxRecDepth 100000
theorem Pl.kx {p:Option Addr} {g o n:Nat} {K:Nat→ByteArray} {P:Nat→Pt8} {u u':World} {M:List Nat} (h:Pl p g o n K P u) (hk:Kx M u u') (hg:0<n→g∈M) (hP:∀ i,i<n→0<(P i).n→(P i).gb∈M):Pl p g o n K P u' :=
 ⟨h.hp,fun h0=>Nat.lt_of_lt_of_le (h.lt h0) hk.1,fun i hi=>(World.cell?_of_block (a:=⟨g,_,none⟩) (hk.2 g (hg (by omega)))).trans (h.ck i hi),fun i hi=>(World.cell?_of_block (a:=⟨g,_,none⟩) (hk.2 g (hg (by omega)))).trans (h.cv i hi),fun i hi=>⟨(h.ok i hi).1,Kx.pt hk (h.ok i hi).2 (hP i hi)⟩⟩
def Ael (B:ByteArray→Option (List Nat)) (x:Value) (LE:List Nat) (u:World):Prop :=
 ∃ p g c ks P,x=.slice p ks.length c∧Kys B ks∧Pl p g 0 ks.length (kat ks) P u∧(∀ i,i<ks.length→B (kat ks i)=some (bs (P i).n (P i).f))∧(0<ks.length→g∈LE)∧∀ i,i<ks.length→0<(P i).n→(P i).gb∈LE
theorem Ael.kx {B:ByteArray→Option (List Nat)} {x:Value} {LE M:List Nat} {u u':World} (h:Ael B x LE u) (hk:Kx M u u') (hs:∀ y∈LE,y∈M):Ael B x LE u':=by
 obtain⟨p,g,c,ks,P,h1,h2,h3,h4,h5,h6⟩:=h
 exact⟨p,g,c,ks,P,h1,h2,h3.kx hk (fun h0=>hs _ (h5 h0)) (fun i hi h0=>hs _ (h6 i hi h0)),h4,h5,h6⟩
theorem Ael.wide {B:ByteArray→Option (List Nat)} {x:Value} {LE LF:List Nat} {u:World} (h:Ael B x LE u) (hs:∀ y∈LE,y∈LF):Ael B x LF u:=by
 obtain⟨p,g,c,ks,P,h1,h2,h3,h4,h5,h6⟩:=h
 exact⟨p,g,c,ks,P,h1,h2,h3,h4,fun h0=>hs _ (h5 h0),fun i hi h0=>hs _ (h6 i hi h0)⟩
structure Hst (w0:World) (v:Value) (hs:List (ByteArray→Option (List Nat))) (LE:List Nat) (u:World):Prop where
 own:∃ xs:List Value,u.ownsRow w0.heap.size 54 1 v hs.length xs∧∀ (k:Nat) (B:ByteArray→Option (List Nat)),hs[k]?=some B→∃ x,xs[k]?=some x∧Ael B x LE u
 ap:∀ x∈LE,x∉vbl v
 lt:∀ x∈LE,x<u.heap.size
section
variable {w0 u u':World} {v:Value} {hs:List (ByteArray→Option (List Nat))} {LE:List Nat}
theorem Hst.kx (h:Hst w0 v hs LE u) (hk:Kx (vbl v++LE) u u'):Hst w0 v hs LE u':=by
 obtain⟨xs,h1,h2⟩:=h.own
 refine⟨⟨xs,own_keep h1 fun x hx=>hk.2 x (List.mem_append_left _ hx),fun k B hB => ?_⟩,h.ap,fun x hx=>Nat.lt_of_lt_of_le (h.lt x hx) hk.1⟩
 obtain⟨x,e1,e2⟩:=h2 k B hB
 exact⟨x,e1,e2.kx hk fun y hy=>List.mem_append_right _ hy⟩
theorem Hst.vlt (h:Hst w0 v hs LE u):∀ x∈vbl v,w0.heap.size≤x∧x<u.heap.size:=fun x hx=>by
 obtain⟨xs,h1,_⟩:=h.own
 refine⟨?_,own_lt h1 x hx⟩
 unfold vbl at hx
 cases hv:v.ownBlock with
 | none=>rw[hv] at hx;simp at hx
 | some k=>rw[hv] at hx;simp at hx;subst hx;exact(World.ownsRow.lt h1 _ hv).1
theorem info_pp:∃ i,Tryz.prog.info? 54=some i∧i.zero=some (.slice none 0 0)∧i.size=1∧i.bytes=24:=by
 obtain⟨i,hi⟩:∃ i,Tryz.prog.info? 54=some i:=by
  have h:(Tryz.prog.info? 54).isSome=true:=by kernel_rfl
  rcases e:Tryz.prog.info? 54 with _ | i
  ·rw[e] at h;cases h
  ·exact⟨i,rfl⟩
 have h1:(Tryz.prog.info? 54).map (·.zero)=some (some (.slice none 0 0)):=by kernel_rfl
 have h2:(Tryz.prog.info? 54).map (·.size)=some 1:=by kernel_rfl
 have h3:(Tryz.prog.info? 54).map (·.bytes)=some 24:=by kernel_rfl
 rw[hi] at h1 h2 h3
 exact⟨i,hi,Option.some.inj h1,Option.some.inj h2,Option.some.inj h3⟩
theorem Hst.app (h:Hst w0 v hs LE u) (hn:hs.length≤1000) (hb:w0.heap.size≤u.heap.size) {B:ByteArray→Option (List Nat)} {x:Value} {LF:List Nat} (hx:Ael B x LF u) (hsub:∀ y∈LE,y∈LF) (hap:∀ y∈LF,y∉vbl v) (hlt:∀ y∈LF,y<u.heap.size) (hxc:x.oneCell'=true) {gs:Nat} (hc:u.cell? ⟨gs,0,none⟩=some x) (ty:TypeId) :
  ∃ v' u2,(Builtin.append_ #[77,77] ty #[v,.slice (some ⟨gs,0,none⟩) 1 1]).run Tryz.prog u=.ok v' u2∧Hst w0 v' (hs++[B]) LF u2∧Chg (vbl v) u u2∧∀ y∈vbl v',y∈vbl v∨(u.heap.size≤y∧y<u2.heap.size):=by
 obtain⟨xs,h1,h2⟩:=h.own
 obtain⟨i0,hi,hz0,hz1,hz2⟩:=info_pp
 obtain⟨v',w2,r1,r2,r3,_,r5⟩:=run_append_own_at (P:=Tryz.prog) u w0.heap.size 77 ty 54 i0 (.slice none 0 0) 1 24 Tryz.underlying77 hi hz0 hz1 hz2 rfl (by decide) v hs.length xs h1 ⟨gs,0,none⟩ 1 1 [x] rfl
  (fun j y hj=>by
   rcases j with _ | j
   ·rw[show (⟨gs,0,none⟩:Addr).add 0=⟨gs,0,none⟩ by unfold Addr.add;split <;> simp_all,hc];exact hj
   ·cases hj) (fun y hy=>by rw[List.mem_singleton.1 hy];exact hxc) (by unfold maxLen;omega) (by omega) hb
 have hcg:=Chg.grown r3
 have hcv:Chg (vbl v) u w2:=hcg
 have hxl:xs.length=hs.length:=by have:=h1.1;omega
 have hkx:Kx LF u w2:=⟨hcv.size,fun y hy=>hcv.block y (hlt y hy) (hap y hy)⟩
 refine⟨v',w2,r1,⟨⟨xs++[x],by rw[List.length_append];exact r2,fun k B' hB' => ?_⟩,fun y hy hyv => ?_,fun y hy=>Nat.lt_of_lt_of_le (hlt y hy) hcv.size⟩,hcv,fun y hy => ?_⟩
 ·by_cases hk:k<hs.length
  ·rw[List.getElem?_append_left hk] at hB'
   obtain⟨z,e1,e2⟩:=h2 k B' hB'
   refine⟨z,by rw[List.getElem?_append_left (by omega)];exact e1,(e2.wide hsub).kx hkx fun y hy=>hy⟩
  ·rw[List.getElem?_append_right (by omega)] at hB'
   have hk0:k - hs.length=0:=by
    by_cases e:k - hs.length=0
    ·exact e
    ·rw[List.getElem?_eq_none (by simp;omega)] at hB';cases hB'
   rw[hk0] at hB'
   obtain rfl:=Option.some.inj hB'
   refine⟨x,?_,hx.kx hkx fun y hy=>hy⟩
   rw[List.getElem?_append_right (by omega),hxl,hk0]
   rfl
 ·unfold vbl at hyv
  rcases r5 with e | e
  ·rw[e] at hyv;exact hap y hy hyv
  ·rw[e] at hyv
   have:y=u.heap.size:=by simpa using hyv
   have:=hlt y hy
   omega
 ·have hlt2:=own_lt r2 y hy
  unfold vbl at hy ⊢
  rcases r5 with e | e
  ·rw[e] at hy;exact .inl hy
  ·rw[e] at hy
   have:y=u.heap.size:=by simpa using hy
   exact .inr (by omega)
end
section
variable {w0 u u':World} {d g j mv nb N:Nat} {A A':Ad} {base s:ByteArray} {G:Int} {B:ByteArray→Option (List Nat)} {L0 L1 M:List Nat}
theorem So.chg (h:So w0 d A g j mv base s G nb B N L0 u) (hc:Chg M u u') (hM:∀ x∈M,x∈L0) (hlo:∀ x∈M,w0.heap.size≤x) (hL:∀ x∈L1,x∈L0∨(u.heap.size≤x∧x<u'.heap.size)):So w0 d A g j mv base s G nb B N L1 u':=by
 obtain⟨⟨O,h1⟩,h2,⟨c,z,h3,h4,h5⟩,h6,h7⟩:=h
 have hO:∀ x∈O,x∉M:=fun x hx hm=>h1.ap x hx (List.mem_cons_of_mem _ (hM x hm))
 have hjm:j∉M:=fun hm=>h7 (hM j hm)
 have hjl:=h1.da.lt (List.mem_append_right _ (List.mem_cons_self ..))
 have hOl:∀ x∈O,x<u.heap.size:=fun x hx=>h1.da.lt (List.mem_append_left _ hx)
 have hg:∀ k,u'.cell? ⟨g,k,none⟩=u.cell? ⟨g,k,none⟩:=fun k=>hc.cell (p:=⟨g,k,none⟩) h1.gl (hO g h1.og)
 have hbo:∀ x∈O,u'.heap[x]?=u.heap[x]?:=fun x hx=>hc.block x (hOl x hx) (hO x hx)
 have hda:Da w0 d A (O++(j :: L1)) u':=by
  have hd:=h1.da
  obtain⟨D,d1,d2,d3,d4⟩:=hd
  refine⟨D,⟨d1.b.trans (hc.toBelow hlo d1.b.size),d1.dk.chg hc fun x hx=>(d4 x (List.mem_append_right _ (List.mem_cons_of_mem _ (hM x hx)))).2,d1.lo⟩,d2,d3,fun x hx => ?_⟩
  have key:x∈O++(j :: L0)∨(u.heap.size≤x∧x<u'.heap.size):=by
   rcases List.mem_append.1 hx with e | e
   ·exact .inl (List.mem_append_left _ e)
   ·rcases List.mem_cons.1 e with e | e
    ·exact .inl (List.mem_append_right _ (List.mem_cons.2 (.inl e)))
    ·exact(hL x e).imp (fun e=>List.mem_append_right _ (List.mem_cons_of_mem _ e)) id
  rcases key with e | ⟨e1,e2⟩
  ·exact⟨Nat.lt_of_lt_of_le (d4 x e).1 hc.size,(d4 x e).2⟩
  ·exact⟨e2,fun hm=>absurd (d1.dk.blt x hm) (Nat.not_lt.2 e1)⟩
 refine⟨⟨O,hda,(hg 0).trans h1.c0,(hg 1).trans h1.c1,(hg 3).trans h1.c3,(hg 4).trans h1.c4,fun k=>(World.frozen?_of_block (hbo g h1.og)).trans (h1.fz k),h1.vb.keep (hbo mv h1.om) hbo,h1.lo,h1.og,h1.om,h1.gm,fun x hx hm => ?_⟩,(hg 2).trans h2,⟨c,z,h3,h4,Mm.keep1 h5 hc.size (hc.block j hjl hjm)⟩,h6,fun hm => ?_⟩
 ·rcases List.mem_cons.1 hm with e | e
  ·exact h1.ap x hx (List.mem_cons.2 (.inl e))
  ·rcases hL x e with e | e
   ·exact h1.ap x hx (List.mem_cons_of_mem _ e)
   ·have:=hOl x hx
    omega
 ·rcases hL j hm with e | e
  ·exact h7 e
  ·omega
theorem So.pael (h:So w0 d A g j mv base s G nb B N L0 u) (hN:N≤1000000) (hkl:∀ k,(B k).isSome=true→k.size≤maxLen) :
  Calls Tryz.prog 16 #[PT g 0] u fun e u'=>∃ x LN,e=.returned x∧x.oneCell'=true∧Ael B x LN u'∧(∀ y∈LN,u.heap.size≤y∧y<u'.heap.size)∧Below u.heap.size u u':=by
 refine(h.pairs hN hkl).mono ?_
 rintro e u' ⟨v,ks,P,rfl,k1,k2,k3,k4,k5,k6⟩
 have hb:=k3.b
 have hlo:=k3.lo
 have hok:=k3.ok
 obtain⟨p,g',c,rfl,hp⟩:=k3.pl
 refine⟨_,vbl (.slice p ks.length c)++gbs P ks.length,rfl,rfl,⟨p,g',c,ks,P,rfl,k1,hp,k4,fun h0=>List.mem_append_left _ ?_,fun i hi h0=>List.mem_append_right _ (gbs_mem hi h0)⟩,fun y hy => ?_,hb⟩
 ·rw[hp.hp h0]
  simp[vbl,Value.ownBlock]
 ·rcases List.mem_append.1 hy with e | e
  ·exact hlo y e
  ·obtain⟨i,h7,h8⟩:=List.mem_flatMap.1 e
   have hi:=List.mem_range.1 h7
   unfold gbl at h8
   by_cases h0:(P i).n=0
   ·rw[if_pos h0] at h8;cases h8
   ·rw[if_neg h0] at h8
    rw[List.mem_singleton.1 h8]
    have:=hok i hi
    exact⟨(this.2.2.2 (by omega)).1,this.2.2.1.lt (by omega)⟩
end
theorem ael_any {B B':ByteArray→Option (List Nat)} {x y:Value} {LE LF:List Nat} {u:World} (h1:Ael B x LE u) (h2:Ael B' y LF u) (hb1:∀ ks,Kys B ks→ks.length≤1000000) (hb2:∀ ks,Kys B' ks→ks.length≤1000000):Calls Tryz.prog 21 #[x,y] u fun e u'=>∃ c,e=.returned (.bool c)∧(B=B'→c=true)∧Below u.heap.size u u':=by
 obtain⟨p1,g1,c1,k1,P1,rfl,a2,a3,a4,_,_⟩:=h1
 obtain⟨p2,g2,c2,k2,P2,rfl,b2,b3,b4,_,_⟩:=h2
 refine(samep_any c1 c2 u a3 b3 (hb1 _ a2) (hb2 _ b2)).mono ?_
 rintro e u' ⟨c,rfl,hc,hb⟩
 refine⟨c,rfl,fun hB => ?_,hb⟩
 subst hB
 obtain rfl:=Kys.uniq a2 b2
 exact hc ⟨rfl,fun i hi=>⟨rfl,Option.some.inj ((a4 i hi).symm.trans (b4 i hi))⟩⟩
end Wi
end Rg
end Go.Proofs.YtmcpagjhpfbpgaaGreatDoor
end
section
namespace Go.Proofs.YtmcpagjhpfbpgaaGreatDoor
open Go.RowKit
namespace Rg
namespace Wi
set_option maxRecDepth 100000
section
variable {w0 u u':World} {d g j mv nb N:Nat} {A A':Ad} {base s:ByteArray} {G:Int} {B:ByteArray→Option (List Nat)} {L0:List Nat}
theorem So.comm (h:So w0 d A g j mv base s G nb B N L0 u) {u3:World} (hb:Below u.heap.size u u3) (M:List Nat) (hM:∀ x∈M,u.heap.size≤x∧x<u3.heap.size) (p:Option Addr) (gl o m c:Nat) (C:Nat→Cq) (hcl:Cl p gl o m C u3) (hgl:0<m→gl∈M) (hq:∀ i,i<m→Pq (C i).q u3∧∀ x∈gbl (C i).q,x∈M) (l:List Ch) (hl:chl C m=l) (hm:m≤64) (hf:ferr C m=0) (hN:N≤4000) (hr:rsum C m≤65536) (hk:A.k<1000000000) (ho:∀ f∈A.fs,f.ops.length<1000000) (hs:s.size≤281474976710656) (hnb:nb≤1000000000000) (r:Int) (A':Ad) (ha:A.app s (fr (rc l))=(r,A')) :
  Calls Tryz.prog 13 #[PT g 0,.slice p m c] u3 fun e u'=>e=.returned (.int .i64 r)∧So w0 d A' g j mv base s G (nb+70000) (if r=0 then cdo B l else B) (N+m) L0 u'∧Kx L0 u u':=by
 have h3:=h.more hb hM
 have hca:Ca w0 (M++L0) p gl o m C u3:=⟨hcl,fun h0=>.inl (List.mem_append_left _ (hgl h0)),fun i hi=>(hq i hi).1,fun i hi x hx=>.inl (List.mem_append_left _ ((hq i hi).2 x hx))⟩
 refine(h3.commit c hm hca hf hN hr hk ho hs hnb r A' (by rw[hl];exact ha)).mono fun e u' hh => ?_
 obtain⟨e1,e2,e3⟩:=hh
 rw[bdo_cdo,hl] at e2
 exact⟨e1,e2.sub fun x hx=>List.mem_append_right _ hx,(h.below hb).2.trans (e3.sub fun x hx=>List.mem_append_right _ hx)⟩
end
theorem be2 {u v:World} (h:Below u.heap.size u v) (o:Obj):Below u.heap.size u (v.alloc o):=h.trans ((be1 v o).mono h.size)
theorem ltp_gbl (g x:Nat) (l:List Nat) (hx:x∈gbl (ltp g l)):x=g:=by
 unfold gbl at hx
 split at hx
 ·cases hx
 ·exact List.mem_singleton.1 hx
abbrev ka:ByteArray:=⟨#[97]⟩
abbrev kb2:ByteArray:=⟨#[98]⟩
abbrev kc:ByteArray:=⟨#[99]⟩
abbrev kA:ByteArray:=⟨#[65]⟩
abbrev bkv:ByteArray:=⟨#[107,118]⟩
def C1 (n:Nat) (i:Nat):Cq:=if i=0 then ⟨ka,ltp n [1],false⟩ else ⟨kb2,ltp (n+1) [2],false⟩
def C2 (n:Nat) (i:Nat):Cq:=if i=0 then ⟨ka,⟨0,0,0,0,none,fun _=>0⟩,true⟩ else ⟨kc,ltp n [3],false⟩
def C3 (k:ByteArray) (v n:Nat) (_i:Nat):Cq:=⟨k,ltp n [v],false⟩
def W1 (u:World):World:=((u.alloc (lit [1])).alloc (lit [2])).alloc (.cells #[.string ka,.slice (some ⟨u.heap.size,0,none⟩) 1 1,.bool false,.string kb2,.slice (some ⟨u.heap.size+1,0,none⟩) 1 1,.bool false] 65)
def W2 (u:World):World:=(u.alloc (lit [3])).alloc (.cells #[.string ka,.slice none 0 0,.bool true,.string kc,.slice (some ⟨u.heap.size,0,none⟩) 1 1,.bool false] 65)
def W3 (k:ByteArray) (v:Nat) (u:World):World:=(u.alloc (lit [v])).alloc (.cells #[.string k,.slice (some ⟨u.heap.size,0,none⟩) 1 1,.bool false] 65)
theorem w1_sz (u:World):(W1 u).heap.size=u.heap.size+1+1+1:=by simp[W1]
theorem w2_sz (u:World):(W2 u).heap.size=u.heap.size+1+1:=by simp[W2]
theorem w3_sz (k:ByteArray) (v:Nat) (u:World):(W3 k v u).heap.size=u.heap.size+1+1:=by simp[W3]
theorem w1_be (u:World):Below u.heap.size u (W1 u):=be2 (be2 (be1 u _) _) _
theorem w2_be (u:World):Below u.heap.size u (W2 u):=be2 (be1 u _) _
theorem w3_be (k:ByteArray) (v:Nat) (u:World):Below u.heap.size u (W3 k v u):=be2 (be1 u _) _
theorem al_at {u:World} {n:Nat} (hn:u.heap.size=n) (C:Array Value) (T i:Nat) (v:Value) (h0:C[i]?=some v):(u.alloc (.cells C T)).cell? ⟨n,i,none⟩=some v:=by
 rw[← hn]
 exact al_new u C T i v h0
theorem w1_cl (u:World):Cl (some ⟨u.heap.size+1+1,0,none⟩) (u.heap.size+1+1) 0 2 (C1 u.heap.size) (W1 u):=by
 have hn:((u.alloc (lit [1])).alloc (lit [2])).heap.size=u.heap.size+1+1:=by simp
 refine⟨fun _=>rfl,fun _=>by rw[w1_sz];omega,fun i hi => ?_,fun i hi => ?_,fun i hi => ?_⟩
 all_goals (
  obtain rfl | rfl:i=0∨i=1:=by omega
  all_goals exact al_at hn _ _ _ _ rfl)
theorem w1_q (u:World):∀ i,i<2→Pq (C1 u.heap.size i).q (W1 u)∧∀ x∈gbl (C1 u.heap.size i).q,x∈[u.heap.size,u.heap.size+1,u.heap.size+1+1]:=fun i hi=>by
 obtain rfl | rfl:i=0∨i=1:=by omega
 ·exact⟨(ltp_pq u [1]).below (be2 (be1 _ _) _),fun x hx=>by rw[ltp_gbl _ _ _ hx];simp⟩
 ·have e:(u.alloc (lit [1])).heap.size=u.heap.size+1:=by simp
  have h:=ltp_pq (u.alloc (lit [1])) [2]
  rw[e] at h
  exact⟨h.below (be1 _ _),fun x hx=>by rw[ltp_gbl _ _ _ hx];simp⟩
theorem w2_cl (u:World):Cl (some ⟨u.heap.size+1,0,none⟩) (u.heap.size+1) 0 2 (C2 u.heap.size) (W2 u):=by
 have hn:(u.alloc (lit [3])).heap.size=u.heap.size+1:=by simp
 refine⟨fun _=>rfl,fun _=>by rw[w2_sz];omega,fun i hi => ?_,fun i hi => ?_,fun i hi => ?_⟩
 all_goals (
  obtain rfl | rfl:i=0∨i=1:=by omega
  all_goals exact al_at hn _ _ _ _ rfl)
theorem w2_q (u:World):∀ i,i<2→Pq (C2 u.heap.size i).q (W2 u)∧∀ x∈gbl (C2 u.heap.size i).q,x∈[u.heap.size,u.heap.size+1]:=fun i hi=>by
 obtain rfl | rfl:i=0∨i=1:=by omega
 ·exact⟨⟨⟨Bv.void _ _ _ _ _,Nat.le_refl _⟩,fun _=>rfl,Rs.void _ _ _ _⟩,fun x hx=>by cases hx⟩
 ·exact⟨(ltp_pq u [3]).below (be1 _ _),fun x hx=>by rw[ltp_gbl _ _ _ hx];simp⟩
theorem w3_cl (k:ByteArray) (v:Nat) (u:World):Cl (some ⟨u.heap.size+1,0,none⟩) (u.heap.size+1) 0 1 (C3 k v u.heap.size) (W3 k v u):=by
 have hn:(u.alloc (lit [v])).heap.size=u.heap.size+1:=by simp
 refine⟨fun _=>rfl,fun _=>by rw[w3_sz];omega,fun i hi => ?_,fun i hi => ?_,fun i hi => ?_⟩
 all_goals (
  obtain rfl:i=0:=by omega
  exact al_at hn _ _ _ _ rfl)
theorem w3_q (k:ByteArray) (v:Nat) (u:World):∀ i,i<1→Pq (C3 k v u.heap.size i).q (W3 k v u)∧∀ x∈gbl (C3 k v u.heap.size i).q,x∈[u.heap.size,u.heap.size+1]:=fun i _ =>
 ⟨(ltp_pq u [v]).below (be1 _ _),fun x hx=>by rw[ltp_gbl _ _ _ hx];simp⟩
def e1:List Ch:=[⟨ka,[1],false⟩,⟨kb2,[2],false⟩]
def e2:List Ch:=[⟨ka,[],true⟩,⟨kc,[3],false⟩]
def e3 (k:ByteArray) (v:Nat):List Ch:=[⟨k,[v],false⟩]
theorem c1_ch (n:Nat):chl (C1 n) 2=e1:=by
 show [Cq.ch _,Cq.ch _]=_
 unfold Cq.ch C1 e1
 simp only[if_pos,if_neg (show ¬1=0 by decide),ltp_bs]
theorem c2_ch (n:Nat):chl (C2 n) 2=e2:=by
 show [Cq.ch _,Cq.ch _]=_
 unfold Cq.ch C2 e2
 simp only[if_pos,if_neg (show ¬1=0 by decide),ltp_bs]
 rfl
theorem c3_ch (k:ByteArray) (v n:Nat):chl (C3 k v n) 1=e3 k v:=by
 show [Cq.ch _]=_
 unfold Cq.ch C3 e3
 simp only[ltp_bs]
theorem sput_any (k:ByteArray) (v:Nat) (u:World):Calls Tryz.prog 23 #[.string k,.int .u8 ((v:Nat):Int)] u fun e u'=>e=.returned (.slice (some ⟨u.heap.size+1,0,none⟩) 1 1)∧u'=W3 k v u:=by
 go_enter Tryz.func23,Tryz.ntmps23
 go_wp2
 go_ret
 exact⟨rfl,rfl⟩
def rf0:Nat→Bool:=fun _=>false
def f1:List Nat:=fr (rc e1)
def f2:List Nat:=fr (rc e2)
def f3:List Nat:=fr (rc (e3 ka 1))
def f4:List Nat:=fr (rc (e3 ka 2))
theorem f1_l:f1.length≤1000:=by decide +kernel
theorem f2_l:f2.length≤1000:=by decide +kernel
theorem f3_l:f3.length≤1000:=by decide +kernel
theorem f4_l:f4.length≤1000:=by decide +kernel
def lo:ByteArray:=zP bkv 0
def l1:ByteArray:=zP bkv 1
def tm:ByteArray:=ntmp bkv
def sn:ByteArray:=nsnap bkv
theorem lo_ok:nmd lo=true:=by decide +kernel
theorem l1_ok:nmd l1=true:=by decide +kernel
theorem tm_ok:nmd tm=true:=by decide +kernel
theorem sn_ok:nmd sn=true:=by decide +kernel
theorem kv_ok:nmd bkv=true:=by decide +kernel
theorem kA_no:nmd kA=false:=by decide +kernel
theorem lo_sz:lo.size≤281474976710656:=nlog_sz (by decide) 0
theorem lo_sn:¬lo=sn:=by decide +kernel
theorem lo_tm:¬lo=tm:=by decide +kernel
theorem lo_l1:¬lo=l1:=by decide +kernel
theorem tm_sn:¬tm=sn:=by decide +kernel
theorem sn_lo:¬sn=lo:=by decide +kernel
def Bn:ByteArray→Option (List Nat):=fun _=>none
def ck:List Nat:=fl (ckl 1 (cdo Bn (e3 ka 1)) [[97]])
theorem ck_l:ck.length≤1000:=by decide +kernel
def s0:Ad:=⟨0,[],rf0⟩
def s1:Ad:=⟨1,[⟨lo,[],[(0,f1)],true⟩],rf0⟩
def s2:Ad:=⟨2,[⟨lo,[],[(0,f1),(f1.length,f2)],true⟩],rf0⟩
def s3:Ad:=⟨2,[],rf0⟩
def s4:Ad:=⟨3,[⟨lo,[],[(0,f3)],true⟩],rf0⟩
def s5:Ad:=⟨4,[⟨lo,f3,[],false⟩],rf0⟩
def s6:Ad:=⟨5,[⟨lo,f3,[(f3.length,f4)],false⟩],rf0⟩
def s7:Ad:=⟨5,[⟨lo,f3,[],false⟩],rf0⟩
def s8:Ad:=⟨8,[⟨lo,f3,[],false⟩,⟨sn,ck,[],false⟩],rf0⟩
def s9:Ad:=⟨9,[⟨sn,ck,[],false⟩],rf0⟩
theorem t01:s0.app lo f1=(0,s1):=by
 have:=f1_l
 simp[Ad.app,Ad.no,s0,s1,rf0,lo_ok,Ad.lk]
 omega
theorem t12:s1.app lo f2=(0,s2):=by
 have:=f1_l
 have:=f2_l
 simp[Ad.app,Ad.no,s1,s2,rf0,lo_ok,Ad.lk,Ad.swap,Ad.tick,Af.cn,ctn,Af.more]
 omega
theorem t23:s2.cra (kof (kup (kbk 0 fun _=>kv0) 0))=s3:=by simp[Ad.cra,s2,s3,kof,kup,kv0,Af.there,Af.dn,Af.tl]
theorem t34:s3.app lo f3=(0,s4):=by
 have:=f3_l
 simp[Ad.app,Ad.no,s3,s4,rf0,lo_ok,Ad.lk]
 omega
theorem t45:s4.jsy lo=(0,s5):=by simp[Ad.jsy,Ad.syn,Ad.no,s4,s5,rf0,Ad.lk,Ad.swap,Ad.tick,Af.cn,ctn]
theorem t56:s5.app lo f4=(0,s6):=by
 have:=f3_l
 have:=f4_l
 simp[Ad.app,Ad.no,s5,s6,rf0,lo_ok,Ad.lk,Ad.swap,Ad.tick,Af.cn,ctn,Af.more]
 omega
theorem t67:s6.cra (kof (kup (kbk 0 fun _=>kv0) 0))=s7:=by simp[Ad.cra,s6,s7,kof,kup,kv0,Af.there,Af.dn,Af.tl,Af.set,ctn]
theorem ct7:s7.ct lo=f3:=by simp[Ad.ct,s7,Ad.lk,Af.cn,ctn]
theorem t78:s7.rep bkv 1 ck=(0,s8):=by
 have:=ck_l
 have a1:s7.rma tm=(0,s7):=by simp[Ad.rma,s7,Ad.lk,lo_tm]
 have a2:s7.rma l1=(0,s7):=by simp[Ad.rma,s7,Ad.lk,lo_l1]
 have a3:s7.app tm ck=(0,⟨6,[⟨lo,f3,[],false⟩,⟨tm,[],[(0,ck)],true⟩],rf0⟩):=by
  simp[Ad.app,Ad.no,s7,rf0,tm_ok,Ad.lk,lo_tm]
  omega
 have a4:(⟨6,[⟨lo,f3,[],false⟩,⟨tm,[],[(0,ck)],true⟩],rf0⟩:Ad).syn tm=(0,⟨7,[⟨lo,f3,[],false⟩,⟨tm,ck,[],false⟩],rf0⟩):=by
  simp[Ad.syn,Ad.no,rf0,Ad.lk,lo_tm,Ad.swap,Ad.tick,Af.cn,ctn]
 have a5:(⟨7,[⟨lo,f3,[],false⟩,⟨tm,ck,[],false⟩],rf0⟩:Ad).rnt tm sn=(0,s8):=by
  simp[Ad.rnt,Ad.rnm,Ad.ren,Ad.no,rf0,Ad.lk,lo_tm,lo_sn,tm_sn,s8]
 have key:∀ (X:Int×Ad) (Y:Ad) (f:Ad→Int×Ad),X=(0,Y)→sq X f=f Y:=fun X Y f h=>by rw[h];rfl
 exact(key (s7.rma tm) _ _ a1).trans ((key (s7.rma l1) _ _ a2).trans ((key (s7.app tm ck) _ _ a3).trans ((key (Ad.syn _ tm) _ _ a4).trans a5)))
theorem t89:s8.rma lo=(0,s9):=by simp[Ad.rma,Ad.rem,Ad.del,Ad.no,Ad.tick,rf0,s8,s9,Ad.lk,sn_lo]
theorem n9:s9.fs.map Af.nm=[sn]:=rfl
end Wi
end Rg
end Go.Proofs.YtmcpagjhpfbpgaaGreatDoor
end
section
namespace Go.Proofs.YtmcpagjhpfbpgaaGreatDoor
open Go.RowKit
namespace Rg
namespace Wi
set_option maxRecDepth 100000
section
variable {w0 u u':World} {d g j mv nb N:Nat} {A A':Ad} {base s:ByteArray} {G:Int} {B:ByteArray→Option (List Nat)} {L0:List Nat}
theorem kopen (h:Da w0 d A L0 u) (hsn:A.lk sn=none) (rs:List (List Ch)) (hr:∀ l∈rs,l.length≤64∧(∀ c∈l,c.ok)∧(rc l).length≤65536) (hct:A.ct lo=fl (rs.map rc)) (hN:(fl (rs.map rc)).length≤1048576) (hNN:64*rs.length≤4096) (B:ByteArray→Option (List Nat)) (hB:rs.foldl cdo Bn=B) (N:Nat) (hNe:64*rs.length=N) :
  Calls Tryz.prog 19 #[PT d 0,.string bkv] u fun e u'=>∃ g j mv,e=.returned (.tuple #[PT g 0,.int .i64 0])∧So w0 d A g j mv bkv lo ((0:Nat):Int) 2000000 B N L0 u':=by
 subst hB
 subst hNe
 refine(sopen_new h bkv (by decide) kv_ok lo_ok hsn hr hct hN hNN).mono ?_
 rintro e u' ⟨g,j,mv,e1,e2⟩
 exact⟨g,j,mv,e1,e2.mono (by decide) (Nat.le_refl _)⟩
theorem com1 (h:So w0 d s0 g j mv bkv lo G 2000000 Bn 0 [] u):Calls Tryz.prog 13 #[PT g 0,.slice (some ⟨u.heap.size+1+1,0,none⟩) 2 2] (W1 u) fun e u'=>e=.returned (.int .i64 0)∧So w0 d s1 g j mv bkv lo G 3000000 (cdo Bn e1) 2 [] u' :=
 (h.comm (w1_be u) [u.heap.size,u.heap.size+1,u.heap.size+1+1] (fun x hx=>by rw[w1_sz];simp at hx;omega) _ _ _ _ 2 _ (w1_cl u) (fun _=>by simp) (w1_q u) e1 (c1_ch _) (by decide) rfl (by decide) (Nat.le_of_ble_eq_true rfl) (by decide) (fun f hf=>by cases hf) lo_sz (by decide) 0 s1 t01).mono fun _ _ hh=>⟨hh.1,hh.2.1.mono (by decide) (by decide)⟩
theorem com2 (h:So w0 d s1 g j mv bkv lo G 3000000 (cdo Bn e1) 2 L0 u):Calls Tryz.prog 13 #[PT g 0,.slice (some ⟨u.heap.size+1,0,none⟩) 2 2] (W2 u) fun e u'=>e=.returned (.int .i64 0)∧So w0 d s2 g j mv bkv lo G 4000000 (cdo (cdo Bn e1) e2) 4 L0 u'∧Kx L0 u u' :=
 (h.comm (w2_be u) [u.heap.size,u.heap.size+1] (fun x hx=>by rw[w2_sz];simp at hx;omega) _ _ _ _ 2 _ (w2_cl u) (fun _=>by simp) (w2_q u) e2 (c2_ch _) (by decide) rfl (by decide) (Nat.le_of_ble_eq_true rfl) (by decide) (fun f hf=>by simp[s1] at hf;rw[hf];decide) lo_sz (by decide) 0 s2 t12).mono fun _ _ hh=>⟨hh.1,hh.2.1.mono (by decide) (by decide),hh.2.2⟩
theorem com3 (h:So w0 d s3 g j mv bkv lo G 2000000 Bn 0 [] u):Calls Tryz.prog 13 #[PT g 0,.slice (some ⟨u.heap.size+1,0,none⟩) 1 1] (W3 ka 1 u) fun e u'=>e=.returned (.int .i64 0)∧So w0 d s4 g j mv bkv lo G 3000000 (cdo Bn (e3 ka 1)) 1 [] u' :=
 (h.comm (w3_be ka 1 u) [u.heap.size,u.heap.size+1] (fun x hx=>by rw[w3_sz];simp at hx;omega) _ _ _ _ 1 _ (w3_cl ka 1 u) (fun _=>by simp) (w3_q ka 1 u) (e3 ka 1) (c3_ch _ _ _) (by decide) rfl (by decide) (Nat.le_of_ble_eq_true rfl) (by decide) (fun f hf=>by cases hf) lo_sz (by decide) 0 s4 t34).mono fun _ _ hh=>⟨hh.1,hh.2.1.mono (by decide) (by decide)⟩
theorem com4 (h:So w0 d s5 g j mv bkv lo G 3000000 (cdo Bn (e3 ka 1)) 1 [] u):Calls Tryz.prog 13 #[PT g 0,.slice (some ⟨u.heap.size+1,0,none⟩) 1 1] (W3 ka 2 u) fun e u'=>e=.returned (.int .i64 0)∧∃ B',So w0 d s6 g j mv bkv lo G 4000000 B' 2 [] u' :=
 (h.comm (w3_be ka 2 u) [u.heap.size,u.heap.size+1] (fun x hx=>by rw[w3_sz];simp at hx;omega) _ _ _ _ 1 _ (w3_cl ka 2 u) (fun _=>by simp) (w3_q ka 2 u) (e3 ka 2) (c3_ch _ _ _) (by decide) rfl (by decide) (Nat.le_of_ble_eq_true rfl) (by decide) (fun f hf=>by simp[s5] at hf;rw[hf];decide) lo_sz (by decide) 0 s6 t56).mono fun _ _ hh=>⟨hh.1,_,hh.2.1.mono (by decide) (by decide)⟩
theorem get1 (h:So w0 d A g j mv base s G nb B N L0 u) (k:ByteArray) (hk:k.size≤maxLen) (b:List Nat) (hB:B k=some b) :
  Calls Tryz.prog 12 #[PT g 0,.string k] u fun e u'=>∃ q:Pt8,e=.returned (.tuple #[.slice q.p q.n q.cp,.bool true])∧Pq q u'∧bs q.n q.f=b∧So w0 d A g j mv base s G nb B N (gbl q++L0) u':=by
 refine(h.get k hk).mono ?_
 rintro e u' ⟨v,M,P,rfl,e1,e2,e3,e4⟩
 obtain⟨q,rfl,q1,q2,q3,q4,q5,q6⟩:=e1.part
 refine⟨q,by rw[hB];rfl,⟨q1,q2,q5⟩,by rw[q3,q4];exact e2 b hB,h.more e1.b fun x hx => ?_⟩
 unfold gbl at hx
 split at hx
 ·cases hx
 ·obtain rfl:=List.mem_singleton.1 hx
  exact⟨q6 (by omega),q5.lt (by omega)⟩
theorem kys2:Kys (cdo (cdo Bn e1) e2) [[98],[99]]:=by
 refine⟨by decide,by decide,fun l=>⟨fun h => ?_,fun h => ?_⟩⟩
 ·simp at h
  rcases h with rfl | rfl
  ·exact⟨kb2,rfl,by decide⟩
  ·exact⟨kc,rfl,by decide⟩
 ·obtain⟨t,rfl,ht⟩:=h
  by_cases h1:t=kc
  ·subst h1;decide
  by_cases h2:t=kb2
  ·subst h2;decide
  by_cases h3:t=ka
  ·subst h3;revert ht;decide
  ·exfalso
   simp[cdo,e1,e2,cput,Bn,h1,h2,h3] at ht
theorem kys7:Kys (cdo Bn (e3 ka 1)) [[97]]:=by
 refine⟨by decide,by decide,fun l=>⟨fun h => ?_,fun h => ?_⟩⟩
 ·simp at h
  subst h
  exact⟨ka,rfl,by decide⟩
 ·obtain⟨t,rfl,ht⟩:=h
  by_cases h3:t=ka
  ·subst h3;decide
  ·exfalso
   simp[cdo,e3,cput,Bn,h3] at ht
theorem pairs2 (h:So w0 d s2 g j mv bkv lo G 4000000 (cdo (cdo Bn e1) e2) 4 L0 u):Calls Tryz.prog 16 #[PT g 0] u fun e u'=>∃ p gp c K P,e=.returned (.slice p 2 c)∧Pl p gp 0 2 K P u'∧(K 0=kb2∧bs (P 0).n (P 0).f=[2]∧K 1=kc∧bs (P 1).n (P 1).f=[3])∧So w0 d s2 g j mv bkv lo G 4000000 (cdo (cdo Bn e1) e2) 4 L0 u'∧Kx L0 u u':=by
 refine(h.pairs (by decide) (fun k hk => ?_)).mono ?_
 ·by_cases h1:k=kc
  ·subst h1;decide
  by_cases h2:k=kb2
  ·subst h2;decide
  by_cases h3:k=ka
  ·subst h3;decide
  ·exfalso
   simp[cdo,e1,e2,cput,Bn,h1,h2,h3] at hk
 ·rintro e u' ⟨v,ks,P,rfl,k1,k2,k3,k4,k5,k6⟩
  obtain rfl:=Kys.uniq k1 kys2
  obtain⟨p,gp,c,rfl,hp⟩:=k3.pl
  refine⟨p,gp,c,_,P,rfl,hp,⟨rfl,?_,rfl,?_⟩,k5,k6⟩
  ·have:=k4 0 (by decide)
   exact(Option.some.inj ((by decide:cdo (cdo Bn e1) e2 (kat [[98],[99]] 0)=some [2]).symm.trans this)).symm
  ·have:=k4 1 (by decide)
   exact(Option.some.inj ((by decide:cdo (cdo Bn e1) e2 (kat [[98],[99]] 1)=some [3]).symm.trans this)).symm
def W4 (u:World):World:=((u.alloc (lit [2])).alloc (lit [3])).alloc (.cells #[.string kb2,.slice (some ⟨u.heap.size,0,none⟩) 1 1,.string kc,.slice (some ⟨u.heap.size+1,0,none⟩) 1 1] 69)
def P4 (n i:Nat):Pt8:=if i=0 then ltp n [2] else ltp (n+1) [3]
def K4 (i:Nat):ByteArray:=if i=0 then kb2 else kc
theorem w4_be (u:World):Below u.heap.size u (W4 u):=be2 (be2 (be1 u _) _) _
theorem w4_pl (u:World):Pl (some ⟨u.heap.size+1+1,0,none⟩) (u.heap.size+1+1) 0 2 K4 (P4 u.heap.size) (W4 u):=by
 have hn:((u.alloc (lit [2])).alloc (lit [3])).heap.size=u.heap.size+1+1:=by simp
 refine⟨fun _=>rfl,fun _=>by simp[W4],fun i hi => ?_,fun i hi => ?_,fun i hi => ?_⟩
 ·obtain rfl | rfl:i=0∨i=1:=by omega
  all_goals exact al_at hn _ _ _ _ rfl
 ·obtain rfl | rfl:i=0∨i=1:=by omega
  all_goals exact al_at hn _ _ _ _ rfl
 ·obtain rfl | rfl:i=0∨i=1:=by omega
  ·have h:=(ltp_pq u [2]).below (be2 (be1 (u.alloc (lit [2])) (lit [3])) (.cells #[.string kb2,.slice (some ⟨u.heap.size,0,none⟩) 1 1,.string kc,.slice (some ⟨u.heap.size+1,0,none⟩) 1 1] 69))
   exact⟨h.1,h.2.2⟩
  ·have e:(u.alloc (lit [2])).heap.size=u.heap.size+1:=by simp
   have h:=ltp_pq (u.alloc (lit [2])) [3]
   rw[e] at h
   have h2:=h.below (be1 ((u.alloc (lit [2])).alloc (lit [3])) (.cells #[.string kb2,.slice (some ⟨u.heap.size,0,none⟩) 1 1,.string kc,.slice (some ⟨u.heap.size+1,0,none⟩) 1 1] 69))
   exact⟨h2.1,h2.2.2⟩
theorem sp2 {p:Option Addr} {gp c:Nat} {K:Nat→ByteArray} {P:Nat→Pt8} (h:Pl p gp 0 2 K P u) (hk:K 0=kb2∧bs (P 0).n (P 0).f=[2]∧K 1=kc∧bs (P 1).n (P 1).f=[3]):Calls Tryz.prog 21 #[.slice p 2 c,.slice (some ⟨u.heap.size+1+1,0,none⟩) 2 2] (W4 u) fun e u'=>e=.returned (.bool true)∧Below u.heap.size u u':=by
 refine(samep_any c 2 (W4 u) (h.below (w4_be u)) (w4_pl u) (by decide) (by decide)).mono ?_
 rintro e u' ⟨b,rfl,hb,hbe⟩
 obtain⟨k1,k2,k3,k4⟩:=hk
 have e1:bs (P4 u.heap.size 0).n (P4 u.heap.size 0).f=[2]:=ltp_bs _ _
 have e2:bs (P4 u.heap.size 1).n (P4 u.heap.size 1).f=[3]:=ltp_bs _ _
 rw[hb ⟨rfl,fun i hi=>by
  obtain rfl | rfl:i=0∨i=1:=by omega
  ·exact⟨k1,k2.trans e1.symm⟩
  ·exact⟨k3,k4.trans e2.symm⟩⟩]
 exact⟨rfl,(w4_be u).trans (hbe.mono (w4_be u).size)⟩
theorem chk7 (h:So w0 d s7 g j mv bkv lo ((0:Nat):Int) 2000000 (cdo Bn (e3 ka 1)) 64 L0 u):Calls Tryz.prog 15 #[PT g 0] u fun e u'=>e=.returned (.int .i64 0)∧(∃ j',So w0 d s9 g j' mv bkv l1 ((1:Nat):Int) 2000000 (cdo Bn (e3 ka 1)) 64 L0 u')∧Kx L0 u u':=by
 refine(So.check 0 h (by decide) (fun f hf=>by simp[s7] at hf;rw[hf];decide) (by decide) (by decide) l1_ok sn_ok (by decide) (fun k hk => ?_) _ kys7 (Nat.le_trans ck_l (by decide)) 0 s8 t78).mono ?_
 ·by_cases h3:k=ka
  ·subst h3;decide
  ·exfalso
   simp[cdo,e3,cput,Bn,h3] at hk
 ·rintro e u' ⟨rfl,e1,e2,_⟩
  obtain⟨j',e3⟩:=e2 rfl
  have e4:(s8.rma (zP bkv 0)).2=s9:=by rw[show s8.rma (zP bkv 0)=(0,s9) from t89]
  rw[e4] at e3
  exact⟨rfl,⟨j',e3⟩,e1⟩
end
theorem com5 {w0 u:World} {d g j mv nb N:Nat} {A:Ad} {base s:ByteArray} {G:Int} {B:ByteArray→Option (List Nat)} {L0:List Nat} (h:So w0 d A g j mv base s G nb B N L0 u):Calls Tryz.prog 13 #[PT g 0,.slice (some ⟨u.heap.size+1,0,none⟩) 1 1] (W3 ⟨#[]⟩ 1 u) fun e u'=>e=.returned (.int .i64 2)∧So w0 d A g j mv base s G nb B N L0 u' :=
 ((h.below (w3_be _ _ _)).1.cbad 1 (by decide) (w3_cl ⟨#[]⟩ 1 u) (fun e=>absurd (show (2:Int)=0 from e) (by decide))).mono fun e u' hh=>⟨hh.1,((h.below (w3_be ⟨#[]⟩ 1 u)).1.below hh.2).1⟩
theorem o3:∀ l∈[e3 ka 1],l.length≤64∧(∀ c∈l,c.ok)∧(rc l).length≤65536:=by
 intro l hl
 rw[List.mem_singleton.1 hl]
 refine⟨by decide,fun c hc => ?_,by decide +kernel⟩
 rw[List.mem_singleton.1 hc]
 exact⟨by decide,by decide,by decide,fun e=>by cases e⟩
theorem o3c:s7.ct lo=fl ([e3 ka 1].map rc):=by
 rw[ct7]
 unfold f3 fl
 simp
theorem o3n:(fl ([e3 ka 1].map rc)).length≤1048576:=by
 rw[← o3c,ct7]
 exact Nat.le_trans f3_l (by decide)
theorem mk65 (u:World):∃ v,(Instr.makeSlice 39 (.int .i64 65) (.int .i64 65)).run Tryz.prog u=.ok (.slice (some ⟨u.heap.size,0,none⟩) 65 65) v∧Below u.heap.size u v:=by
 refine⟨_,run_make (P:=Tryz.prog) u 39 65 _ _ Tryz.underlying39 rfl rfl .i64 .i64 65 65 (by decide) (by decide) (by decide) (by decide),?_⟩
 exact be1 u _
end Wi
end Rg
end Go.Proofs.YtmcpagjhpfbpgaaGreatDoor
end
section
namespace Go.Proofs.YtmcpagjhpfbpgaaGreatDoor
open Go.RowKit
namespace Rg
namespace Wi
set_option maxRecDepth 100000
theorem known15 (w:World):Calls Tryz.prog 5 #[] w (Rt w (.bool true)):=by
 go_enter Tryz.func5,Tryz.ntmps5
 go_wp2_with (first
  | (go_at_call 22;refine(crash_a hU.out none 0 0 (fun _=>kv0) (by decide) (.inl ⟨rfl,rfl⟩)).mono ?_;rintro e w15 ⟨rfl,hV,_⟩;rw[t67] at hV;have hV:Hid (Da w d s7 [] w15):=hV;clear hU)
  | (go_at_call 19;refine(kopen hV.out rfl [e3 ka 1] o3 o3c o3n (by decide) (cdo Bn (e3 ka 1)) rfl 64 rfl).mono ?_;rintro e w16 ⟨g3,j3,m3,rfl,h16⟩;have h16:Hid _:=h16;clear hV)
  | (go_at_call 12;refine(get1 h16.out ka (by decide) [1] (by decide)).mono ?_;rintro e w17 ⟨q3,rfl,p17,b17,h17⟩;have h17:Hid _:=h17;have p17:Hid _:=p17;have b17:Hid _:=b17;clear h16)
  | (go_at_call 15;refine(chk7 h17.out).mono ?_;rintro e w18 ⟨rfl,⟨j4,h18⟩,k18⟩;have h18:Hid _:=h18;have p18:Hid (Pq q3 w18):=Pq.kx p17.out k18 (fun x hx=>List.mem_append_left _ hx);clear h17 p17 k18)
  | (go_at_call 19;refine(sopen_arg d kA w18 (working_any (So.da h18.out)) (fun v _=>by have:=snamed_ok kA (by decide) v;rwa [kA_no] at this)).mono ?_;rintro e w19 ⟨rfl,hb⟩;have h19:Hid _:=(So.below h18.out hb).1;have p19:Hid _:=Pq.below p18.out hb;clear h18 p18 hb)
  | (go_at_call 20;refine(same_lit p19.out [1] b17.out).mono ?_;rintro e w20 ⟨rfl,hb⟩;have h20:Hid _:=(So.below h19.out hb).1;clear h19 p19 hb)
  | (go_at_call 18;refine(sgen_any g3 j4 ((1:Nat):Int) w20 h20.out.2.1 (So.c3 h20.out)).mono ?_;rintro e w20 ⟨rfl,rfl⟩)
  | (go_at_call 25;refine(names1_a (So.da h20.out) sn n9).mono ?_;rintro e w22 ⟨gn,on,cn,rfl,hb,gn1,gn2,gn3⟩;have h22:Hid _:=(So.below h20.out hb).1;have hgn:Hid _:=And.intro gn2 gn3;clear h20 hb gn1 gn2 gn3)
  | (go_at_call 24;refine(same_texts1 gn on cn w22.heap.size 0 1 sn (w22.alloc (.cells #[.string sn] 9)) ((al_old w22 _ hgn.out.1).trans hgn.out.2) (by have:=hgn.out.1;simp;omega) (by simp) (al_new w22 _ 9 0 _ rfl)).mono ?_;rintro e w23 ⟨rfl,hb⟩;have h23:Hid _:=(So.below h22.out ((be1 w22 _).trans (hb.mono (be1 w22 _).size))).1;clear h22 hb)
  | (go_at_call 23;refine(sput_any ⟨#[]⟩ 1 w23).mono ?_;rintro e w24 ⟨rfl,hw24⟩;subst hw24)
  | (go_at_call 13;refine(com5 h23.out).mono ?_;rintro e w25 ⟨rfl,h25⟩;have h25:Hid _:=h25;clear h23)
  | (go_at_call 8;refine(New_nil w).mono ?_;rintro e w1 ⟨d,mb,rb,rfl,hN⟩;have h0:Hid (Da w d s0 [] w1):=new_a hN;clear hN)
  | (go_at_call 19;refine(kopen h0.out rfl [] (fun l hl=>by cases hl) rfl (by decide) (by decide) Bn rfl 0 rfl).mono ?_;rintro e w2 ⟨g1,j1,m1,rfl,h2⟩;have h2:Hid _:=h2;clear h0)
  | (go_at_call 13;refine(com1 h2.out).mono ?_;rintro e w3 ⟨rfl,h3⟩;have h3:Hid _:=h3;clear h2)
  | (go_at_call 12;refine(get1 h3.out ka (by decide) [1] (by decide)).mono ?_;rintro e w4 ⟨q1,rfl,p4,b4,h4⟩;have h4:Hid _:=h4;have p4:Hid _:=p4;have b4:Hid _:=b4;clear h3)
  | (go_at_call 13;refine(com2 h4.out).mono ?_;rintro e w5 ⟨rfl,h5,k5⟩;have h5:Hid _:=h5;have p5:Hid (Pq q1 w5):=Pq.kx p4.out k5 (fun x hx=>List.mem_append_left _ hx);clear h4 p4 k5)
  | (go_at_call 16;refine(pairs2 h5.out).mono ?_;rintro e w6 ⟨pp,gp,cp,K,P,rfl,l6,k6,h6,x6⟩;have h6:Hid _:=h6;have l6:Hid _:=l6;have k6:Hid _:=k6;have p6:Hid (Pq q1 w6):=Pq.kx p5.out x6 (fun x hx=>List.mem_append_left _ hx);clear h5 p5 x6)
  | (go_at_call 20;refine(same_lit p6.out [1] b4.out).mono ?_;rintro e w7 ⟨rfl,hb⟩;have h7:Hid _:=(So.below h6.out hb).1;have l7:Hid _:=l6.out.below hb;clear h6 l6 p6 b4 hb)
  | (go_at_call 21;refine(sp2 l7.out k6.out).mono ?_;rintro e w8 ⟨rfl,hb⟩;have h8:Hid (Da w d s2 [] w8):=(So.below h7.out hb).1.da.sub (fun x hx=>by cases hx);clear h7 l7 k6 hb)
  | (go_at_call 22;refine(crash_a h8.out none 0 0 (fun _=>kv0) (by decide) (.inl ⟨rfl,rfl⟩)).mono ?_;rintro e w9 ⟨rfl,h9,_⟩;rw[t23] at h9;have h9:Hid (Da w d s3 [] w9):=h9;clear h8)
  | (go_at_call 19;refine(kopen h9.out rfl [] (fun l hl=>by cases hl) rfl (by decide) (by decide) Bn rfl 0 rfl).mono ?_;rintro e w10 ⟨g2,j2,m2,rfl,h10⟩;have h10:Hid _:=h10;clear h9)
  | (go_at_call 17;refine(So.len h10.out).mono ?_;rintro e w10 ⟨⟨M0,rfl,hM0⟩,rfl⟩;obtain rfl:M0=0:=(by omega);clear hM0)
  | (go_at_call 23;refine(sput_any ka 1 w10).mono ?_;rintro e w11 ⟨rfl,hw11⟩;subst hw11;have h11:Hid _:=h10)
  | (go_at_call 13;refine(com3 h11.out).mono ?_;rintro e w12 ⟨rfl,h12⟩;have h12:Hid _:=h12;clear h10 h11)
  | (go_at_call 14;refine(So.sync h12.out (by decide) lo_sz 0 s5 t45).mono ?_;rintro e w13 ⟨rfl,h13,_⟩;have h13:Hid _:=h13;clear h12)
  | (go_at_call 23;refine(sput_any ka 2 w13).mono ?_;rintro e w14 ⟨rfl,hw14⟩;subst hw14;have h14:Hid _:=h13)
  | (go_at_call 13;refine(com4 h14.out).mono ?_;rintro e w14b ⟨rfl,B4,h14b⟩;have hU:Hid (Da w d s6 [] w14b):=h14b.da;clear h14 h13 h14b)
  | fail)
 obtain⟨v65,hmk,hb65⟩:=mk65 w25
 rw[hmk,Result.andThen_ok]
 go_wp2_with (first
  | (go_at_call 13;refine((So.below h25.out hb65).1.clong (p:=some ⟨w25.heap.size,0,none⟩) 65 (by decide)).mono ?_;rintro e w26 ⟨rfl,hb⟩)
  | fail)
 go_ret
 exact⟨rfl,((So.below h25.out hb65).1.below hb).1.da.b⟩
end Wi
end Rg
end Go.Proofs.YtmcpagjhpfbpgaaGreatDoor
end
section
namespace Go.Proofs.YtmcpagjhpfbpgaaGreatDoor
open Go.RowKit
namespace Rg
namespace Wi
set_option maxRecDepth 100000
theorem nu_kv:Nu bkv:=⟨fun m n hm hn hne=>(by decide +kernel:∀ m,m<32→∀ n,n<32→m≠n→zP bkv m≠zP bkv n) m hm n hn hne,by decide +kernel,by decide +kernel,by decide +kernel⟩
theorem nm_kv:∀ m,m<32→nmd (zP bkv m)=true:=by decide +kernel
abbrev Cnt:=ByteArray→Option (List Nat)
def Bl (B:Cnt):Prop:=∀ k v,B k=some v→0<k.size∧k.size≤128∧v.length≤200
theorem bl_cput {B:Cnt} (h:Bl B) {c:Ch} (hc:c.ok) (hv:c.v.length≤200):Bl (cput B c):=fun k v hk=>by
 unfold cput at hk
 split at hk
 ·rename_i e
  split at hk
  ·cases hk
  ·obtain rfl:=Option.some.inj hk
   rw[e]
   exact⟨hc.1,hc.2.1,hv⟩
 ·exact h k v hk
theorem bl_cdo:∀ (l:List Ch) {B:Cnt},Bl B→(∀ c∈l,c.ok∧c.v.length≤200)→Bl (cdo B l)
 | [],_,h,_=>h
 | c :: r,_,h,hl=>bl_cdo r (bl_cput h (hl c (List.mem_cons_self ..)).1 (hl c (List.mem_cons_self ..)).2) fun x hx=>hl x (List.mem_cons_of_mem _ hx)
theorem bl_bok {B:Cnt} {N n:Nat} (h:Bl B) (hn:∀ ks,Kys B ks→ks.length≤N) (hN:N≤300):Bok n B 300:=by
 refine⟨fun k hk => ?_,fun k v hk=>Nat.le_trans (h k v hk).2.2 (by decide),by decide,fun ks hks => ?_⟩
 ·obtain⟨v,hv⟩:=Option.isSome_iff_exists.1 hk
  exact⟨(h k v hv).1,(h k v hv).2.1⟩
 ·have hp:∀ k∈ks,(pbd B k).length≤400:=fun k hk=>by
   obtain⟨s,e,hs⟩:=(hks.2.2 k).1 hk
   obtain⟨v,hv⟩:=Option.isSome_iff_exists.1 hs
   have h1:=h s v hv
   unfold pbd
   rw[e,show (⟨s.data.toList.toArray⟩:ByteArray)=s from rfl,hv]
   unfold wf wfs
   simp[wn_len,kb_len]
   omega
  have hr:∀ r∈ckl n B ks,r.length≤400:=fun r hr=>by
   rcases List.mem_cons.1 hr with e | e
   ·rw[e,wn_len];omega
   ·obtain⟨k,hk,rfl⟩:=List.mem_map.1 e
    exact hp k hk
  have hfl:∀ l:List (List Nat),(∀ r∈l,r.length≤400)→(fl l).length≤412*l.length:=fun l=>by
   induction l with
   | nil=>intro _;simp[fl]
   | cons x r ih =>
    intro hx
    have i1:=ih fun y hy=>hx y (List.mem_cons_of_mem _ hy)
    have i2:=hx x (List.mem_cons_self ..)
    rw[fl_cons,List.length_append,fr_len,List.length_cons]
    omega
  have h1:=hn ks hks
  refine⟨by omega,fun r h2=>Nat.le_trans (hr r h2) (by decide),?_⟩
  have h2:=hfl _ hr
  have h3:(ckl n B ks).length=ks.length+1:=by simp[ckl]
  omega
theorem rsum_le (C:Nat→Cq):∀ m,(∀ i,i<m→(C i).k.size+(C i).q.n≤200)→rsum C m≤4+213*m
 | 0,_=>Nat.le_refl _
 | m+1,h=>by
  have h1:=rsum_le C m fun i hi=>h i (by omega)
  have h2:=h m (by omega)
  rw[rsum_step]
  omega
theorem chl_mem {C:Nat→Cq} {m:Nat} {c:Ch} (h:c∈chl C m):∃ i,i<m∧c=(C i).ch:=by
 unfold chl at h
 obtain⟨i,h1,rfl⟩:=List.mem_map.1 h
 exact⟨i,List.mem_range.1 h1,rfl⟩
theorem chl_ok {C:Nat→Cq} {m:Nat} (hf:ferr C m=0) (h2:∀ i,i<m→(C i).k.size+(C i).q.n≤200):∀ c∈chl C m,c.ok∧c.v.length≤200:=fun c hc=>by
 obtain⟨i,hi,rfl⟩:=chl_mem hc
 have h1:=fit_b (ferr_fit C hf i hi)
 have h3:=h2 i hi
 refine⟨⟨h1.2.2.1,h1.1,by show (bs _ _).length≤_;rw[bs_len];exact h1.2.1,fun e => ?_⟩,by show (bs _ _).length≤_;rw[bs_len];omega⟩
 show bs _ _=[]
 rw[h1.2.2.2 e]
 rfl
structure Ci (w:World) (rf:Nat→Bool) (d g i safe:Nat) (va:Value) (j mv:Nat) (A:Ad) (n:Nat) (B0:Cnt) (rs:List (List Ch)) (a:Nat) (hs:List Cnt) (LE:List Nat) (N:Nat) (u:World):Prop where
 so:So w d A g j mv bkv (zP bkv n) (n:Int) (1048576+70000*i) (rs.foldl cdo B0) N (vbl va++LE) u
 st:Stm A bkv n B0 rs a
 rfe:A.rf=rf
 kk:A.k≤7*i
 ob:Ob A (2*i)
 nn:n≤i
 rl:rs.length≤i
 ro:∀ l∈rs,l.length≤64∧(∀ c∈l,c.ok)∧(rc l).length≤2200
 rn:(fl (rs.map rc)).length≤1048576
 NN:N≤10*i
 b0:Bok n B0 300
 bl:Bl (rs.foldl cdo B0)
 ah:Hst w va hs LE u
 hh:∃ h0,hs.length=h0+rs.length+1∧safe≤h0+a∧∀ m,m≤rs.length→hs[h0+m]?=some ((rs.take m).foldl cdo B0)
 hk:hs.length≤i+1
 hb:∀ B∈hs,∀ ks,Kys B ks→ks.length≤1000
section
variable {w u u':World} {rf:Nat→Bool} {d g i safe j mv n a N:Nat} {va:Value} {A A':Ad} {B0:Cnt} {rs:List (List Ch)} {hs:List Cnt} {LE:List Nat}
theorem Ci.below (h:Ci w rf d g i safe va j mv A n B0 rs a hs LE N u) (hb:Below u.heap.size u u'):Ci w rf d g i safe va j mv A n B0 rs a hs LE N u' :=
 ⟨(h.so.below hb).1,h.st,h.rfe,h.kk,h.ob,h.nn,h.rl,h.ro,h.rn,h.NN,h.b0,h.bl,h.ah.kx (h.so.below hb).2,h.hh,h.hk,h.hb⟩
theorem Ci.next (h:Ci w rf d g i safe va j mv A n B0 rs a hs LE N u):Ci w rf d g (i+1) safe va j mv A n B0 rs a hs LE N u :=
 ⟨h.so.mono (by omega) (Nat.le_refl _),h.st,h.rfe,by have:=h.kk;omega,h.ob.mono (by omega),by have:=h.nn;omega,by have:=h.rl;omega,h.ro,h.rn,by have:=h.NN;omega,h.b0,h.bl,h.ah,h.hh,by have:=h.hk;omega,h.hb⟩
theorem Ci.bad (h:Ci w rf d g i safe va j mv A n B0 rs a hs LE N u) (p:Option Addr) (gl o m c:Nat) (C:Nat→Cq) (hm:m≤64) (hcl:Cl p gl o m C u) (hf:¬ferr C m=0) :
  Calls Tryz.prog 13 #[PT g 0,.slice p m c] u fun e u'=>e=.returned (.int .i64 (ferr C m))∧Ci w rf d g (i+1) safe va j mv A n B0 rs a hs LE N u' :=
 (h.so.cbad c hm hcl hf).mono fun _ _ hh=>⟨hh.1,(h.below hh.2).next⟩
structure Co (w:World) (rf:Nat→Bool) (d g i safe:Nat) (va:Value) (j mv:Nat) (A:Ad) (n:Nat) (B0:Cnt) (rs:List (List Ch)) (a:Nat) (hs:List Cnt) (LE:List Nat) (N:Nat) (u:World):Prop where
 so:So w d A g j mv bkv (zP bkv n) (n:Int) (1048576+70000*i) (rs.foldl cdo B0) N (vbl va++LE) u
 st:Stm A bkv n B0 rs a
 rfe:A.rf=rf
 kk:A.k≤7*i
 ob:Ob A (2*i)
 nn:n≤i
 rl:rs.length≤i
 ro:∀ l∈rs,l.length≤64∧(∀ c∈l,c.ok)∧(rc l).length≤2200
 rn:(fl (rs.map rc)).length≤1048576
 NN:N≤10*i
 b0:Bok n B0 300
 bl:Bl (rs.foldl cdo B0)
 ah:Hst w va hs LE u
 hh:∃ h0,hs.length=h0+rs.length∧safe≤h0+a∧∀ m,m<rs.length→hs[h0+m]?=some ((rs.take m).foldl cdo B0)
 hk:hs.length≤i
 hb:∀ B∈hs,∀ ks,Kys B ks→ks.length≤1000
theorem Ci.commit (h:Ci w rf d g i safe va j mv A n B0 rs a hs LE N u) (hi:i<30) (p:Option Addr) (gl o m c:Nat) (C:Nat→Cq) (hm:m≤10) (hcl:Cl p gl o m C u) (hgl:0<m→gl<w.heap.size) (hq:∀ k,k<m→Pq (C k).q u∧∀ x∈gbl (C k).q,x<w.heap.size) (hf:ferr C m=0) (hsz:∀ k,k<m→(C k).k.size+(C k).q.n≤200) (r:Int) (A':Ad) (ha:A.app (zP bkv n) (fr (rc (chl C m)))=(r,A')) :
  Calls Tryz.prog 13 #[PT g 0,.slice p m c] u fun e u'=>e=.returned (.int .i64 r)∧(r≠0→Ci w rf d g (i+1) safe va j mv A' n B0 rs a hs LE (N+m) u')∧(r=0→Co w rf d g (i+1) safe va j mv A' n B0 (rs++[chl C m]) a hs LE (N+m) u'):=by
 have hn:=h.nn
 have hN:=h.NN
 have hk:=h.kk
 have hrl:=h.rl
 have hhk:=h.hk
 have hrs:=rsum_le C m hsz
 refine(h.so.commit c (by omega) ⟨hcl,fun h0=>.inr (hgl h0),fun k hk=>(hq k hk).1,fun k hk x hx=>.inr ((hq k hk).2 x hx)⟩ hf (by omega) (by omega) (by omega) (fun f hf=>by have:=h.ob f hf;omega) (nlog_sz (by decide) n) (by omega) r A' ha).mono ?_
 rintro e u' ⟨rfl,e2,e3⟩
 have hkA:=k_app A (zP bkv n) (fr (rc (chl C m)))
 have hrA:(A.app (zP bkv n) (fr (rc (chl C m)))).2.rf=A.rf:=rf_app
 have hoA:Ob (A.app (zP bkv n) (fr (rc (chl C m)))).2 (2*i+1):=ob_app h.ob
 rw[ha] at hkA hrA hoA
 dsimp only at hkA hrA hoA
 refine⟨rfl,fun hr => ?_,fun hr => ?_⟩
 ·rw[if_neg hr] at e2
  have ht:=app_err A (zP bkv n) (fr (rc (chl C m))) (by rw[ha];exact hr)
  rw[ha] at ht
  dsimp only at ht
  exact⟨e2.mono (by omega) (Nat.le_refl _),h.st.to fun x=>by rw[ht];rfl,hrA.trans h.rfe,by omega,hoA.mono (by omega),by omega,by omega,h.ro,h.rn,by omega,h.b0,h.bl,h.ah.kx e3,h.hh,by omega,h.hb⟩
 ·rw[if_pos hr,bdo_cdo] at e2
  have h0:(A.app (zP bkv n) (fr (rc (chl C m)))).1=0:=by rw[ha];exact hr
  obtain⟨s1,s2⟩:=h.st.app nu_kv (by omega) (chl C m) h0
  rw[ha] at s1
  have hB:(rs++[chl C m]).foldl cdo B0=cdo (rs.foldl cdo B0) (chl C m):=by rw[List.foldl_append];rfl
  have hok:=chl_ok hf hsz
  obtain⟨h0',g1,g2,g3⟩:=h.hh
  refine⟨by rw[hB];exact e2.mono (by omega) (Nat.le_refl _),s1,hrA.trans h.rfe,by omega,hoA.mono (by omega),by omega,by rw[List.length_append];simp;omega,fun l hl => ?_,s2,by omega,h.b0,by rw[hB];exact bl_cdo _ h.bl hok,h.ah.kx e3,⟨h0',by rw[List.length_append];simp;omega,g2,fun x hx => ?_⟩,by omega,h.hb⟩
  ·rcases List.mem_append.1 hl with e | e
   ·exact h.ro l e
   ·rw[List.mem_singleton.1 e,chl_len]
    refine⟨by omega,fun c hc=>(hok c hc).1,Nat.le_trans (rc_len C m) (by omega)⟩
  ·rw[List.length_append] at hx
   have hx:x≤rs.length:=by simpa using Nat.le_of_lt_succ hx
   rw[List.take_append_of_le_length hx]
   exact g3 x hx
theorem Co.note (h:Co w rf d g i safe va j mv A n B0 rs a hs LE N u) (hi:i≤30) (hr:rs≠[]) (x:Value) (LN:List Nat) (h1:x.oneCell'=true) (u2:World) (hb:Below u.heap.size u u2) (hx:Ael (rs.foldl cdo B0) x LN u2) (hn:∀ y∈LN,u.heap.size≤y∧y<u2.heap.size) (ty:TypeId) :
  ∃ v' u3,(Builtin.append_ #[77,77] ty #[va,.slice (some ⟨u2.heap.size,0,none⟩) 1 1]).run Tryz.prog (u2.alloc (.cells #[x] 54))=.ok v' u3∧Ci w rf d g i safe v' j mv A n B0 rs a (hs++[rs.foldl cdo B0]) (LE++LN) N u3:=by
 have hb3:=be1 u2 (.cells #[x] 54)
 have hbw:=hb.trans (hb3.mono hb.size)
 have hc:=al_new u2 #[x] 54 0 x rfl
 have hz:u2.heap.size≤(u2.alloc (.cells #[x] 54)).heap.size:=hb3.size
 generalize u2.alloc (.cells #[x] 54)=u3 at hb3 hbw hc hz
 obtain⟨t1,t2⟩:=h.so.below hbw
 have ha:=h.ah.kx t2
 have hlt0:=h.ah.lt
 have hvl:=h.ah.vlt
 have hkx:Kx LN u2 u3:=⟨hb3.size,fun y hy=>hb3.block y (hn y hy).2⟩
 obtain⟨v',u4,r1,r2,r3,r4⟩:=ha.app (by have:=h.hk;omega) t1.da.b.size (LF:=LE++LN) ((hx.kx hkx fun y hy=>hy).wide fun y hy=>List.mem_append_right _ hy) (fun y hy=>List.mem_append_left _ hy) (fun y hy hm=>by
  rcases List.mem_append.1 hy with e | e
  ·exact h.ah.ap y e hm
  ·have:=(hn y e).1
   have:=(hvl y hm).2
   omega) (fun y hy=>by
  rcases List.mem_append.1 hy with e | e
  ·exact Nat.lt_of_lt_of_le (hlt0 y e) hbw.size
  ·exact Nat.lt_of_lt_of_le (hn y e).2 hz) h1 hc ty
 obtain⟨h0,g1,g2,g3⟩:=h.hh
 have hrl:0<rs.length:=List.length_pos_iff.2 hr
 have t3:So w d A g j mv bkv (zP bkv n) (n:Int) (1048576+70000*i) (rs.foldl cdo B0) N (LN++(vbl va++LE)) u3:=(h.so.more hb hn |>.below hb3).1
 refine⟨v',u4,r1,⟨t3.chg r3 (fun y hy=>List.mem_append_right _ (List.mem_append_left _ hy)) (fun y hy=>(ha.vlt y hy).1) (fun y hy => ?_),h.st,h.rfe,h.kk,h.ob,h.nn,h.rl,h.ro,h.rn,h.NN,h.b0,h.bl,r2,⟨h0,by rw[List.length_append,g1];rfl,g2,fun m hm => ?_⟩,by rw[List.length_append];have:=h.hk;simp;omega,fun B hB ks hks => ?_⟩⟩
 ·rcases List.mem_append.1 hy with e | e
  ·exact(r4 y e).imp (fun e=>List.mem_append_right _ (List.mem_append_left _ e)) id
  ·rcases List.mem_append.1 e with e | e
   ·exact .inl (List.mem_append_right _ (List.mem_append_right _ e))
   ·exact .inl (List.mem_append_left _ e)
 ·by_cases hlt:m<rs.length
  ·rw[List.getElem?_append_left (by omega)]
   exact g3 m hlt
  ·obtain rfl:m=rs.length:=by omega
   rw[List.getElem?_append_right (by omega),show h0+rs.length - hs.length=0 by omega,List.take_length]
   rfl
 ·rcases List.mem_append.1 hB with e | e
  ·exact h.hb B e ks hks
  ·rw[List.mem_singleton.1 e] at hks
   obtain⟨k2,e1,e2⟩:=h.so.kys
   rw[Kys.uniq hks e1]
   have:=h.NN
   omega
theorem Ci.sync (h:Ci w rf d g i safe va j mv A n B0 rs a hs LE N u) (hi:i<30) (r:Int) (A':Ad) (ha:A.jsy (zP bkv n)=(r,A')) :
  Calls Tryz.prog 14 #[PT g 0] u fun e u'=>e=.returned (.int .i64 r)∧(r≠0→Ci w rf d g (i+1) safe va j mv A' n B0 rs a hs LE N u')∧(r=0→Ci w rf d g (i+1) (hs.length - 1) va j mv A' n B0 rs rs.length hs LE N u'):=by
 have hn:=h.nn
 have hN:=h.NN
 have hk:=h.kk
 have hrl:=h.rl
 have hhk:=h.hk
 refine(h.so.sync (by omega) (nlog_sz (by decide) n) r A' ha).mono ?_
 rintro e u' ⟨rfl,e2,e3⟩
 have hkA:=jsy_k A (zP bkv n)
 have hrA:(A.jsy (zP bkv n)).2.rf=A.rf:=rf_jsy
 have hoA:Ob (A.jsy (zP bkv n)).2 (2*i):=ob_jsy h.ob
 rw[ha] at hkA hrA hoA
 dsimp only at hkA hrA hoA
 refine⟨rfl,fun hr => ?_,fun hr => ?_⟩
 ·have ht:=jsy_err (A:=A) (s:=zP bkv n) (by rw[ha];exact hr)
  rw[ha] at ht
  dsimp only at ht
  exact⟨e2.mono (by omega) (Nat.le_refl _),h.st.to fun x=>by rw[ht];rfl,hrA.trans h.rfe,by omega,hoA.mono (by omega),by omega,by omega,h.ro,h.rn,by omega,h.b0,h.bl,h.ah.kx e3,h.hh,by omega,h.hb⟩
 ·have h0:(A.jsy (zP bkv n)).1=0:=by rw[ha];exact hr
  have s1:=h.st.sync nu_kv (by omega) h0
  rw[ha] at s1
  obtain⟨h0',g1,g2,g3⟩:=h.hh
  exact⟨e2.mono (by omega) (Nat.le_refl _),s1,hrA.trans h.rfe,by omega,hoA.mono (by omega),by omega,by omega,h.ro,h.rn,by omega,h.b0,h.bl,h.ah.kx e3,⟨h0',g1,by omega,g3⟩,by omega,h.hb⟩
theorem Ci.chk (h:Ci w rf d g i safe va j mv A n B0 rs a hs LE N u) (hi:i<30):∃ r A' ks,A.rep bkv (n+1) (fl (ckl (n+1) (rs.foldl cdo B0) ks))=(r,A') ∧
  Calls Tryz.prog 15 #[PT g 0] u fun e u'=>e=.returned (.int .i64 r)∧(r≠0→Ci w rf d g (i+1) safe va j mv A' n B0 rs a hs LE N u')∧(r=0→∃ j',Ci w rf d g (i+1) (hs.length - 1) va j' mv (A'.rma (zP bkv n)).2 (n+1) (rs.foldl cdo B0) [] 0 hs LE N u'):=by
 have hn:=h.nn
 have hN:=h.NN
 have hk:=h.kk
 have hrl:=h.rl
 have hhk:=h.hk
 obtain⟨ks,hks,hkl⟩:=h.so.kys
 have hun:∀ k2,Kys (rs.foldl cdo B0) k2→k2.length≤N:=fun k2 h2=>by rw[Kys.uniq h2 hks];exact hkl
 have hbk:Bok (n+1) (rs.foldl cdo B0) 300:=bl_bok h.bl hun (by omega)
 refine⟨(A.rep bkv (n+1) (fl (ckl (n+1) (rs.foldl cdo B0) ks))).1,(A.rep bkv (n+1) (fl (ckl (n+1) (rs.foldl cdo B0) ks))).2,ks,rfl,?_⟩
 have hkA:=k_rep A bkv (n+1) (fl (ckl (n+1) (rs.foldl cdo B0) ks))
 have hrA:(A.rep bkv (n+1) (fl (ckl (n+1) (rs.foldl cdo B0) ks))).2.rf=A.rf:=rf_rep
 have hoA:Ob (A.rep bkv (n+1) (fl (ckl (n+1) (rs.foldl cdo B0) ks))).2 (2*i+1):=ob_rep h.ob
 refine(So.check n h.so (by omega) (fun f hf=>by have:=h.ob f hf;omega) (by decide) (by omega) (nm_kv _ (by omega)) sn_ok (by omega) (fun k hk=>(hbk.kl k hk).2) ks hks (hbk.ks ks hks).2.2 (A.rep bkv (n+1) (fl (ckl (n+1) (rs.foldl cdo B0) ks))).1 (A.rep bkv (n+1) (fl (ckl (n+1) (rs.foldl cdo B0) ks))).2 rfl).mono ?_
 rintro e u' ⟨rfl,e1,e2,e3⟩
 refine⟨rfl,fun hr0 => ?_,fun hr0 => ?_⟩
 ·have s1:=h.st.bad nu_kv (by omega) _ hr0
  exact⟨(e3 hr0).mono (by omega) (Nat.le_refl _),s1,hrA.trans h.rfe,by omega,hoA.mono (by omega),by omega,by omega,h.ro,h.rn,by omega,h.b0,h.bl,h.ah.kx e1,h.hh,by omega,h.hb⟩
 ·obtain⟨j',e4⟩:=e2 hr0
  have s1:=h.st.chk nu_kv (by omega) ks hks hr0
  have hk2:=k_rma (A.rep bkv (n+1) (fl (ckl (n+1) (rs.foldl cdo B0) ks))).2 (zP bkv n)
  obtain⟨h0',g1,g2,g3⟩:=h.hh
  refine⟨j',e4.mono (by omega) (Nat.le_refl _),s1,rf_rma.trans (hrA.trans h.rfe),by omega,(ob_rma hoA).mono (by omega),by omega,Nat.zero_le _,fun l hl=>(by cases hl),by decide,by omega,hbk,h.bl,h.ah.kx e1,⟨hs.length - 1,by simp;omega,by omega,fun m hm => ?_⟩,by omega,h.hb⟩
  have hm:m=0:=by simpa using hm
  subst hm
  have:=g3 rs.length (Nat.le_refl _)
  rw[List.take_length] at this
  rw[show hs.length - 1+0=h0'+rs.length by omega,this]
  rfl
end
end Wi
end Rg
end Go.Proofs.YtmcpagjhpfbpgaaGreatDoor
end
