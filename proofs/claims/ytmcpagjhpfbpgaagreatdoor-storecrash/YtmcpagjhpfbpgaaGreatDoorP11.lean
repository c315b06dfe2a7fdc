/- Texts of the proof, joined. -/
import Derived.Test.YtmcpagjhpfbpgaaGreatDoorP10
import Derived.ProofKit
import Derived.OpenShut
import Derived.ChangeSlices
import Derived.ChangeMaps5
import Derived.ChangeOld
import Derived.Test.YtmcpagjhpfbpgaaGreatDoorRows
set_option maxRecDepth 100000
set_option maxHeartbeats 8000000
section
namespace Go.Proofs.YtmcpagjhpfbpgaaGreatDoor
open Go.RowKit
namespace Rg
namespace Wi
set_option maxRecDepth 100000
structure Stp (p:Option Addr) (g o m:Nat) (kd:Nat→Int) (sp:Nat→Option Addr) (sg so sm sc:Nat→Nat) (C:Nat→Nat→Cq) (w:World):Prop where
 p:0<m→p=some ⟨g,o,none⟩
 lt:0<m→g<w.heap.size
 a0:∀ i,i<m→w.cell? ⟨g,o+i*2,none⟩=some (.int .u8 (kd i))
 a1:∀ i,i<m→w.cell? ⟨g,o+i*2+1,none⟩=some (.slice (sp i) (sm i) (sc i))
 cl:∀ i,i<m→Cl (sp i) (sg i) (so i) (sm i) (C i) w
 pq:∀ i,i<m→∀ k,k<sm i→Pq (C i k).q w∧∀ x∈gbl (C i k).q,x<w.heap.size
theorem Stp.below {p:Option Addr} {g o m:Nat} {kd:Nat→Int} {sp:Nat→Option Addr} {sg so sm sc:Nat→Nat} {C:Nat→Nat→Cq} {w u:World} (h:Stp p g o m kd sp sg so sm sc C w) (hb:Below w.heap.size w u):Stp p g o m kd sp sg so sm sc C u :=
 ⟨h.p,fun h0=>Nat.lt_of_lt_of_le (h.lt h0) hb.size,fun i hi=>(hb.cell (p:=⟨g,_,none⟩) (h.lt (by omega))).trans (h.a0 i hi),fun i hi=>(hb.cell (p:=⟨g,_,none⟩) (h.lt (by omega))).trans (h.a1 i hi),fun i hi=>(h.cl i hi).below hb,fun i hi k hk=>⟨Pq.below (h.pq i hi k hk).1 hb,fun x hx=>Nat.lt_of_lt_of_le ((h.pq i hi k hk).2 x hx) hb.size⟩⟩
theorem Kps.mono {n m:Nat} {W:World} {sv:Value} {len:Nat} {zs:Nat→Kv} (h:n≤m):Kps n W sv len zs→Kps m W sv len zs
 | .inl e=>.inl e
 | .inr ⟨b,off,cap,e,hb,hc⟩=>.inr ⟨b,off,cap,e,Nat.lt_of_lt_of_le hb h,hc⟩
section
variable {w u u':World} {d g j mv N n nb:Nat} {A A':Ad} {rf:Nat→Bool} {base s:ByteArray} {G:Int} {B:Cnt} {L0:List Nat}
theorem So.keep (h:So w d A g j mv base s G nb B N L0 u):∃ L,(∀ x∈L0,x∈L)∧Da w d A L u∧∀ u',Da w d A L u'→Kx L u u'→So w d A g j mv base s G nb B N L0 u':=by
 obtain⟨⟨O,h1⟩,h2,⟨c,z,h3,h4,h5⟩,h6,h7⟩:=h
 refine⟨O++(j :: L0),fun x hx=>List.mem_append_right _ (List.mem_cons_of_mem _ hx),h1.da,fun u' hd hk => ?_⟩
 have hbo:∀ x∈O,u'.heap[x]?=u.heap[x]?:=fun x hx=>hk.2 x (List.mem_append_left _ hx)
 have hg:∀ k,u'.cell? ⟨g,k,none⟩=u.cell? ⟨g,k,none⟩:=fun k=>World.cell?_of_block (a:=⟨g,k,none⟩) (hbo g h1.og)
 exact⟨⟨O,hd,(hg 0).trans h1.c0,(hg 1).trans h1.c1,(hg 3).trans h1.c3,(hg 4).trans h1.c4,fun k=>(World.frozen?_of_block (hbo g h1.og)).trans (h1.fz k),h1.vb.keep (hbo mv h1.om) hbo,h1.lo,h1.og,h1.om,h1.gm,h1.ap⟩,(hg 2).trans h2,⟨c,z,h3,h4,Mm.keep1 h5 hk.1 (hk.2 j (List.mem_append_right _ (List.mem_cons_self ..)))⟩,h6,h7⟩
theorem bok0:Bok 0 (fun _=>none) 0:=by
 have hk0:Kys (fun _=>none:Cnt) []:=⟨List.Pairwise.nil,List.Pairwise.nil,fun k=>by simp⟩
 refine⟨fun k hk=>by simp at hk,fun k v hk=>(by cases hk),by decide,fun ks hks => ?_⟩
 obtain rfl:=Kys.uniq hks hk0
 exact⟨Nat.le_refl _,fun r hr=>(by rcases List.mem_cons.1 hr with e | e;(rw[e,wn_len];decide);(cases e)),by decide⟩
theorem jop_nil (A:Ad) (s:ByteArray) (k:Nat):A.jop s k 0=(0,A):=by unfold Ad.jop;rw[if_pos rfl]
theorem Hst.at {v:Value} {hs:List Cnt} {LE:List Nat} (h:Hst w v hs LE u) {k:Nat} {B:Cnt} (hk:hs[k]?=some B):∃ gv cp x,v=.slice (some ⟨gv,0,none⟩) hs.length cp∧u.cell? ⟨gv,k,none⟩=some x∧Ael B x LE u∧gv<u.heap.size∧w.heap.size≤gv:=by
 obtain⟨xs,h1,h2⟩:=h.own
 obtain⟨x,e1,e2⟩:=h2 k B hk
 have hl:k<hs.length:=(List.getElem?_eq_some_iff.1 hk).1
 obtain⟨gv,cp,e3⟩:∃ gv cp,v=.slice (some ⟨gv,0,none⟩) hs.length cp:=by
  rcases h1.2 with e | ⟨gv,cp,cur,e,_⟩
  ·omega
  ·exact⟨gv,cp,e⟩
 subst e3
 have e4:=h1.cellAt k (by omega)
 have e5:=h.vlt gv (by simp[vbl,Value.ownBlock])
 exact⟨gv,cp,x,rfl,e4.trans e1,e2,e5.2,e5.1⟩
theorem Hst.form {v:Value} {hs:List Cnt} {LE:List Nat} (h:Hst w v hs LE u) (h0:0<hs.length):∃ gv cp,v=.slice (some ⟨gv,0,none⟩) hs.length cp:=by
 obtain⟨xs,h1,_⟩:=h.own
 rcases h1.2 with e | ⟨gv,cp,cur,e,_⟩
 ·omega
 ·exact⟨gv,cp,e⟩
theorem Ael.form {B:Cnt} {x:Value} {LE:List Nat} (h:Ael B x LE u):∃ p l c,x=.slice p l c:=by
 obtain⟨p,g,c,ks,P,e,_⟩:=h
 exact⟨p,_,c,e⟩
theorem Ci.start {mv j:Nat} (h:So w d ⟨0,[],rf⟩ g j mv bkv (zP bkv 0) ((0:Nat):Int) 1048576 (fun _=>none) 0 [] u):Ci w rf d g 0 0 (.slice (some ⟨u.heap.size,0,none⟩) 1 1) j mv ⟨0,[],rf⟩ 0 (fun _=>none) [] 0 [fun _=>none] [] 0 (u.alloc (.cells #[.slice none 0 0] 54)):=by
 have hb:Below u.heap.size u (u.alloc (.cells #[.slice none 0 0] 54)):=(Below.refl _ u).alloc (Nat.le_refl _) _
 have hk0:Kys (fun _=>none:Cnt) []:=⟨List.Pairwise.nil,List.Pairwise.nil,fun k=>by simp⟩
 refine⟨h.more hb (M:=[u.heap.size]) (fun x hx=>by rw[List.mem_singleton.1 hx];simp),Stm.start bkv rf,rfl,Nat.le_refl 0,(fun f hf=>by cases hf),by decide,by decide,(fun l hl=>by cases hl),by decide,by decide,?_,(fun k v hk=>by cases hk),⟨⟨[.slice none 0 0],?_,fun k B hk => ?_⟩,(fun x hx=>by cases hx),(fun x hx=>by cases hx)⟩,⟨0,rfl,Nat.zero_le _,fun m hm => ?_⟩,by decide,fun B hB ks hks => ?_⟩
 ·exact bl_bok (N:=0) (fun k v hk=>by cases hk) (fun ks hks=>by rw[Kys.uniq hks hk0];exact Nat.le_refl _) (by decide)
 ·exact(World.ownsRow_lit u #[.slice none 0 0] 1 (base:=w.heap.size) (e:=54) (size:=1) h.da.b.size (by decide) rfl)
 ·rcases k with _ | k
  ·obtain rfl:=Option.some.inj hk
   exact⟨_,rfl,none,0,0,[],fun _=>Pt8.no,rfl,hk0,⟨fun h0=>absurd h0 (Nat.lt_irrefl _),fun h0=>absurd h0 (Nat.lt_irrefl _),fun i hi=>absurd hi (Nat.not_lt_zero _),fun i hi=>absurd hi (Nat.not_lt_zero _),fun i hi=>absurd hi (Nat.not_lt_zero _)⟩,fun i hi=>absurd hi (Nat.not_lt_zero _),fun h0=>absurd h0 (Nat.lt_irrefl _),fun i hi=>absurd hi (Nat.not_lt_zero _)⟩
  ·cases hk
 ·obtain rfl:m=0:=Nat.le_zero.1 hm
  rfl
 ·rw[List.mem_singleton.1 hB] at hks
  rw[Kys.uniq hks hk0]
  decide
theorem sopen0 (h:Da w d ⟨0,[],rf⟩ [] u):Calls Tryz.prog 19 #[PT d 0,.string bkv] u fun e u'=>∃ g j mv,e=.returned (.tuple #[PT g 0,.int .i64 0])∧Ci w rf d g 0 0 (.slice (some ⟨u'.heap.size,0,none⟩) 1 1) j mv ⟨0,[],rf⟩ 0 (fun _=>none) [] 0 [fun _=>none] [] 0 (u'.alloc (.cells #[.slice none 0 0] 54)):=by
 refine(sopen_t h (show 0<_ by decide) (fun f hf=>by cases hf) bkv (by decide +kernel) (by decide +kernel) 0 (by decide) (nm_kv 0 (by decide)) (fun _=>none) (Stm.start bkv rf).ck 0 bok0 [] (fun l hl=>by cases hl) [] rfl (.inl rfl) (by decide) (by decide) 0 ⟨0,[],rf⟩ (jop_nil _ _ _)).mono ?_
 rintro e u' ⟨_,hh⟩
 obtain⟨g,j,mv,rfl,hso,_⟩:=hh rfl
 exact⟨g,j,mv,rfl,Ci.start hso⟩
theorem fl_le:∀ {rs:List (List Ch)} {c:Nat},(∀ l∈rs,(rc l).length≤c)→(fl (rs.map rc)).length≤(c+12)*rs.length
 | [],_,_=>by simp[fl]
 | x :: r,c,h=>by
  have i1:=fl_le (rs:=r) (c:=c) fun y hy=>h y (List.mem_cons_of_mem _ hy)
  have i2:=h x (List.mem_cons_self ..)
  rw[List.map_cons,fl_cons,List.length_append,fr_len,List.length_cons,Nat.mul_add]
  omega
structure Fxs (n:Nat) (B0:Cnt) (rs:List (List Ch)):Prop where
 nn:n≤30
 rl:rs.length≤30
 ro:∀ l∈rs,l.length≤64∧(∀ c∈l,c.ok)∧(rc l).length≤2200
 b0:Bok n B0 300
theorem kl_cput {B:Cnt} (h:∀ k,(B k).isSome=true→k.size≤128) {c:Ch} (hc:c.ok):∀ k,(cput B c k).isSome=true→k.size≤128:=fun k hk=>by
 unfold cput at hk
 split at hk
 ·rename_i e
  rw[e]
  exact hc.2.1
 ·exact h k hk
theorem kl_cdo:∀ (l:List Ch) {B:Cnt},(∀ k,(B k).isSome=true→k.size≤128)→(∀ c∈l,c.ok)→∀ k,(cdo B l k).isSome=true→k.size≤128
 | [],_,h,_=>h
 | c :: r,_,h,hl=>kl_cdo r (kl_cput h (hl c (List.mem_cons_self ..))) fun x hx=>hl x (List.mem_cons_of_mem _ hx)
theorem kl_all:∀ (rs:List (List Ch)) {B:Cnt},(∀ k,(B k).isSome=true→k.size≤128)→(∀ l∈rs,∀ c∈l,c.ok)→∀ k,(rs.foldl cdo B k).isSome=true→k.size≤128
 | [],_,h,_=>h
 | l :: r,_,h,hl=>kl_all r (kl_cdo l h (hl l (List.mem_cons_self ..))) fun x hx=>hl x (List.mem_cons_of_mem _ hx)
theorem Fxs.kl {n:Nat} {B0:Cnt} {rs:List (List Ch)} (h:Fxs n B0 rs):∀ k,(rs.foldl cdo B0 k).isSome=true→k.size≤maxLen:=fun k hk =>
 Nat.le_trans (kl_all rs (fun k hk=>(h.b0.kl k hk).2) (fun l hl=>(h.ro l hl).2.1) k hk) (by decide)
structure Tri (w:World) (rf:Nat→Bool) (d:Nat) (va:Value) (hs:List Cnt) (LE:List Nat) (n:Nat) (B0:Cnt) (rs:List (List Ch)) (x:Nat) (A:Ad) (t:List Nat) (u:World):Prop where
 da:Da w d A (vbl va++LE) u
 sc:Sc A bkv n B0 rs t
 rfe:A.rf=rf
 c:x≤cnt rf A.k
 kk:A.k≤210+2*x
 ob:Ob A x
 ah:Hst w va hs LE u
theorem torn_le {t:List Nat} (h:Torn t):t.length≤65548:=by
 rcases h with rfl | ⟨b,h1,h2,_⟩
 ·decide
 ·rw[fr_len] at h2
  omega
theorem open_any {L t:List Nat} {rs:List (List Ch)} (h:Da w d A L u) (hk:A.k≤1000) (ho:Ob A 1000) (hsc:Sc A bkv n B rs t) (hx:Fxs n B rs) (r:Int) (hA:A.jop (zP bkv n) (fl (rs.map rc)).length t.length=(r,A')) :
  Calls Tryz.prog 19 #[PT d 0,.string bkv] u fun e u'=>(r≠0→e=.returned (.tuple #[.pointer none,.int .i64 r])∧Da w d A' L u'∧Kx L u u')∧(r=0→∃ g j mv,e=.returned (.tuple #[PT g 0,.int .i64 0])∧So w d A' g j mv bkv (zP bkv n) (n:Int) 1048576 (rs.foldl cdo B) (300+64*rs.length) L u'∧Kx L u u'):=by
 have h1:=fl_le (c:=2200) fun l hl=>(hx.ro l hl).2.2
 have h2:=torn_le hsc.tn
 have h3:=hx.rl
 have h4:=hx.nn
 exact sopen_t h (by omega) (fun f hf=>by have:=ho f hf;omega) bkv (by decide +kernel) (by decide +kernel) n (by omega) (nm_kv n (by omega)) B hsc.ck 300 hx.b0 rs (fun l hl=>⟨(hx.ro l hl).1,(hx.ro l hl).2.1,Nat.le_trans (hx.ro l hl).2.2 (by decide)⟩) t hsc.ct hsc.tn (by rw[List.length_append];omega) (by omega) r A' hA
theorem Ci.cra {va:Value} {hs:List Cnt} {LE:List Nat} {rs:List (List Ch)} {i safe mv a:Nat} {B0:Cnt} (h:Ci w rf d g i safe va j mv A n B0 rs a hs LE N u) (hi:i≤30) (ka:Option Addr) (kl kc:Nat) (zs:Nat→Kv) (hkl:kl≤20) (hK:Kps u.heap.size u (.slice ka kl kc) kl zs) :
  ∃ (m:Nat) (t:List Nat) (h0:Nat) (A1:Ad),Fxs n B0 (rs.take m)∧safe≤h0+m∧h0+m<hs.length∧hs[h0+m]?=some ((rs.take m).foldl cdo B0)∧Calls Tryz.prog 22 #[PT d 0,.slice ka kl kc] u fun e u'=>e=.returned (.int .i64 0)∧Tri w rf d va hs LE n B0 (rs.take m) 0 A1 t u':=by
 have hda:=h.so.da
 obtain⟨m,t,m1,m2,hsc⟩:=h.st.crash hda.nd (fun l hl=>Nat.le_trans (h.ro l hl).2.2 (by decide)) (kof (kup (kbk kl zs) kl))
 obtain⟨h0,q1,q2,q3⟩:=h.hh
 have hnn:=h.nn
 have hrl:=h.rl
 have hkk:=h.kk
 have hre:=h.rfe
 have hlt:(rs.take m).length≤rs.length:=by rw[List.length_take];omega
 refine⟨m,t,h0,A.cra (kof (kup (kbk kl zs) kl)),⟨by omega,by omega,fun l hl=>h.ro l (List.mem_of_mem_take hl),h.b0⟩,by omega,by omega,q3 m m2,(crash_a hda ka kl kc zs (by omega) hK).mono ?_⟩
 rintro e u' ⟨e1,e2,e3⟩
 exact⟨e1,e2,hsc,hre,Nat.zero_le _,by show A.k≤_;omega,ob_cra _ _,h.ah.kx e3⟩
structure T2 (w:World) (d:Nat) (va:Value) (hs:List Cnt) (LE:List Nat) (n:Nat) (B0:Cnt) (rs:List (List Ch)) (A:Ad) (g j mv:Nat) (u:World):Prop where
 so:So w d A g j mv bkv (zP bkv n) (n:Int) 1048576 (rs.foldl cdo B0) (300+64*rs.length) (vbl va++LE) u
 sc:Sc A bkv n B0 rs []
 kk:A.k≤1000
 ob:Ob A 1000
 ah:Hst w va hs LE u
theorem Tri.open {va:Value} {hs:List Cnt} {LE t:List Nat} {rs:List (List Ch)} {x:Nat} (h:Tri w rf d va hs LE n B rs x A t u) (hx:Fxs n B rs) (hx60:x≤60):∃ (r:Int) (A':Ad),(r=0∨r=13)∧Calls Tryz.prog 19 #[PT d 0,.string bkv] u fun e u'=>(r=13→e=.returned (.tuple #[.pointer none,.int .i64 13])∧∃ t',Tri w rf d va hs LE n B rs (x+1) A' t' u')∧(r=0→∃ g j mv,e=.returned (.tuple #[PT g 0,.int .i64 0])∧T2 w d va hs LE n B rs A' g j mv u'):=by
 obtain⟨⟨r,A'⟩,hA⟩:∃ y:Int×Ad,A.jop (zP bkv n) (fl (rs.map rc)).length t.length=y:=⟨_,rfl⟩
 have hk:=h.kk
 have hnn:=hx.nn
 obtain⟨j1,j2,j3,j4⟩:=jop_st h.sc (fun e=>nu_kv.ls n (by omega) e.symm) r hA x h.ob
 have hc:=open_any h.da (by omega) (h.ob.mono (by omega)) h.sc hx r hA
 refine⟨r,A',?_,hc.mono ?_⟩
 ·rcases j4 with e | e
  ·exact .inl e.1
  ·exact .inr e.1
 ·rintro e u' ⟨g1,g2⟩
  refine⟨fun hr => ?_,fun hr => ?_⟩
  ·subst hr
   obtain⟨e1,e2,e3⟩:=g1 (by decide)
   rcases j4 with q | ⟨_,q2,t',q3,_⟩
   ·exact absurd q.1 (by decide)
   ·have hc2:=h.c
    have hre:=h.rfe
    rw[hre] at q2
    exact⟨e1,t',e2,q3,j1.trans hre,by omega,by omega,j3,h.ah.kx e3⟩
  ·subst hr
   obtain⟨g,j,mv,e1,e2,e3⟩:=g2 rfl
   rcases j4 with q | q
   ·exact⟨g,j,mv,e1,e2,q.2,by omega,j3.mono (by omega),h.ah.kx e3⟩
   ·exact absurd q.1 (by decide)
structure T3 (w:World) (d:Nat) (va:Value) (hs:List Cnt) (LE L:List Nat) (n:Nat) (B:Cnt) (A:Ad) (g j mv g2 j2 mv2 N:Nat) (u:World):Prop where
 s1:So w d A g j mv bkv (zP bkv n) (n:Int) 1048576 B N (vbl va++LE) u
 s2:So w d A g2 j2 mv2 bkv (zP bkv n) (n:Int) 1048576 B N L u
 ah:Hst w va hs LE u
theorem T3.below {va:Value} {hs:List Cnt} {LE L:List Nat} {mv g2 j2 mv2:Nat} (h:T3 w d va hs LE L n B A g j mv g2 j2 mv2 N u) (hb:Below u.heap.size u u'):T3 w d va hs LE L n B A g j mv g2 j2 mv2 N u' :=
 ⟨(h.s1.below hb).1,(h.s2.below hb).1,h.ah.kx (h.s1.below hb).2⟩
theorem T2.again {va:Value} {hs:List Cnt} {LE:List Nat} {rs:List (List Ch)} {mv:Nat} (h:T2 w d va hs LE n B rs A g j mv u) (hx:Fxs n B rs):Calls Tryz.prog 19 #[PT d 0,.string bkv] u fun e u'=>∃ g2 j2 mv2 L,e=.returned (.tuple #[PT g2 0,.int .i64 0])∧T3 w d va hs LE L n (rs.foldl cdo B) A g j mv g2 j2 mv2 (300+64*rs.length) u':=by
 obtain⟨L,l1,l2,l3⟩:=h.so.keep
 refine(open_any l2 h.kk h.ob h.sc hx 0 (jop_nil _ _ _)).mono ?_
 rintro e u' ⟨_,g2⟩
 obtain⟨g2,j2,mv2,e1,e2,e3⟩:=g2 rfl
 exact⟨g2,j2,mv2,L,e1,⟨l3 u' e2.da e3,e2,h.ah.kx (e3.sub l1)⟩⟩
end
end Wi
end Rg
end Go.Proofs.YtmcpagjhpfbpgaaGreatDoor
end
section
namespace Go.Proofs.YtmcpagjhpfbpgaaGreatDoor
open Go.RowKit
namespace Rg
namespace Wi
set_option maxRecDepth 100000
theorem scrash_short (pf:Option Addr) (nf cf gf of_:Nat) (F:Nat→Int) (ps:Option Addr) (ms cs gs os:Nat) (kd:Nat→Int) (sp:Nat→Option Addr) (sg so sm sc:Nat→Nat) (C:Nat→Nat→Cq) (ka:Option Addr) (kl kc:Nat) (zs:Nat→Kv) (w:World) (hp0:0<nf→pf=some ⟨gf,of_,none⟩) (hcl0:∀ i,i<nf→gf<w.heap.size∧w.cell? ⟨gf,of_+i,none⟩=some (.int .i64 (F i))∧(Lit.int .i64 (F i)).wf=true) (hS:Stp ps gs os ms kd sp sg so sm sc C w) (hK:Kps w.heap.size w (.slice ka kl kc) kl zs) (h1:nf≤60) (h2:ms≤30) (h3:kl≤20):Calls Tryz.prog 6 #[.slice pf nf cf,.slice ps ms cs,.slice ka kl kc] w (Rt w (.bool true)):=by
 have HP0:Hid _:=hp0
 have HCL:Hid _:=hcl0
 have HS:Hid _:=hS
 have HK:Hid _:=hK
 clear hp0 hcl0 hS hK
 have h1I:¬(60:Int)<(nf:Int):=by omega
 have h2I:¬(30:Int)<(ms:Int):=by omega
 have h3I:¬(20:Int)<(kl:Int):=by omega
 go_enter Tryz.func6,Tryz.ntmps6
 go_wp2_with (first
  | (go_at_call 5;refine(known15 w).mono ?_;rintro e w1 ⟨rfl,hb1⟩;have HB1:Hid _:=hb1;have HS1:Hid _:=HS.out.below hb1;clear hb1)
  | (go_at_call 8;refine(New_any pf nf cf gf of_ F (by omega) w1 HP0.out (fun i hi=>⟨Nat.lt_of_lt_of_le (HCL.out i hi).1 HB1.out.size,(HB1.out.cell (p:=⟨gf,_,none⟩) (HCL.out i hi).1).trans (HCL.out i hi).2.1,(HCL.out i hi).2.2⟩)).mono ?_;rintro e w2 ⟨d,mb,rb,rfl,hN⟩;have h0:Hid (Da w1 d ⟨0,[],rff F nf⟩ [] w2):=new_a hN;clear hN)
  | (go_at_call 19;refine(sopen0 h0.out).mono ?_;rintro e w3 ⟨g,j,mv,rfl,h3⟩;have H3:Hid _:=h3;clear h3)
  | fail)
 go_loopw [12,13,14] (fun va vs v wr=>∃ (i safe j mv n a N:Nat) (A:Ad) (B0:Cnt) (rs:List (List Ch)) (hs:List Cnt) (LE:List Nat),v=.int .i64 (i:Int)∧i≤ms∧vs=.int .i64 (safe:Int)∧Hid (Ci w1 (rff F nf) d g i safe va j mv A n B0 rs a hs LE N wr))
  (fun _ _ v _=>ms - (RowKit.intOf v).toNat)
 case atStart=>exact⟨0,0,j,mv,0,0,0,_,_,[],_,[],rfl,Nat.zero_le _,rfl,H3.out⟩
 case round =>
  clear H3 h0
  obtain⟨i,safe,j,mv,n,a,N,A,B0,rs,hs,LE,rfl,hi,rfl,HC⟩:=hrel
  have HBw:Hid (Below w1.heap.size w1 wr):=HC.out.so.da.b
  have HSw:Hid _:=HS1.out.below HBw.out
  by_cases hlt:i<ms
  ·have hltI:(i:Int)<(ms:Int):=by omega
   have hps:=HSw.out.p (by omega)
   have c1:=HSw.out.a1 i hlt
   subst hps
   by_cases h10:sm i≤10
   ·have h10I:¬(10:Int)<(sm i:Int):=by omega
    go_wp2
    go_loopw [15] (fun v wr2=>∃ k:Nat,v=.int .i64 (k:Int)∧k≤sm i∧Hid (∀ j,j<k→(C i j).fit=0→(C i j).k.size+(C i j).q.n≤200)∧Hid (Below wr.heap.size wr wr2))
     (fun v _=>sm i - (RowKit.intOf v).toNat)
    case atStart=>exact⟨0,rfl,Nat.zero_le _,fun j hj=>absurd hj (Nat.not_lt_zero _),Below.refl _ _⟩
    case round =>
     obtain⟨k,rfl,hk,hsz,hb2⟩:=hrel
     have s2:=HSw.out.below hb2.out
     have c1:=s2.a1 i hlt
     by_cases hkl:k<sm i
     ·have hklI:(k:Int)<(sm i:Int):=by omega
      have hcl:=s2.cl i hlt
      have hcp:=hcl.p (by omega)
      have e0:=hcl.a0 k hkl
      have e1:=hcl.a1 k hkl
      rw[hcp] at c1
      clear hcl hcp s2
      obtain⟨z,hz⟩:∃ z,IntKind.i64.wrap (((C i k).k.size:Int)+((C i k).q.n:Int))=z:=⟨_,rfl⟩
      by_cases h200:200<z
      ·go_wp2
       go_region
       go_wp2
       go_ret
       exact⟨rfl,zR _ _ HB1.out (zR _ _ HBw.out (hb2.out.trans ((bdn _ _).mono hb2.out.size)))⟩
      ·have hsz2:Hid (∀ j,j<k+1→(C i j).fit=0→(C i j).k.size+(C i j).q.n≤200):=fun j hj h0=>by
        by_cases e:j=k
        ·subst e
         have hf:=fit_b h0
         rw[← hz,IntKind.wrap_i64] at h200
         omega
        ·exact hsz.out j (by omega) h0
       have hb3:Hid _:=hb2.out
       go_wp2
       go_region
       go_wp2
       go_roundw
       case rel=>exact⟨k+1,by simp,by omega,hsz2.out,hb2.out.trans ((bdn _ _).mono hb2.out.size)⟩
       case measure=>simp[RowKit.intOf];omega
     ·obtain rfl:k=sm i:=by omega
      have hklI:¬((sm i:Nat):Int)<(sm i:Int):=by omega
      have a0:=s2.a0 i hlt
      have hcl:Hid _:=s2.cl i hlt
      have hpq:Hid _:=s2.pq i hlt
      have H1:Hid _:=Ci.below HC.out hb2.out
      have HSZ:Hid _:=hsz.out
      clear s2 hsz HC
      have hva:Hid _:=Hst.form H1.out.ah (by obtain⟨q,q1,_⟩:=H1.out.hh;omega)
      have hlen:Hid (1≤hs.length∧hs.length≤31):=(show 1≤hs.length∧hs.length≤31 from ⟨by obtain⟨q,q1,_⟩:=H1.out.hh;omega,by have:=H1.out.hk;omega⟩)
      by_cases h0:kd i=0
      ·rw[h0] at a0
       by_cases hf:ferr (C i) (sm i)=0
       ·obtain⟨⟨r,A'⟩,hra⟩:∃ x:Int×Ad,A.app (zP bkv n) (fr (rc (chl (C i) (sm i))))=x:=⟨_,rfl⟩
        have HF:=Ci.commit H1.out (by omega) (sp i) (sg i) (so i) (sm i) (sc i) (C i) h10 hcl.out (HS1.out.cl i hlt).lt (fun k hk=>⟨(hpq.out k hk).1,(HS1.out.pq i hlt k hk).2⟩) hf (fun k hk=>HSZ.out k hk (ferr_fit _ hf k hk)) r A' hra
        have HF:Hid _:=HF
        clear H1 hra hf hcl hpq
        by_cases hr:r=0
        ·go_wp2_with (first
          | (go_at_call 13;refine Calls.mono HF.out ?_;rintro e w5 ⟨rfl,_,hh⟩;have H5:Hid _:=hh hr;clear hh HF)
          | (go_at_call 16;refine(So.pael H5.out.so (by have:=H5.out.NN;omega) (fun k hk=>(let ⟨v,hv⟩:=Option.isSome_iff_exists.1 hk;Nat.le_trans (H5.out.bl k v hv).2.1 (by decide)))).mono ?_;rintro e w6 ⟨x,LN,rfl,hx1,hx2,hx3,hb6⟩;obtain⟨px,lx,cx,rfl⟩:=Ael.form hx2;obtain⟨v',w7,happ,h7⟩:=Co.note H5.out (by omega) (by simp) (.slice px lx cx) LN hx1 w6 hb6 hx2 hx3 77;have HA:Hid _:=happ;have H7:Hid _:=h7;clear happ h7 H5 hx2 hx3 hb6)
          | (at_builtin;refine wpl_app rfl _ _ 77 rfl _ (.slice (some ⟨w6.heap.size,0,none⟩) 1 1) v' rfl rfl HA.out ?_)
          | fail)
         go_roundw
         case rel=>exact⟨i+1,safe,j,mv,n,a,N+sm i,A',B0,_,_,_,by simp,by omega,rfl,H7.out⟩
         case measure=>simp[RowKit.intOf];omega
        ·go_wp2_with (first
          | (go_at_call 13;refine Calls.mono HF.out ?_;rintro e w5 ⟨rfl,hh,_⟩;have H5:Hid _:=hh hr;clear hh)
          | fail)
         go_roundw
         case rel=>exact⟨i+1,safe,j,mv,n,a,N+sm i,A',B0,rs,hs,LE,by simp,by omega,rfl,H5.out⟩
         case measure=>simp[RowKit.intOf];omega
       ·have HF:=Ci.bad H1.out (sp i) (sg i) (so i) (sm i) (sc i) (C i) (by omega) hcl.out hf
        have HF:Hid _:=HF
        obtain⟨r,hr⟩:∃ r,ferr (C i) (sm i)=r:=⟨_,rfl⟩
        rw[hr] at HF hf
        clear H1 hr hcl hpq
        go_wp2_with (first
         | (go_at_call 13;refine Calls.mono HF.out ?_;rintro e w5 ⟨rfl,hh⟩;have H5:Hid _:=hh;clear hh)
         | fail)
        go_roundw
        case rel=>exact⟨i+1,safe,j,mv,n,a,N,A,B0,rs,hs,LE,by simp,by omega,rfl,H5.out⟩
        case measure=>simp[RowKit.intOf];omega
      ·by_cases h1:kd i=1
       ·rw[h1] at a0
        obtain⟨⟨r,A'⟩,hra⟩:∃ x:Int×Ad,A.jsy (zP bkv n)=x:=⟨_,rfl⟩
        have HS:=Ci.sync H1.out (by omega) r A' hra
        have HS:Hid _:=HS
        clear H1 hra
        by_cases hr:r=0
        ·obtain⟨gv,cp,hv⟩:=hva.out
         subst hv
         go_wp2_with (first
          | (go_at_call 14;refine Calls.mono HS.out ?_;rintro e w5 ⟨rfl,_,hh⟩;have H5:Hid _:=hh hr;clear hh)
          | fail)
         go_roundw
         case rel=>exact⟨i+1,hs.length - 1,j,mv,n,rs.length,N,A',B0,rs,hs,LE,by simp,by omega,congrArg (Value.int .i64) (by have:=hlen.out;unfold wrap64;omega),H5.out⟩
         case measure=>simp[RowKit.intOf];omega
        ·go_wp2_with (first
          | (go_at_call 14;refine Calls.mono HS.out ?_;rintro e w5 ⟨rfl,hh,_⟩;have H5:Hid _:=hh hr;clear hh)
          | fail)
         go_roundw
         case rel=>exact⟨i+1,safe,j,mv,n,a,N,A',B0,rs,hs,LE,by simp,by omega,rfl,H5.out⟩
         case measure=>simp[RowKit.intOf];omega
       ·obtain⟨r,A',ks,_,HS⟩:=Ci.chk H1.out (by omega)
        have HS:Hid _:=HS
        clear H1
        by_cases hr:r=0
        ·obtain⟨gv,cp,hv⟩:=hva.out
         subst hv
         go_wp2_with (first
          | (go_at_call 15;refine Calls.mono HS.out ?_;rintro e w5 ⟨rfl,_,hh⟩;obtain⟨j5,h5⟩:=hh hr;have H5:Hid _:=h5;clear hh h5)
          | fail)
         go_roundw
         case rel=>exact⟨i+1,hs.length - 1,j5,mv,n+1,0,N,_,_,[],hs,LE,by simp,by omega,congrArg (Value.int .i64) (by have:=hlen.out;unfold wrap64;omega),H5.out⟩
         case measure=>simp[RowKit.intOf];omega
        ·go_wp2_with (first
          | (go_at_call 15;refine Calls.mono HS.out ?_;rintro e w5 ⟨rfl,hh,_⟩;have H5:Hid _:=hh hr;clear hh)
          | fail)
         go_roundw
         case rel=>exact⟨i+1,safe,j,mv,n,a,N,A',B0,rs,hs,LE,by simp,by omega,rfl,H5.out⟩
         case measure=>simp[RowKit.intOf];omega
   ·have h10I:(10:Int)<(sm i:Int):=by omega
    go_wp2
    go_ret
    exact⟨rfl,zR _ _ HB1.out HBw.out⟩
  ·obtain rfl:i=ms:=by omega
   have hltI:¬((i:Nat):Int)<(i:Int):=by omega
   have hlen:Hid (1≤hs.length∧hs.length≤31):=(show 1≤hs.length∧hs.length≤31 from ⟨by obtain⟨q,q1,_⟩:=HC.out.hh;omega,by have:=HC.out.hk;omega⟩)
   obtain⟨gv,cp,hva⟩:=Hst.form HC.out.ah (by have:=hlen.out;omega)
   subst hva
   obtain⟨mm,t,hq0,A1,hfx,hm1,hm2,hm3,hcr⟩:=Ci.cra HC.out (by omega) ka kl kc zs h3 (Kps.mono (HB1.out.trans (HBw.out.mono HB1.out.size)).size (Kps.below (HB1.out.trans (HBw.out.mono HB1.out.size)) HK.out))
   have hHB:Hid _:=HC.out.hb
   have HCR:Hid _:=hcr
   have hFX:Hid _:=hfx
   have hM:Hid (safe≤hq0+mm∧hq0+mm<hs.length∧hs[hq0+mm]?=some ((rs.take mm).foldl cdo B0)):=(show safe≤hq0+mm∧hq0+mm<hs.length∧hs[hq0+mm]?=some ((rs.take mm).foldl cdo B0) from ⟨hm1,hm2,hm3⟩)
   obtain⟨rs',hrs'⟩:∃ rs',rs.take mm=rs':=⟨_,rfl⟩
   rw[hrs'] at HCR hFX hM
   clear HC hcr hfx hm1 hm2 hm3 hrs'
   go_wp2_with (first
    | (go_at_call 22;refine Calls.mono HCR.out ?_;rintro e w5 ⟨rfl,hh⟩;have H5:Hid _:=hh;clear hh HCR)
    | fail)
   go_loopw [16] (fun v wr=>∃ (x:Nat) (A:Ad) (t:List Nat),v=.int .i64 (x:Int)∧Hid (Tri w1 (rff F nf) d (.slice (some ⟨gv,0,none⟩) hs.length cp) hs LE n B0 rs' x A t wr))
    (fun v _=>70 - (RowKit.intOf v).toNat)
   case atStart=>exact⟨0,A1,t,rfl,H5.out⟩
   case round =>
    clear H5
    obtain⟨x,A,t,rfl,HT⟩:=hrel
    have hx60:x≤60:=Nat.le_trans HT.out.c (Nat.le_trans (cnt_rff F _ nf) h1)
    have hxI:(x:Int)<70:=by omega
    obtain⟨r,A',hr,hop⟩:=Tri.open HT.out hFX.out hx60
    have HO:Hid _:=hop
    clear HT hop
    rcases hr with rfl | rfl
    ·go_wp2_with (first
      | (go_at_call 19;refine Calls.mono HO.out ?_;rintro e w6 ⟨_,hh⟩;obtain⟨g1,j1,mv1,rfl,h6⟩:=hh rfl;have H6:Hid _:=h6;clear hh h6 HO)
      | (go_at_call 19;refine(T2.again H6.out hFX.out).mono ?_;rintro e w7 ⟨g2,j2,mv2,L,rfl,h7⟩;have H7:Hid _:=h7;clear h7 H6)
      | (go_at_call 16;refine(So.pael H7.out.s1 (by have:=hFX.out.rl;omega) hFX.out.kl).mono ?_;rintro e w8 ⟨x1,L1,rfl,hx1,hx2,hx3,hb8⟩;obtain⟨px,lx,cx,rfl⟩:=Ael.form hx2;have H8:Hid _:=T3.below H7.out hb8;have X8:Hid _:=hx2;have HL1:Hid _:=hx3;clear H7 hx2 hx3 hb8)
      | fail)
     have hM:=hM.out
     have HM:Hid _:=hM
     obtain⟨hM1,hM2,hM3⟩:=hM
     go_loopw [22,23] (fun vb v wr=>∃ (k:Nat) (c:Bool),vb=.bool c∧v=.int .i64 (k:Int)∧k≤hs.length∧(hq0+mm<k→c=true)∧Hid (Below w8.heap.size w8 wr))
      (fun _ v _=>hs.length - (RowKit.intOf v).toNat)
     case atStart=>exact⟨safe,false,rfl,rfl,by omega,fun h=>absurd h (by omega),Below.refl _ _⟩
     case round =>
      obtain⟨k,c,rfl,rfl,hk,hc,hb9⟩:=hrel
      have H9:Hid _:=T3.below H8.out hb9.out
      have X9:Hid _:=Ael.kx X8.out (M:=L1) ⟨hb9.out.size,fun y hy=>hb9.out.block y (HL1.out y hy).2⟩ (fun y hy=>hy)
      have hl31:=hlen.out
      have HCc:Hid _:=hc
      by_cases hkl:k<hs.length
      ·have hklI:(k:Int)<(hs.length:Int):=by omega
       cases c with
       | true =>
        go_wp2
        go_roundw
        case rel=>exact⟨k+1,true,rfl,by simp,by omega,fun _=>rfl,hb9.out⟩
        case measure=>simp[RowKit.intOf];omega
       | false =>
        obtain⟨Bk,hBk⟩:∃ Bk,hs[k]?=some Bk:=⟨_,List.getElem?_eq_getElem hkl⟩
        obtain⟨gv',cp',xk,hv',e1,e2,_⟩:=Hst.at H9.out.ah hBk
        obtain⟨rfl,rfl⟩:gv'=gv∧cp'=cp:=by simp at hv';exact⟨hv'.1.symm,hv'.2.symm⟩
        obtain⟨pk,lk,ck,rfl⟩:=Ael.form e2
        have HE:=ael_any X9.out e2 (fun ks hks=>by obtain⟨k2,q1,q2⟩:=H9.out.s1.kys;rw[Kys.uniq hks q1];have:=hFX.out.rl;omega) (fun ks hks=>Nat.le_trans (hHB.out Bk (List.mem_of_getElem? hBk) ks hks) (by decide))
        have HE:Hid _:=HE
        have hBM:Hid (k=hq0+mm→rs'.foldl cdo B0=Bk):=(fun e=>by rw[e,hM3] at hBk;exact Option.some.inj hBk:k=hq0+mm→rs'.foldl cdo B0=Bk)
        clear e2 hBk hv'
        go_wp2_with (first
         | (go_at_call 21;refine Calls.mono HE.out ?_;rintro e w10 ⟨c,rfl,hcB,hb10⟩;have HCB:Hid _:=hcB;have HB10:Hid _:=hb10;clear hcB hb10)
         | fail)
        go_roundw
        case rel=>exact⟨k+1,c,rfl,by simp,by omega,fun h=>HCB.out (hBM.out (by
         by_cases e:hq0+mm<k
         ·exact absurd (HCc.out e) (by simp)
         ·omega)),hb9.out.trans (HB10.out.mono hb9.out.size)⟩
        case measure=>simp[RowKit.intOf];omega
      ·obtain rfl:k=hs.length:=by omega
       have hct:c=true:=hc (by omega)
       subst hct
       have hklI:¬((hs.length:Nat):Int)<(hs.length:Int):=by omega
       have hb32:∀ ks,Kys (rs'.foldl cdo B0) ks→ks.length≤1000000:=fun ks hks=>by obtain⟨k2,q1,q2⟩:=H9.out.s1.kys;rw[Kys.uniq hks q1];have:=hFX.out.rl;omega
       have HB32:Hid _:=hb32
       clear hb32
       go_wp2_with (first
        | (go_at_call 16;refine(So.pael H9.out.s2 (by have:=hFX.out.rl;omega) hFX.out.kl).mono ?_;rintro e w10 ⟨x2,L2,rfl,hx1,hx2,hx3,hb10⟩;obtain⟨p2,l2,c2,rfl⟩:=Ael.form hx2;have H10:Hid _:=T3.below H9.out hb10;have X10:Hid _:=Ael.kx X9.out (M:=L1) ⟨hb10.size,fun y hy=>hb10.block y (Nat.lt_of_lt_of_le (HL1.out y hy).2 hb9.out.size)⟩ (fun y hy=>hy);have Y10:Hid _:=hx2;clear hx2 hx3 hb10)
        | (go_at_call 21;refine(ael_any X10.out Y10.out HB32.out HB32.out).mono ?_;rintro e w11 ⟨c,rfl,hc1,hb11⟩;obtain rfl:=hc1 rfl;have H11:Hid _:=T3.below H10.out hb11;clear hb11)
        | (go_at_call 18;refine(sgen_any g1 j1 (n:Int) w11 H11.out.s1.2.1 (So.c3 H11.out.s1)).mono ?_;rintro e w12 ⟨rfl,rfl⟩)
        | (go_at_call 18;refine(sgen_any g2 j2 (n:Int) _ H11.out.s2.2.1 (So.c3 H11.out.s2)).mono ?_;rintro e w12 ⟨rfl,rfl⟩)
        | fail)
       go_ret
       exact⟨rfl,zR _ _ HB1.out H11.out.s1.da.b⟩
    ·go_wp2_with (first
      | (go_at_call 19;refine Calls.mono HO.out ?_;rintro e w6 ⟨hh,_⟩;obtain⟨rfl,t6,h6⟩:=hh rfl;have H6:Hid _:=h6;clear hh h6 HO)
      | fail)
     go_roundw
     case rel=>exact⟨x+1,A',t6,by simp,H6.out⟩
     case measure=>simp[RowKit.intOf];omega
end Wi
end Rg
end Go.Proofs.YtmcpagjhpfbpgaaGreatDoor
end
section
namespace Go.Proofs.YtmcpagjhpfbpgaaGreatDoor
open Go.RowKit
namespace Rg
namespace Wi
set_option maxRecDepth 100000
theorem scrash_long (pf:Option Addr) (nf cf:Nat) (ps:Option Addr) (ms cs:Nat) (ka:Option Addr) (kl kc:Nat) (w:World) (h:¬(nf≤60∧ms≤30∧kl≤20)):Calls Tryz.prog 6 #[.slice pf nf cf,.slice ps ms cs,.slice ka kl kc] w (Rt w (.bool true)):=by
 by_cases h1:nf≤60
 ·have h1I:¬(60:Int)<(nf:Int):=by omega
  by_cases h2:ms≤30
  ·have h2I:¬(30:Int)<(ms:Int):=by omega
   have h3I:(20:Int)<(kl:Int):=by omega
   go_enter Tryz.func6,Tryz.ntmps6
   go_wp2_with (first
    | (go_at_call 5;refine(known15 w).mono ?_;rintro e w1 ⟨rfl,hb1⟩)
    | fail)
   go_ret
   exact⟨rfl,hb1⟩
  ·have h2I:(30:Int)<(ms:Int):=by omega
   go_enter Tryz.func6,Tryz.ntmps6
   go_wp2_with (first
    | (go_at_call 5;refine(known15 w).mono ?_;rintro e w1 ⟨rfl,hb1⟩)
    | fail)
   go_ret
   exact⟨rfl,hb1⟩
 ·have h1I:(60:Int)<(nf:Int):=by omega
  go_enter Tryz.func6,Tryz.ntmps6
  go_wp2_with (first
   | (go_at_call 5;refine(known15 w).mono ?_;rintro e w1 ⟨rfl,hb1⟩)
   | fail)
  go_ret
  exact⟨rfl,hb1⟩
theorem scrash_any (pf:Option Addr) (nf cf gf of_:Nat) (F:Nat→Int) (ps:Option Addr) (ms cs gs os:Nat) (kd:Nat→Int) (sp:Nat→Option Addr) (sg so sm sc:Nat→Nat) (C:Nat→Nat→Cq) (ka:Option Addr) (kl kc:Nat) (zs:Nat→Kv) (w:World) (hp0:0<nf→pf=some ⟨gf,of_,none⟩) (hcl0:∀ i,i<nf→gf<w.heap.size∧w.cell? ⟨gf,of_+i,none⟩=some (.int .i64 (F i))∧(Lit.int .i64 (F i)).wf=true) (hS:Stp ps gs os ms kd sp sg so sm sc C w) (hK:Kps w.heap.size w (.slice ka kl kc) kl zs):Calls Tryz.prog 6 #[.slice pf nf cf,.slice ps ms cs,.slice ka kl kc] w (Rt w (.bool true)):=by
 by_cases h:nf≤60∧ms≤30∧kl≤20
 ·exact scrash_short pf nf cf gf of_ F ps ms cs gs os kd sp sg so sm sc C ka kl kc zs w hp0 hcl0 hS hK h.1 h.2.1 h.2.2
 ·exact scrash_long pf nf cf ps ms cs ka kl kc w h
end Wi
end Rg
end Go.Proofs.YtmcpagjhpfbpgaaGreatDoor
end
section
namespace Go.Proofs.YtmcpagjhpfbpgaaGreatDoor
open Go.ChangeMaps Go.ChangeShapes Go.WideShapes Go.ChangeAt Go.RowKit
namespace Rg
namespace Wi
set_option maxRecDepth 100000
theorem cells3:Tryz.prog.cellsOf 3=1:=by kernel_rfl
theorem cells4:Tryz.prog.cellsOf 4=1:=by kernel_rfl
theorem cells5:Tryz.prog.cellsOf 5=1:=by kernel_rfl
theorem cells9:Tryz.prog.cellsOf 9=1:=by kernel_rfl
theorem cells39:Tryz.prog.cellsOf 39=1:=by kernel_rfl
theorem cells40:Tryz.prog.cellsOf 40=1:=by kernel_rfl
theorem cells57:Tryz.prog.cellsOf 118=3:=by kernel_rfl
theorem cells65:Tryz.prog.cellsOf 65=3:=by kernel_rfl
theorem cells79:Tryz.prog.cellsOf 79=2:=by kernel_rfl
section
variable {H:Type} {enc:TypeId×Value→H} {w:World} {base:Nat} {sp:Nat→Bool} {held:Bool}
theorem open_row {T E k:Nat} (hT:Tryz.prog.underlying T=some (.slice E)) (hk:Tryz.prog.cellsOf E=k) (h0:0<k) {fuel:Nat} {cs:List Value} {y:DataW H×List MemPlace} (hf:DataW.trod enc Tryz.prog w base sp held fuel T cs=some y) :
  ∃ pl m c b off,cs=[.slice pl m c]∧m≤c∧c≤maxLen∧(pl=none→c=0)∧(0<m→pl=some ⟨b,off,none⟩∧b<w.heap.size)∧∀ i,i<m→∃ es n z,es.length=k∧DataW.trod enc Tryz.prog w base sp held n E es=some z∧∀ j,j<k→w.cell? ⟨b,off+(i*k+j),none⟩=es[j]?:=by
 rcases DataW.trod_slice hT hf with ⟨hcs,hx⟩ | ⟨a,len,cap,elems,rest,n,_,hcs,hx,hb,hl,hm,hlen,hel,hsp,hns⟩
 ·exact⟨none,0,0,0,0,hcs,Nat.le_refl _,Nat.zero_le _,fun _=>rfl,fun h=>absurd h (Nat.lt_irrefl _),fun i hi=>absurd hi (Nat.not_lt_zero _)⟩
 ·rw[hk] at hel
  have part:∀ i,i<len→∃ es z,es.length=k∧DataW.trod enc Tryz.prog w base sp held n E es=some z∧∀ j,j<k→w.cell? ((a.add (i*k)).add j)=es[j]?:=fun i hi=>by
   have h1:=hel i hi
   have hi2:i<elems.length:=by omega
   rw[List.getElem?_eq_getElem hi2,Option.bind_eq_some_iff] at h1
   obtain⟨es,hc,hy⟩:=h1
   obtain⟨_,c2,c3⟩:=World.cells?_some hc
   exact⟨es,_,c2,hy,c3⟩
  by_cases hz:len=0
  ·subst hz
   exact⟨some a,0,cap,0,0,hcs,hl,hm,(fun e=>by cases e),fun h=>absurd h (Nat.lt_irrefl _),fun i hi=>absurd hi (Nat.not_lt_zero _)⟩
  ·obtain⟨es,z,e1,_,e3⟩:=part 0 (by omega)
   have e4:=e3 0 h0
   obtain⟨v,hv⟩:∃ v,es[0]?=some v:=⟨_,List.getElem?_eq_getElem (by omega)⟩
   rw[hv] at e4
   obtain⟨b,off,spot⟩:=a
   have hspot:spot=none:=by simpa [Addr.add] using World.cell?_spot e4
   subst hspot
   simp only[Go.WideShapes.add_plain] at e4
   refine⟨some ⟨b,off,none⟩,len,cap,b,off,hcs,hl,hm,(fun e=>by cases e),fun _=>⟨rfl,World.block_lt_of_cell? w _ e4⟩,fun i hi => ?_⟩
   obtain⟨es,z,e1,e2,e3⟩:=part i hi
   refine⟨es,n,z,e1,e2,fun j hj => ?_⟩
   have:=e3 j hj
   simp only[Go.WideShapes.add_plain] at this
   rw[show off+(i*k+j)=off+i*k+j by omega]
   exact this
theorem open_pz {fuel:Nat} {cs:List Value} {y:DataW H×List MemPlace} (hf:DataW.trod enc Tryz.prog w base sp held fuel 40 cs=some y) :
  ∃ q:Pt8,cs=[.slice q.p q.n q.cp]∧Pq q w∧∀ x∈gbl q,x<w.heap.size:=by
 rcases open_ints Tryz.underlying40 Tryz.underlying5 cells5 hf with ⟨hcs,hx⟩ | ⟨a,len,cap,zs,hcs,_,hl,hm,hz,hx,hcell,hwz⟩
 ·subst hcs hx
  exact⟨⟨0,0,0,0,none,fun _=>0⟩,rfl,⟨⟨Bv.void _ _ _ _ _,Nat.le_refl _⟩,fun _=>rfl,Rs.void _ _ _ _⟩,fun x hx=>by unfold gbl at hx;rw[if_pos rfl] at hx;cases hx⟩
 ·subst hcs hx
  have hlz:len≤zs.length:=by rw[hz];split <;> omega
  have hb:∀ i,i<zs.length→0≤zs.getD i 0∧zs.getD i 0<256:=fun i hi=>by
   rw[List.getD_eq_getElem?_getD,List.getElem?_eq_getElem hi]
   have:=bounds_u8 (hwz _ (List.getElem_mem hi))
   exact⟨this.1,by show zs[i]<256;omega⟩
  by_cases h0:len=0
  ·subst h0
   exact⟨⟨0,0,0,cap,some a,fun _=>0⟩,rfl,⟨⟨Bv.void _ _ _ _ _,hl⟩,(fun e=>by cases e),Rs.void _ _ _ _⟩,fun x hx=>by unfold gbl at hx;rw[if_pos rfl] at hx;cases hx⟩
  ·obtain⟨b,off,rfl,hc⟩:=ints_at hcell (by omega)
   have hlt:=World.block_lt_of_cell? w _ (hc 0 (by omega))
   refine⟨⟨b,off,len,cap,some ⟨b,off,none⟩,fun i=>(zs.getD i 0).toNat⟩,rfl,⟨⟨Bv.start _ _ _ _,hl⟩,(fun e=>by cases e),⟨fun _=>hlt,fun i hi => ?_⟩⟩,fun x hx => ?_⟩
   ·have h1:i<len:=hi
    rw[hc i (by omega)]
    have:=hb i (by omega)
    show some (Value.int .u8 (zs.getD i 0))=some (Value.int .u8 (((zs.getD i 0).toNat:Nat):Int))
    rw[show ((((zs.getD i 0).toNat:Nat)):Int)=zs.getD i 0 from Int.toNat_of_nonneg this.1]
   ·unfold gbl at hx
    split at hx
    ·cases hx
    ·rw[List.mem_singleton.1 hx]
     exact hlt
theorem open_chg {fuel:Nat} {cs:List Value} {y:DataW H×List MemPlace} (hf:DataW.trod enc Tryz.prog w base sp held fuel 65 cs=some y) :
  ∃ x:Cq,cs=[.string x.k,.slice x.q.p x.q.n x.q.cp,.bool x.gn]∧Pq x.q w∧∀ z∈gbl x.q,z<w.heap.size:=by
 obtain⟨xs,n,-,hx,hl,hn,hel⟩:=DataW.trod_struct Tryz.underlying65 hf
 have hl':cs.length=3:=hl.trans cells65
 have hn':xs.length=3:=hn
 obtain⟨c0,c1,c2,rfl⟩:∃ c0 c1 c2,cs=[c0,c1,c2]:=by
  match cs,hl' with
  | [c0,c1,c2],_=>exact⟨c0,c1,c2,rfl⟩
 match xs,hn' with
 | [x0,x1,x2],_ =>
  have f0:DataW.trod enc Tryz.prog w base sp held n 9 [c0]=some x0:=by
   have f:DataW.trod enc Tryz.prog w base sp held n 9 ((([c0,c1,c2]:List Value).drop 0).take (Tryz.prog.cellsOf 9))=some x0:=hel 0 _ rfl
   rw[cells9] at f
   exact f
  have f1:DataW.trod enc Tryz.prog w base sp held n 40 [c1]=some x1:=by
   have f:DataW.trod enc Tryz.prog w base sp held n 40 ((([c0,c1,c2]:List Value).drop 1).take (Tryz.prog.cellsOf 40))=some x1:=hel 1 _ rfl
   rw[cells40] at f
   exact f
  have f2:DataW.trod enc Tryz.prog w base sp held n 4 [c2]=some x2:=by
   have f:DataW.trod enc Tryz.prog w base sp held n 4 ((([c0,c1,c2]:List Value).drop 2).take (Tryz.prog.cellsOf 4))=some x2:=hel 2 _ rfl
   rw[cells4] at f
   exact f
  obtain⟨s,e1,_,_⟩:=DataW.trod_string Tryz.underlying9 f0
  obtain⟨q,e2,h1,h2⟩:=open_pz f1
  obtain⟨bb,e3,_⟩:=DataW.trod_bool Tryz.underlying4 f2
  injection e1 with e1 _
  injection e2 with e2 _
  injection e3 with e3 _
  exact⟨⟨s,q,bb⟩,by rw[e1,e2,e3],h1,h2⟩
theorem open_step {fuel:Nat} {cs:List Value} {y:DataW H×List MemPlace} (hf:DataW.trod enc Tryz.prog w base sp held fuel 79 cs=some y) :
  ∃ (kd:Int) (p:Option Addr) (g o m c:Nat) (C:Nat→Cq),cs=[.int .u8 kd,.slice p m c]∧Cl p g o m C w∧∀ k,k<m→Pq (C k).q w∧∀ x∈gbl (C k).q,x<w.heap.size:=by
 obtain⟨xs,n,-,hx,hl,hn,hel⟩:=DataW.trod_struct Tryz.underlying79 hf
 have hl':cs.length=2:=hl.trans cells79
 have hn':xs.length=2:=hn
 obtain⟨c0,c1,rfl⟩:∃ c0 c1,cs=[c0,c1]:=by
  match cs,hl' with
  | [c0,c1],_=>exact⟨c0,c1,rfl⟩
 match xs,hn' with
 | [x0,x1],_ =>
  have f0:DataW.trod enc Tryz.prog w base sp held n 5 [c0]=some x0:=by
   have f:DataW.trod enc Tryz.prog w base sp held n 5 ((([c0,c1]:List Value).drop 0).take (Tryz.prog.cellsOf 5))=some x0:=hel 0 _ rfl
   rw[cells5] at f
   exact f
  have f1:DataW.trod enc Tryz.prog w base sp held n 39 [c1]=some x1:=by
   have f:DataW.trod enc Tryz.prog w base sp held n 39 ((([c0,c1]:List Value).drop 1).take (Tryz.prog.cellsOf 39))=some x1:=hel 1 _ rfl
   rw[cells39] at f
   exact f
  obtain⟨z,e1,_,_⟩:=DataW.trod_int Tryz.underlying5 f0
  obtain⟨p,m,c,g,o,e2,_,_,_,h3,h4⟩:=open_row Tryz.underlying39 cells65 (by decide) f1
  have part:∀ i,∃ x:Cq,i<m→(∀ j,j<3→w.cell? ⟨g,o+(i*3+j),none⟩=([.string x.k,.slice x.q.p x.q.n x.q.cp,.bool x.gn]:List Value)[j]?)∧Pq x.q w∧∀ y∈gbl x.q,y<w.heap.size:=fun i=>by
   by_cases hi:i<m
   ·obtain⟨es,n',z',_,g1,g2⟩:=h4 i hi
    obtain⟨x,rfl,g3,g4⟩:=open_chg g1
    exact⟨x,fun _=>⟨g2,g3,g4⟩⟩
   ·exact⟨⟨⟨#[]⟩,Pt8.no,false⟩,fun h=>absurd h hi⟩
  obtain⟨C,hC⟩:=Classical.axiomOfChoice part
  injection e1 with e1 _
  injection e2 with e2 _
  refine⟨z,p,g,o,m,c,C,by rw[e1,e2],⟨fun h0=>(h3 h0).1,fun h0=>(h3 h0).2,fun i hi => ?_,fun i hi => ?_,fun i hi => ?_⟩,fun k hk=>(hC k hk).2⟩
  ·exact(hC i hi).1 0 (by decide)
  ·exact(hC i hi).1 1 (by decide)
  ·exact(hC i hi).1 2 (by decide)
theorem open_keep {fuel:Nat} {cs:List Value} {y:DataW H×List MemPlace} (hf:DataW.trod enc Tryz.prog w base sp held fuel 118 cs=some y) :
  ∃ x:Kv,cs=[.string x.1.1,.int .i64 x.1.2.1,.int .i64 x.1.2.2]:=by
 obtain⟨xs,n,-,hx,hl,hn,hel⟩:=DataW.trod_struct Tryz.underlying118 hf
 have hl':cs.length=3:=hl.trans cells57
 have hn':xs.length=3:=hn
 obtain⟨c0,c1,c2,rfl⟩:∃ c0 c1 c2,cs=[c0,c1,c2]:=by
  match cs,hl' with
  | [c0,c1,c2],_=>exact⟨c0,c1,c2,rfl⟩
 match xs,hn' with
 | [x0,x1,x2],_ =>
  have f0:DataW.trod enc Tryz.prog w base sp held n 9 [c0]=some x0:=by
   have f:DataW.trod enc Tryz.prog w base sp held n 9 ((([c0,c1,c2]:List Value).drop 0).take (Tryz.prog.cellsOf 9))=some x0:=hel 0 _ rfl
   rw[cells9] at f
   exact f
  have f1:DataW.trod enc Tryz.prog w base sp held n 3 [c1]=some x1:=by
   have f:DataW.trod enc Tryz.prog w base sp held n 3 ((([c0,c1,c2]:List Value).drop 1).take (Tryz.prog.cellsOf 3))=some x1:=hel 1 _ rfl
   rw[cells3] at f
   exact f
  have f2:DataW.trod enc Tryz.prog w base sp held n 3 [c2]=some x2:=by
   have f:DataW.trod enc Tryz.prog w base sp held n 3 ((([c0,c1,c2]:List Value).drop 2).take (Tryz.prog.cellsOf 3))=some x2:=hel 2 _ rfl
   rw[cells3] at f
   exact f
  obtain⟨s,e1,_,hs⟩:=DataW.trod_string Tryz.underlying9 f0
  obtain⟨z1,e2,_,h1⟩:=DataW.trod_int Tryz.underlying3 f1
  obtain⟨z2,e3,_,h2⟩:=DataW.trod_int Tryz.underlying3 f2
  injection e1 with e1 _
  injection e2 with e2 _
  injection e3 with e3 _
  exact⟨⟨(s,z1,z2),hs,h1,h2⟩,by rw[e1,e2,e3]⟩
theorem ok_slice {T E:Nat} (hT:Tryz.prog.underlying T=some (.slice E)) {r:Reach} {b0 m c:Nat} {a:Addr} (hv:Value.okWide Tryz.prog w r b0 T (.slice (some a) m c)):∃ b off,a=⟨b,off,none⟩∧b<w.heap.size:=by
 unfold Value.okWide Cell.okWide Cell.ok at hv
 rw[hT] at hv
 obtain⟨_,_,_,hs,row,cells,hsh,_⟩:=hv
 obtain⟨b,off,spot⟩:=a
 have hs:spot=none:=hs
 subst hs
 refine⟨b,off,rfl,?_⟩
 unfold World.shape? at hsh
 dsimp only at hsh
 cases h:w.heap[b]? with
 | none=>rw[h] at hsh;cases hsh
 | some o=>exact(Array.getElem?_eq_some_iff.1 h).1
end
end Wi
end Rg
end Go.Proofs.YtmcpagjhpfbpgaaGreatDoor
end
section
namespace Go.Proofs.YtmcpagjhpfbpgaaGreatDoor
open Go.ChangeMaps Go.ChangeShapes Go.WideShapes Go.ChangeAt Go.RowKit
namespace Rg
namespace Wi
set_option maxRecDepth 100000
theorem scrash_lift {H:Type} {enc:TypeId×Value→H} {w:World} {base:Nat} {sp:Nat→Bool} {held:Bool} {r:Reach} {b0:Nat} {v0 v1 v2:Value} {d0 d1 d2:DataW H} {p0 p1 p2:List MemPlace}
  (o0:Value.okWide Tryz.prog w r b0 22 v0) (h0:DataW.Trod enc Tryz.prog w base sp held 22 v0 d0 p0)
  (o1:Value.okWide Tryz.prog w r b0 76 v1) (h1:DataW.Trod enc Tryz.prog w base sp held 76 v1 d1 p1)
  (o2:Value.okWide Tryz.prog w r b0 41 v2) (h2:DataW.Trod enc Tryz.prog w base sp held 41 v2 d2 p2) :
  Calls Tryz.prog 6 #[v0,v1,v2] w (Rt w (.bool true)):=by
 obtain⟨pf,nf,cf,rfl⟩:=okWide_slice Tryz.underlying22 o0
 obtain⟨ps,ms,cs,rfl⟩:=okWide_slice Tryz.underlying76 o1
 obtain⟨ka,kl,kc,rfl⟩:=okWide_slice Tryz.underlying41 o2
 obtain⟨u0,f0⟩:=h0
 obtain⟨u1,f1⟩:=h1
 obtain⟨u2,f2⟩:=h2
 obtain⟨pl,m,c,gf,of_,e,_,_,_,hp,hel⟩:=open_row Tryz.underlying22 cells3 (by decide) f0
 simp[Value.cells] at e
 obtain⟨rfl,rfl,rfl⟩:=e
 obtain⟨pl,m,c,gs,os,e,_,_,_,hq,hes⟩:=open_row Tryz.underlying76 cells79 (by decide) f1
 simp[Value.cells] at e
 obtain⟨rfl,rfl,rfl⟩:=e
 obtain⟨pl,m,c,gk,ok,e,hkc,_,hkn,hk,hek⟩:=open_row Tryz.underlying41 cells57 (by decide) f2
 simp[Value.cells] at e
 obtain⟨rfl,rfl,rfl⟩:=e
 have q0:∀ i,∃ z:Int,i<nf→gf<w.heap.size∧w.cell? ⟨gf,of_+i,none⟩=some (.int .i64 z)∧(Lit.int .i64 z).wf=true:=fun i=>by
  by_cases hi:i<nf
  ·obtain⟨es,n,z,_,g1,g2⟩:=hel i hi
   obtain⟨z,rfl,_,hw⟩:=DataW.trod_int Tryz.underlying3 g1
   have h3:=g2 0 (by decide)
   rw[show of_+(i*1+0)=of_+i by omega] at h3
   exact⟨z,fun _=>⟨(hp (by omega)).2,h3,hw⟩⟩
  ·exact⟨0,fun h=>absurd h hi⟩
 obtain⟨F,hF⟩:=Classical.axiomOfChoice q0
 have q1:∀ i,∃ x:Int×Option Addr×Nat×Nat×Nat×Nat×(Nat→Cq),i<ms→w.cell? ⟨gs,os+i*2,none⟩=some (.int .u8 x.1)∧w.cell? ⟨gs,os+i*2+1,none⟩=some (.slice x.2.1 x.2.2.2.2.1 x.2.2.2.2.2.1)∧Cl x.2.1 x.2.2.1 x.2.2.2.1 x.2.2.2.2.1 x.2.2.2.2.2.2 w∧∀ k,k<x.2.2.2.2.1→Pq (x.2.2.2.2.2.2 k).q w∧∀ y∈gbl (x.2.2.2.2.2.2 k).q,y<w.heap.size:=fun i=>by
  by_cases hi:i<ms
  ·obtain⟨es,n,z,_,g1,g2⟩:=hes i hi
   obtain⟨kd,p,g,o,m,c,C,rfl,g3,g4⟩:=open_step g1
   exact⟨(kd,p,g,o,m,c,C),fun _=>⟨g2 0 (by decide),g2 1 (by decide),g3,g4⟩⟩
  ·exact⟨(0,none,0,0,0,0,fun _=>⟨⟨#[]⟩,Pt8.no,false⟩),fun h=>absurd h hi⟩
 obtain⟨X,hX⟩:=Classical.axiomOfChoice q1
 have q2:∀ i,∃ x:Kv,i<kl→w.cell? ⟨gk,ok+i*3,none⟩=some (.string x.1.1)∧w.cell? ⟨gk,ok+i*3+1,none⟩=some (.int .i64 x.1.2.1)∧w.cell? ⟨gk,ok+i*3+2,none⟩=some (.int .i64 x.1.2.2):=fun i=>by
  by_cases hi:i<kl
  ·obtain⟨es,n,z,_,g1,g2⟩:=hek i hi
   obtain⟨x,rfl⟩:=open_keep g1
   exact⟨x,fun _=>⟨g2 0 (by decide),g2 1 (by decide),g2 2 (by decide)⟩⟩
  ·exact⟨kv0,fun h=>absurd h hi⟩
 obtain⟨zs,hz⟩:=Classical.axiomOfChoice q2
 have hK:Kps w.heap.size w (.slice ka kl kc) kl zs:=by
  cases ka with
  | none =>
   obtain rfl:=hkn rfl
   obtain rfl:kl=0:=Nat.le_zero.1 hkc
   exact .inl ⟨rfl,rfl⟩
  | some a =>
   obtain⟨b,off,rfl,hb⟩:=ok_slice Tryz.underlying41 o2
   refine .inr ⟨b,off,kc,rfl,hb,fun j hj => ?_⟩
   have h3:=(hk (by omega)).1
   injection h3 with h3
   injection h3 with h3 h4 _
   subst h3 h4
   exact hz j hj
 exact scrash_any pf nf cf gf of_ F ps ms cs gs os (fun i=>(X i).1) (fun i=>(X i).2.1) (fun i=>(X i).2.2.1) (fun i=>(X i).2.2.2.1) (fun i=>(X i).2.2.2.2.1) (fun i=>(X i).2.2.2.2.2.1) (fun i=>(X i).2.2.2.2.2.2) ka kl kc zs w (fun h=>(hp h).1) hF
  ⟨fun h=>(hq h).1,fun h=>(hq h).2,fun i hi=>(hX i hi).1,fun i hi=>(hX i hi).2.1,fun i hi=>(hX i hi).2.2.1,fun i hi=>(hX i hi).2.2.2⟩ hK
end Wi
end Rg
end Go.Proofs.YtmcpagjhpfbpgaaGreatDoor
end
