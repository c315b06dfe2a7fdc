/- Texts of the proof, joined. -/
import Derived.Test.YtmcpagjhpfbpgaaGreatDoorP5
import Derived.Laws.Shifts
import Derived.Laws.Bits64b
import Derived.Laws.Unary
set_option maxRecDepth 100000
set_option maxHeartbeats 8000000
section
namespace Go.Proofs.YtmcpagjhpfbpgaaGreatDoor
open Go.RowKit
namespace Rg
namespace Wi
set_option maxRecDepth 100000
def bs (n:Nat) (f:Nat→Nat):List Nat:=(List.range n).map f
theorem bs_len (n:Nat) (f:Nat→Nat):(bs n f).length=n:=by simp[bs]
theorem bs_get {n i:Nat} (f:Nat→Nat) (h:i<n):(bs n f)[i]?=some (f i):=by simp[bs,h]
theorem bs_cg {n:Nat} {f g:Nat→Nat} (h:∀ i,i<n→f i=g i):bs n f=bs n g:=by
 unfold bs
 exact List.map_congr_left fun i hi=>h i (List.mem_range.1 hi)
theorem bs_eq {n m:Nat} {f g:Nat→Nat} (h:bs n f=bs m g):n=m∧∀ i,i<n→f i=g i:=by
 have e:n=m:=by have:=congrArg List.length h;rwa [bs_len,bs_len] at this
 subst e
 refine⟨rfl,fun i hi => ?_⟩
 have:=congrArg (fun l=>l[i]?) h
 simp only[bs_get f hi,bs_get g hi] at this
 exact Option.some.inj this
theorem bs_take {n m:Nat} (f:Nat→Nat) (h:m≤n):(bs n f).take m=bs m f:=by
 unfold bs
 rw[← List.map_take,List.take_range,Nat.min_eq_left h]
theorem bs_add (n m:Nat) (f:Nat→Nat):bs (n+m) f=bs n f++bs m (fun j=>f (n+j)):=by
 unfold bs
 rw[List.range_add,List.map_append,List.map_map]
 rfl
theorem bs_ct {N st m:Nat} {X g:Nat→Nat} (h:st≤N):bs (st+m) (ct X st g)=(bs N X).take st++bs m g:=by
 rw[bs_add,bs_take X h]
 congr 1
 ·exact bs_cg fun i hi=>by unfold ct;rw[if_pos hi]
 ·exact bs_cg fun i hi=>by unfold ct;rw[if_neg (by omega)];congr 1;omega
structure Af where
 nm:ByteArray
 sf:List Nat
 ops:List (Nat×List Nat)
 fr:Bool
def ctn (c:List Nat) (ops:List (Nat×List Nat)):List Nat:=ops.foldl (fun c o=>c.take o.1++o.2) c
def Af.cn (f:Af):List Nat:=ctn f.sf f.ops
structure Ad where
 k:Nat
 fs:List Af
 rf:Nat→Bool
def uab (o:Uop):Nat×List Nat:=(o.st,bs o.q.n o.q.f)
def Fq.ab (f:Fq):Af:=⟨f.nm,bs f.n f.P,f.ops.map uab,f.fr⟩
def Dq.ab (D:Dq):Ad:=⟨D.k,D.fs.map Fq.ab,D.rf⟩
def Ad.lk (A:Ad) (s:ByteArray):Option Af:=A.fs.find? (fun f=>decide (f.nm=s))
def Ad.no (A:Ad):Bool:=A.rf (A.k+1)
def Ad.tick (A:Ad):Ad:=⟨A.k+1,A.fs,A.rf⟩
def Ad.swap (A:Ad) (s:ByteArray) (f:Af):Ad:=⟨A.k,A.fs.map (fun x=>if x.nm=s then f else x),A.rf⟩
def Af.more (f:Af) (n:Nat) (b:List Nat):Af:=⟨f.nm,f.sf,f.ops++[(n,b)],f.fr⟩
def Af.dn (f:Af) (a:Int):Nat:=min a.toNat f.ops.length
def Af.tl (f:Af) (a b:Int):List Nat:=match f.ops[f.dn a]? with | some o=>o.2.take b.toNat | none=>[]
def Af.set (f:Af) (a b:Int):Af:=⟨f.nm,ctn f.sf (f.ops.take (f.dn a))++f.tl a b,[],false⟩
def Af.there (f:Af) (a b:Int):Bool := !f.fr || decide (0<f.dn a+(f.tl a b).length)
theorem Dq.lk_ab (D:Dq) (s:ByteArray):D.ab.lk s=(Wi.lk D.fs s).map Fq.ab:=by
 unfold Ad.lk Dq.ab Wi.lk
 rw[List.find?_map]
 rfl
theorem ops_at {l:List Uop} {i:Nat} (h:i<l.length):(l.map uab)[i]?=some (uab (opF l i)):=by
 rw[List.getElem?_map,opF_at h]
 rfl
theorem cn_upto {w:World} {f:Fq} (h:FOk w f):∀ i,i≤f.ops.length→bs (rN f.n (opF f.ops) i) (rP f.P (opF f.ops) i)=ctn f.ab.sf (f.ab.ops.take i)
 | 0,_=>rfl
 | i+1,hi=>by
  have e:=cn_upto h i (by omega)
  have hv:=(h.vl i (by omega)).1
  show bs ((opF f.ops i).st+(opF f.ops i).q.n) (ct (rP f.P (opF f.ops) i) (opF f.ops i).st (opF f.ops i).q.f)=_
  rw[bs_ct hv,e,List.take_add_one,show f.ab.ops[i]?=_ from ops_at (by omega)]
  unfold ctn
  rw[Option.toList_some,List.foldl_append]
  rfl
theorem Fq.cn_ab {w:World} {f:Fq} (h:FOk w f):bs f.N f.C=f.ab.cn:=by
 have e:=cn_upto h f.ops.length (Nat.le_refl _)
 rw[List.take_of_length_le (by show (f.ops.map uab).length≤_;simp)] at e
 exact e
theorem Fq.N_ab {w:World} {f:Fq} (h:FOk w f):f.N=f.ab.cn.length:=by rw[← Fq.cn_ab h,bs_len]
theorem Fq.dn_ab (f:Fq) (a:Int):f.dn a=f.ab.dn a:=by unfold Fq.dn Af.dn Fq.ab;simp
theorem Fq.tl_ab (f:Fq) (a b:Int):bs (f.tn a b) (opF f.ops (f.dn a)).q.f=f.ab.tl a b:=by
 unfold Fq.tn Af.tl
 rw[← Fq.dn_ab]
 by_cases h:f.dn a<f.ops.length
 ·rw[if_pos h,show f.ab.ops[f.dn a]?=_ from ops_at h]
  show _=(bs _ _).take _
  by_cases h2:b.toNat≤(opF f.ops (f.dn a)).q.n
  ·rw[Nat.min_eq_left h2,bs_take _ h2]
  ·rw[Nat.min_eq_right (by omega),List.take_of_length_le (by rw[bs_len];omega)]
 ·rw[if_neg h,List.getElem?_eq_none (by show (f.ops.map uab).length≤_;simp;omega)]
  rfl
theorem Fq.tn_ab (f:Fq) (a b:Int):f.tn a b=(f.ab.tl a b).length:=by rw[← Fq.tl_ab,bs_len]
theorem Fq.there_ab (f:Fq) (a b:Int):f.there a b=f.ab.there a b:=by
 unfold Fq.there Af.there
 rw[Fq.dn_ab,Fq.tn_ab]
 rfl
theorem Fq.set_ab {w:World} {f:Fq} (h:FOk w f) (s:Value) (a b:Int):(f.set s a b).ab=f.ab.set a b:=by
 have hd:f.dn a≤f.ops.length:=Nat.min_le_right _ _
 have e:bs (f.sN a b) (f.sP a)=ctn f.ab.sf (f.ab.ops.take (f.ab.dn a))++f.ab.tl a b:=by
  unfold Fq.sN Fq.sP
  rw[bs_ct (Nat.le_refl _),List.take_of_length_le (by rw[bs_len];exact Nat.le_refl _),Fq.tl_ab,cn_upto h _ hd,Fq.dn_ab]
 unfold Fq.set Af.set Fq.ab
 show Af.mk f.nm (bs (f.sN a b) (f.sP a)) [] false=_
 rw[e]
 rfl
theorem Fq.more_ab (f:Fq) (v:Value) (n:Nat) (q:Pt8):(f.more v (appo n q)).ab=f.ab.more n (bs q.n q.f):=by
 unfold Fq.more Af.more Fq.ab
 simp[appo,uab]
theorem Dq.swap_ab (D:Dq) (f f':Fq):(D.swap f f').ab=D.ab.swap f.nm f'.ab:=by
 unfold Dq.swap Ad.swap Dq.ab
 simp only[List.map_map]
 congr 1
 refine List.map_congr_left fun x _ => ?_
 simp only[Function.comp,swp]
 show _=if x.nm=f.nm then _ else _
 split <;> rfl
def Da (w0:World) (d:Nat) (A:Ad) (L:List Nat) (u:World):Prop:=∃ D:Dq,Dn w0 D u∧D.d=d∧D.ab=A∧∀ x∈L,x<u.heap.size∧x∉D.bl
def Kx (L:List Nat) (u u':World):Prop:=u.heap.size≤u'.heap.size∧∀ x∈L,u'.heap[x]?=u.heap[x]?
theorem Kx.trans {L:List Nat} {a b c:World} (h:Kx L a b) (k:Kx L b c):Kx L a c:=⟨Nat.le_trans h.1 k.1,fun x hx=>(k.2 x hx).trans (h.2 x hx)⟩
theorem Kx.refl (L:List Nat) (a:World):Kx L a a:=⟨Nat.le_refl _,fun _ _=>rfl⟩
theorem Kx.sub {L M:List Nat} {a b:World} (h:Kx L a b) (hs:∀ x∈M,x∈L):Kx M a b:=⟨h.1,fun x hx=>h.2 x (hs x hx)⟩
section
variable {w0 u u':World} {d:Nat} {A:Ad} {L:List Nat}
theorem Da.b (h:Da w0 d A L u):Below w0.heap.size w0 u:=by
 obtain⟨D,h1,_⟩:=h
 exact h1.b
theorem Da.kx (h:Da w0 d A L u) (hb:Below u.heap.size u u'):Kx L u u':=by
 obtain⟨D,_,_,_,h1⟩:=h
 exact⟨hb.size,fun x hx=>hb.block x (h1 x hx).1⟩
theorem Da.step (h:Da w0 d A L u) (hb:Below u.heap.size u u'):Da w0 d A L u':=by
 obtain⟨D,h1,h2,h3,h4⟩:=h
 exact⟨D,h1.step hb,h2,h3,fun x hx=>⟨Nat.lt_of_lt_of_le (h4 x hx).1 hb.size,(h4 x hx).2⟩⟩
theorem Da.sub {M:List Nat} (h:Da w0 d A L u) (hs:∀ x∈M,x∈L):Da w0 d A M u:=by
 obtain⟨D,h1,h2,h3,h4⟩:=h
 exact⟨D,h1,h2,h3,fun x hx=>h4 x (hs x hx)⟩
theorem Da.add {M:List Nat} (h:Da w0 d A L u) (hb:Below u.heap.size u u') (hn:∀ x∈M,u.heap.size≤x∧x<u'.heap.size):Da w0 d A (M++L) u':=by
 obtain⟨D,h1,h2,h3,h4⟩:=h
 refine⟨D,h1.step hb,h2,h3,fun x hx => ?_⟩
 rcases List.mem_append.1 hx with e | e
 ·exact⟨(hn x e).2,fun hm=>absurd (h1.dk.blt x hm) (Nat.not_lt.2 (hn x e).1)⟩
 ·exact⟨Nat.lt_of_lt_of_le (h4 x e).1 hb.size,(h4 x e).2⟩
theorem Da.dw {D D':Dq} (h1:Dn w0 D u) (h4:∀ x∈L,x<u.heap.size∧x∉D.bl) (hw:Dw u D D' u') (hd:D'.d=d) (ha:D'.ab=A):Da w0 d A L u'∧Kx L u u' :=
 ⟨⟨D',h1.dw hw,hd,ha,fun x hx=>⟨Nat.lt_of_lt_of_le (h4 x hx).1 hw.2.1.size,fun hm=>(hw.2.2 x hm).elim (h4 x hx).2 (fun e=>absurd (h4 x hx).1 (Nat.not_lt.2 e))⟩⟩,hw.2.1.size,fun x hx=>hw.2.1.block x (h4 x hx).1 (h4 x hx).2⟩
def Ad.app (A:Ad) (s:ByteArray) (b:List Nat):Int×Ad :=
 if A.no then (13,A.tick) else if nmd s=false then (2,A.tick) else
 match A.lk s with
 | some f=>if 1048576<f.cn.length+b.length then (3,A.tick) else (0,A.tick.swap s (f.more f.cn.length b))
 | none=>if 64≤A.fs.length then (8,A.tick) else if 1048576<b.length then (3,A.tick) else (0,⟨A.k+1,A.fs++[⟨s,[],[(0,b)],true⟩],A.rf⟩)
def Ad.syn (A:Ad) (s:ByteArray):Int×Ad:=if A.no then (13,A.tick) else match A.lk s with
 | none=>(6,A.tick)
 | some f=>(0,A.tick.swap s ⟨f.nm,f.cn,[],false⟩)
def Ad.cut (A:Ad) (s:ByteArray) (c:Int):Int×Ad:=if A.no then (13,A.tick) else match A.lk s with
 | none=>(6,A.tick)
 | some f=>if 0≤c∧c≤f.cn.length then (0,A.tick.swap s (f.more c.toNat [])) else (2,A.tick)
def Ad.cra (A:Ad) (K:ByteArray→Kv):Ad:=⟨A.k,(A.fs.filter fun f=>f.there (K f.nm).1.2.1 (K f.nm).1.2.2).map fun f=>f.set (K f.nm).1.2.1 (K f.nm).1.2.2,A.rf⟩
def Ad.ren (A:Ad) (f:Af) (s t:ByteArray):Ad:=⟨A.k+1,A.fs.filter (fun g=>decide (g.nm≠s∧g.nm≠t))++[⟨t,f.sf,f.ops,f.fr⟩],A.rf⟩
def gbl (q:Pt8):List Nat:=if q.n=0 then [] else [q.gb]
def Pq (q:Pt8) (u:World):Prop:=Pok q∧(q.p=none→q.cp=0)∧q.rs u
theorem Pq.kx {q:Pt8} {M:List Nat} (h:Pq q u) (hk:Kx M u u') (hm:∀ x∈gbl q,x∈M):Pq q u':=by
 refine⟨h.1,h.2.1,fun hn=>Nat.lt_of_lt_of_le (h.2.2.lt hn) hk.1,fun i hi => ?_⟩
 have e:u'.heap[q.gb]?=u.heap[q.gb]?:=hk.2 _ (hm _ (by unfold gbl;rw[if_neg (by omega)];simp))
 rw[World.cell?_of_block (a:=⟨q.gb,q.o+i,none⟩) e]
 exact h.2.2.at_ i hi
theorem Pq.below {q:Pt8} (h:Pq q u) (hb:Below u.heap.size u u'):Pq q u':=⟨h.1,h.2.1,h.2.2.below hb⟩
theorem app_a (h:Da w0 d A L u) (hk:A.k<1000000000) (ho:∀ f∈A.fs,f.ops.length<1000000) (s:ByteArray) (hs:s.size≤281474976710656) (q:Pt8) (hq:Pq q u) (hL:∀ x∈gbl q,x∈L∨x<w0.heap.size) (hn:q.n≤281474976710656) :
  Calls Tryz.prog 35 #[PT d 0,.string s,.slice q.p q.n q.cp] u fun e u'=>e=.returned (.int .i64 (A.app s (bs q.n q.f)).1)∧Da w0 d (A.app s (bs q.n q.f)).2 L u'∧Kx L u u':=by
 obtain⟨D,h1,rfl,rfl,h4⟩:=h
 have hk:D.k<1000000000:=hk
 have hk1:D.k+1<4611686018427387904:=by omega
 have hms:s.size≤maxLen:=Nat.le_trans hs (by decide)
 have hrq:Rq q D u:=⟨hq.1,hq.2.1,hq.2.2,fun hn hm=>by
  rcases hL q.gb (by unfold gbl;rw[if_neg (by omega)];simp) with e | e
  ·exact(h4 _ e).2 hm
  ·exact absurd e (Nat.not_lt.2 (h1.lo _ hm))⟩
 have hno:D.ab.no=D.no:=rfl
 unfold Ad.app
 by_cases c1:D.no=true
 ·rw[if_pos (hno.trans c1)]
  exact(Append_no_f D s q u h1.dk hk1 c1).mono fun e u' hh=>⟨hh.1,Da.dw h1 h4 hh.2 rfl rfl⟩
 ·have c1:D.no=false:=by simpa using c1
  rw[if_neg (by rw[hno,c1];decide)]
  by_cases c2:nmd s=false
  ·rw[if_pos c2]
   exact(Append_bad_f D s q u h1.dk hk1 c1 c2).mono fun e u' hh=>⟨hh.1,Da.dw h1 h4 hh.2 rfl rfl⟩
  ·have c3:nmd s=true:=by simpa using c2
   rw[if_neg c2,Dq.lk_ab]
   cases hl:lk D.fs s with
   | none =>
    show Calls _ _ _ _ fun e u'=>e=.returned (.int .i64 (if 64≤(D.fs.map Fq.ab).length then _ else _:Int×Ad).1)∧_
    simp only[Option.map_none,List.length_map,bs_len]
    by_cases c4:64≤D.fs.length
    ·simp only[show 64≤D.ab.fs.length by show 64≤(D.fs.map _).length;simpa using c4,c4,if_true]
     exact(Append_full_f D s q u h1.dk hk1 c1 c3 hms hl c4).mono fun e u' hh=>⟨hh.1,Da.dw h1 h4 hh.2 rfl rfl⟩
    ·simp only[show ¬64≤D.ab.fs.length by show ¬64≤(D.fs.map _).length;simpa using c4,c4,if_false]
     by_cases c5:1048576<q.n
     ·simp only[c5,if_true]
      exact(Append_newlong_f D s q u h1.dk hk1 c1 c3 hms hl (by omega) hn c5).mono fun e u' hh=>⟨hh.1,Da.dw h1 h4 hh.2 rfl rfl⟩
     ·simp only[c5,if_false]
      refine(Append_new_f D s hs q u h1.dk hk1 hrq c1 c3 hl (by omega) (by omega)).mono fun e u' hh => ?_
      obtain⟨e1,g,q2,v,e2,e3,e4⟩:=hh
      refine⟨e1,Da.dw h1 h4 e4 rfl ?_⟩
      unfold Dq.ab Dq.add
      simp only[List.map_append,List.map_cons,List.map_nil,Fq.more_ab,e2,e3]
      rfl
   | some f =>
    have hf:=lk_mem hl
    have hF:=h1.dk.fl f hf.1
    have hof:f.ops.length<1000000:=by
     have:=ho f.ab (List.mem_map.2 ⟨f,hf.1,rfl⟩)
     simpa [Fq.ab] using this
    simp only[Option.map_some,bs_len,← Fq.N_ab hF]
    by_cases c5:1048576<f.N+q.n
    ·simp only[c5,if_true]
     exact(Append_long_f D s q u h1.dk hk1 c1 c3 hms f hl hn c5).mono fun e u' hh=>⟨hh.1,Da.dw h1 h4 hh.2 rfl rfl⟩
    ·simp only[c5,if_false]
     refine(Append_hit_f D s hs q f u h1.dk hk1 hrq c1 c3 hl hof (by omega)).mono fun e u' hh => ?_
     obtain⟨e1,q2,v,e2,e3,e4⟩:=hh
     refine⟨e1,Da.dw h1 h4 e4 rfl ?_⟩
     rw[Dq.swap_ab,Fq.more_ab,e2,e3,hf.2]
     rfl
theorem Af.set_len (f:Af):f.set f.ops.length 0=⟨f.nm,f.cn,[],false⟩:=by
 unfold Af.set Af.tl Af.dn Af.cn
 simp
theorem syn_a (h:Da w0 d A L u) (hk:A.k<1000000000) (s:ByteArray) (hs:s.size≤281474976710656) :
  Calls Tryz.prog 37 #[PT d 0,.string s] u fun e u'=>e=.returned (.int .i64 (A.syn s).1)∧Da w0 d (A.syn s).2 L u'∧Kx L u u':=by
 obtain⟨D,h1,rfl,rfl,h4⟩:=h
 have hk:D.k<1000000000:=hk
 have hk1:D.k+1<4611686018427387904:=by omega
 have hms:s.size≤maxLen:=Nat.le_trans hs (by decide)
 refine(Sync_f D s hms u h1.dk hk1).mono fun e u' hh => ?_
 have hno:D.ab.no=D.rf (D.k+1):=rfl
 unfold Ad.syn
 by_cases c1:D.rf (D.k+1)=true
 ·rw[if_pos c1] at hh
  rw[if_pos (hno.trans c1)]
  exact⟨hh.1,Da.dw h1 h4 ⟨hh.2.1,hh.2.2,fun x hx=>.inl hx⟩ rfl rfl⟩
 ·rw[if_neg c1] at hh
  rw[if_neg (by rw[hno];exact c1),Dq.lk_ab]
  cases hl:lk D.fs s with
  | none =>
   rw[hl] at hh
   exact⟨hh.1,Da.dw h1 h4 ⟨hh.2.1,hh.2.2,fun x hx=>.inl hx⟩ rfl rfl⟩
  | some f =>
   rw[hl] at hh
   obtain⟨e1,s',e2,e3,e4⟩:=hh
   have hf:=lk_mem hl
   have hF:=h1.dk.fl f hf.1
   refine⟨e1,Da.dw h1 h4 ⟨e2,e3,fun x hx=>(Dq.swap_bl hx).elim .inl fun hy=>(e4 x hy).elim (fun hz=>.inl (Dq.fbl hf.1 x hz)) .inr⟩ rfl ?_⟩
   rw[Dq.swap_ab,Fq.set_ab hF,hf.2]
   have:(f.ab.set f.ops.length 0)=⟨f.ab.nm,f.ab.cn,[],false⟩:=by
    rw[← Af.set_len];congr 1;simp[Fq.ab]
   rw[this]
   rfl
theorem cut_a (h:Da w0 d A L u) (hk:A.k<1000000000) (ho:∀ f∈A.fs,f.ops.length<1000000) (s:ByteArray) (hs:s.size≤281474976710656) (c:Int) :
  Calls Tryz.prog 169 #[PT d 0,.string s,.int .i64 c] u fun e u'=>e=.returned (.int .i64 (A.cut s c).1)∧Da w0 d (A.cut s c).2 L u'∧Kx L u u':=by
 obtain⟨D,h1,rfl,rfl,h4⟩:=h
 have hk:D.k<1000000000:=hk
 have hk1:D.k+1<4611686018427387904:=by omega
 have hms:s.size≤maxLen:=Nat.le_trans hs (by decide)
 refine(Cut_f D s hms c u h1.dk hk1 (fun f hf=>by simpa [Fq.ab] using ho f.ab (List.mem_map.2 ⟨f,hf,rfl⟩))).mono fun e u' hh => ?_
 have hno:D.ab.no=D.no:=rfl
 unfold Ad.cut
 by_cases c1:D.no=true
 ·rw[if_pos c1] at hh
  rw[if_pos (hno.trans c1)]
  exact⟨hh.1,Da.dw h1 h4 hh.2 rfl rfl⟩
 ·rw[if_neg c1] at hh
  rw[if_neg (by rw[hno];exact c1),Dq.lk_ab]
  cases hl:lk D.fs s with
  | none =>
   rw[hl] at hh
   exact⟨hh.1,Da.dw h1 h4 hh.2 rfl rfl⟩
  | some f =>
   rw[hl] at hh
   have hf:=lk_mem hl
   have hF:=h1.dk.fl f hf.1
   simp only[Option.map_some,← Fq.N_ab hF]
   by_cases c2:0≤c∧c≤f.N
   ·rw[if_pos c2]
    simp only[if_pos c2] at hh
    obtain⟨e1,v,e2⟩:=hh
    refine⟨e1,Da.dw h1 h4 e2 rfl ?_⟩
    rw[Dq.swap_ab,hf.2,show cuto c.toNat=appo c.toNat ⟨0,0,0,0,none,fun _=>0⟩ from rfl,Fq.more_ab]
    rfl
   ·rw[if_neg c2]
    simp only[if_neg c2] at hh
    exact⟨hh.1,Da.dw h1 h4 hh.2 rfl rfl⟩
theorem read_a (h:Da w0 d A L u) (s:ByteArray) (hs:s.size≤281474976710656) :
  Calls Tryz.prog 100 #[PT d 0,.string s] u fun e u'=>Below u.heap.size u u'∧match A.lk s with
   | some f=>∃ q:Pt8,e=.returned (.tuple #[.slice q.p q.n q.cp,.int .i64 0])∧Pq q u'∧bs q.n q.f=f.cn∧Da w0 d A (gbl q++L) u'
   | none=>e=.returned (.tuple #[.slice none 0 0,.int .i64 6])∧Da w0 d A L u':=by
 have h':=h
 obtain⟨D,h1,rfl,rfl,h4⟩:=h
 have hms:s.size≤maxLen:=Nat.le_trans hs (by decide)
 refine(Read_f D s hms u h1.dk).mono fun e u' hh => ?_
 rw[Dq.lk_ab]
 cases hl:lk D.fs s with
 | none =>
  rw[hl] at hh
  exact⟨hh.2,hh.1,h'.step hh.2⟩
 | some f =>
  rw[hl] at hh
  obtain⟨v,e1,e2⟩:=hh
  obtain⟨q,rfl,q1,q2,q3,q4,q5,q6⟩:=e2.part
  refine⟨e2.b,q,e1,⟨q1,q2,q5⟩,?_,h'.add e2.b fun x hx => ?_⟩
  ·rw[q3,q4]
   exact Fq.cn_ab (h1.dk.fl f (lk_mem hl).1)
  ·unfold gbl at hx
   split at hx
   ·cases hx
   ·obtain rfl:=List.mem_singleton.1 hx
    exact⟨q6 (by omega),q5.lt (by omega)⟩
theorem pend_a (h:Da w0 d A L u) (s:ByteArray) (hs:s.size≤281474976710656) :
  Calls Tryz.prog 101 #[PT d 0,.string s] u fun e u'=>e=.returned (.int .i64 ((match A.lk s with | some f=>f.ops.length | none=>0:Nat):Int))∧Below u.heap.size u u':=by
 obtain⟨D,h1,rfl,rfl,h4⟩:=h
 refine(Pending_f D s (Nat.le_trans hs (by decide)) u h1.dk).mono fun e u' hh => ?_
 rw[Dq.lk_ab]
 cases hl:lk D.fs s with
 | none=>rw[hl] at hh;exact hh
 | some f =>
  rw[hl] at hh
  refine⟨hh.1.trans ?_,hh.2⟩
  simp[Fq.ab]
theorem crash_a (h:Da w0 d A L u) (a:Option Addr) (len cap:Nat) (zs:Nat→Kv) (hlen:len≤1152921504606846976) (hK:Kps u.heap.size u (.slice a len cap) len zs) :
  Calls Tryz.prog 22 #[PT d 0,.slice a len cap] u fun e u'=>e=.returned (.int .i64 0)∧Da w0 d (A.cra (kof (kup (kbk len zs) len))) L u'∧Kx L u u':=by
 obtain⟨D,h1,rfl,rfl,h4⟩:=h
 refine(Crash_f D a len cap zs hlen u h1.dk hK).mono fun e u' hh => ?_
 obtain⟨e1,σ,e2⟩:=hh
 refine⟨e1,Da.dw h1 h4 e2 rfl ?_⟩
 generalize kof (kup (kbk len zs) len)=K
 unfold Dq.aft Ad.cra Dq.ab
 have e3:∀ fs:List Fq,(∀ f∈fs,FOk u f)→((fs.filter (Fq.stay K)).map (Fq.aft K σ)).map Fq.ab=((fs.map Fq.ab).filter fun f=>f.there (K f.nm).1.2.1 (K f.nm).1.2.2).map fun f=>f.set (K f.nm).1.2.1 (K f.nm).1.2.2:=by
  intro fs
  induction fs with
  | nil=>intro _;rfl
  | cons f r ih =>
   intro hf
   have i2:=ih fun g hg=>hf g (List.mem_cons_of_mem _ hg)
   have e4:f.stay K=f.ab.there (K f.ab.nm).1.2.1 (K f.ab.nm).1.2.2:=Fq.there_ab ..
   rw[List.map_cons,List.filter_cons,List.filter_cons,e4]
   split
   ·rw[List.map_cons,List.map_cons,List.map_cons,i2]
    congr 1
    exact Fq.set_ab (hf f (List.mem_cons_self ..)) ..
   ·exact i2
 rw[e3 D.fs h1.dk.fl]
theorem ren_ok_a (h:Da w0 d A L u) (hk:A.k<1000000000) (s t:ByteArray) (hs:s.size≤281474976710656) (ht:t.size≤281474976710656) (hn:nmd t=true) (hno:A.no=false) (f:Af) (hl:A.lk s=some f) (ho:f.ops=[]) :
  Calls Tryz.prog 112 #[PT d 0,.string s,.string t] u fun e u'=>e=.returned (.int .i64 0)∧Da w0 d (A.ren f s t) L u'∧Kx L u u':=by
 obtain⟨D,h1,rfl,rfl,h4⟩:=h
 have hk:D.k<1000000000:=hk
 rw[Dq.lk_ab] at hl
 obtain⟨f',hl',rfl⟩:=Option.map_eq_some_iff.1 hl
 refine(Rename_ok_f D s t (Nat.le_trans hs (by decide)) ht hn f' u h1.dk (by omega) hno hl' (by
  have:=congrArg List.length ho
  simpa [Fq.ab] using this)).mono fun e u' hh => ?_
 refine⟨hh.1,Da.dw h1 h4 hh.2 rfl ?_⟩
 unfold Ad.ren Dq.ren Dq.ab Dq.tick
 simp only[List.map_append,List.map_cons,List.map_nil]
 congr 2
 ·induction D.fs with
  | nil=>rfl
  | cons x r ih =>
   simp only[List.filter_cons,List.map_cons]
   show _=if decide (x.nm≠s∧x.nm≠t)=true then _ else _
   split
   ·rw[List.map_cons,ih]
   ·exact ih
theorem Nw.lo2 {w u:World} {d mb rb m:Nat} {rf:Nat→Bool} (h:Nw w d mb rb rf m u):∀ x∈Dq.bl ⟨d,mb,rb,0,[],rf⟩,w.heap.size≤x:=fun x hx=>by
 have h1:=h.two.nm
 have h2:=h.nr
 have h3:=h.nd
 have:x=d∨x=mb∨x=rb:=by simpa [Dq.bl] using hx
 omega
theorem new_a {w:World} {d mb rb m:Nat} {rf:Nat→Bool} (h:Nw w d mb rb rf m u):Da w d ⟨0,[],rf⟩ [] u:=⟨⟨d,mb,rb,0,[],rf⟩,⟨h.two.b,h.disk,h.lo2⟩,rfl,rfl,fun _ hx=>by cases hx⟩
theorem names1_a (h:Da w0 d A L u) (s:ByteArray) (hA:A.fs.map Af.nm=[s]) :
  Calls Tryz.prog 25 #[PT d 0] u fun e u'=>∃ g o c,e=.returned (.slice (some ⟨g,o,none⟩) 1 c)∧Below u.heap.size u u'∧u.heap.size≤g∧g<u'.heap.size∧u'.cell? ⟨g,o,none⟩=some (.string s):=by
 obtain⟨D,h1,rfl,rfl,h4⟩:=h
 refine(Names_f D u h1.dk).mono fun e u' hh => ?_
 obtain⟨v,ss,rfl,hp,hr,hv,hb⟩:=hh
 have e1:(D.fs.map fun f=>f.nm.data.toList)=[s.data.toList]:=by
  have:(D.fs.map Fq.nm)=[s]:=by
   rw[← hA];unfold Dq.ab;simp[Fq.ab]
  rw[show (fun f:Fq=>f.nm.data.toList)=(fun x:ByteArray=>x.data.toList) ∘ Fq.nm from rfl,← List.map_map,this]
  rfl
 rw[e1] at hp
 have e2:=List.perm_singleton.1 hp
 subst e2
 rcases hr.2 with ⟨_,h0⟩ | ⟨g,cap,cur,rfl,hg,_⟩
 ·cases h0
 ·refine⟨g,0,cap,rfl,hb,hg,(World.ownsRow.lt hr g rfl).2,?_⟩
  exact World.ownsRow.cells hr (g:=g) rfl 0 (.string s) (by rw[List.mergeSort_singleton];rfl)
end
end Wi
end Rg
end Go.Proofs.YtmcpagjhpfbpgaaGreatDoor
end
section
namespace Go.Proofs.YtmcpagjhpfbpgaaGreatDoor
open Go.RowKit
namespace Rg
namespace Wi
theorem call165:CO 165:=by intro args w;go_simp
set_option maxRecDepth 100000
abbrev W32 (n:Nat):Value:=.int .u32 (n:Int)
def shf (n:Nat):Nat:=if an n 1=1 then xo (sr n 1) 3988292384 else sr n 1
def shN (n:Nat):Nat→Nat
 | 0=>n
 | k+1=>shf (shN n k)
def crt (i:Nat):Nat:=shN (c32 i) 8
def xb (a b:Nat):Nat:=(a ^^^ b) % 256
def cst (n c:Nat):Nat:=xo (sr n 8) (crt (xb (n % 256) c))
def crn (f:Nat→Nat):Nat→Nat
 | 0=>4294967295
 | k+1=>cst (crn f k) (f k)
def crc (f:Nat→Nat) (n:Nat):Nat:=nt (crn f n)
theorem xo_lt (a b:Nat):xo a b<4294967296:=Nat.mod_lt _ (by decide)
theorem xb_lt (a b:Nat):xb a b<256:=Nat.mod_lt _ (by decide)
theorem crn_cg {f g:Nat→Nat}:∀ {k:Nat},(∀ j,j<k→f j=g j)→crn f k=crn g k
 | 0,_=>rfl
 | k+1,h=>by
  show cst (crn f k) (f k)=cst (crn g k) (g k)
  rw[crn_cg (fun j hj=>h j (Nat.lt_succ_of_lt hj)),h k (Nat.lt_succ_self k)]
theorem crc_cg {f g:Nat→Nat} {k:Nat} (h:∀ j,j<k→f j=g j):crc f k=crc g k:=by
 unfold crc
 rw[crn_cg h]
theorem crc_lt (f:Nat→Nat) (k:Nat):crc f k<4294967296:=xo_lt _ _
def by4 (n:Nat) (j:Nat):Nat:=[sr n 24 % 256,sr n 16 % 256,sr n 8 % 256,n % 256].getD j 0
def nb4 (a b c d:Nat):Nat:=ou (ou (ou (sl (c32 a) 24) (sl (c32 b) 16)) (sl (c32 c) 8)) (c32 d)
theorem nb4_eq {a b c d:Nat} (ha:a<256) (hb:b<256) (hc:c<256) (hd:d<256):nb4 a b c d=a*16777216+b*65536+c*256+d:=by
 unfold nb4 sl c32 ou
 rw[Nat.mod_eq_of_lt (show a<4294967296 by omega),Nat.mod_eq_of_lt (show b<4294967296 by omega),Nat.mod_eq_of_lt (show c<4294967296 by omega),Nat.mod_eq_of_lt (show d<4294967296 by omega)]
 rw[Nat.mod_eq_of_lt (show a*2 ^ 24<4294967296 by omega),Nat.mod_eq_of_lt (show b*2 ^ 16<4294967296 by omega),Nat.mod_eq_of_lt (show c*2 ^ 8<4294967296 by omega)]
 have e1:a*2 ^ 24 ||| b*2 ^ 16=a*16777216+b*65536:=by
  rw[Nat.mul_comm a,← Nat.two_pow_add_eq_or_of_lt (show b*2 ^ 16<2 ^ 24 by omega),Nat.mul_comm]
 rw[e1,Nat.mod_eq_of_lt (show a*16777216+b*65536<4294967296 by omega)]
 have e2:(a*16777216+b*65536) ||| c*2 ^ 8=a*16777216+b*65536+c*256:=by
  rw[show a*16777216+b*65536=2 ^ 16*(a*256+b) by omega,← Nat.two_pow_add_eq_or_of_lt (show c*2 ^ 8<2 ^ 16 by omega)]
 rw[e2,Nat.mod_eq_of_lt (show a*16777216+b*65536+c*256<4294967296 by omega)]
 rw[show a*16777216+b*65536+c*256=2 ^ 8*(a*65536+b*256+c) by omega,← Nat.two_pow_add_eq_or_of_lt (show d<2 ^ 8 by omega)]
 rw[Nat.mod_eq_of_lt (by omega)]
theorem by4_lt (n j:Nat):by4 n j<256:=by
 unfold by4
 match j with
 | 0=>exact Nat.mod_lt _ (by decide)
 | 1=>exact Nat.mod_lt _ (by decide)
 | 2=>exact Nat.mod_lt _ (by decide)
 | 3=>exact Nat.mod_lt _ (by decide)
 | k+4=>show (0:Nat)<256;decide
theorem nb4_by4 {n:Nat} (h:n<4294967296):nb4 (by4 n 0) (by4 n 1) (by4 n 2) (by4 n 3)=n:=by
 rw[nb4_eq (by4_lt _ _) (by4_lt _ _) (by4_lt _ _) (by4_lt _ _)]
 show sr n 24 % 256*16777216+sr n 16 % 256*65536+sr n 8 % 256*256+n % 256=n
 unfold sr
 omega
theorem ints_patch (ik:IntKind) (f:Nat→Nat) {n:Nat} (j v:Nat) (h:j<n):patch (zN ik f n) j [.int ik (v:Int)]=zN ik (up f j v) n:=by
 apply List.ext_getElem?
 intro k
 rw[patch_get _ _ _ (by rw[zO];simp;omega)]
 by_cases hk:k<n
 ·rw[ints_get _ _ hk,ints_get _ _ hk]
  unfold up
  by_cases e:k=j
  ·rw[if_pos (by simp;omega),if_pos e,e]
   simp
  ·rw[if_neg (by simp;omega),if_neg e]
 ·rw[if_neg (by simp;omega),ints_none _ _ (by omega),ints_none _ _ (by omega)]
theorem ints_patch0 (ik:IntKind) (f f':Nat→Nat) (n:Nat):patch (zN ik f n) 0 (zN ik f' n)=zN ik f' n:=by
 apply List.ext_getElem?
 intro k
 rw[patch_get _ _ _ (by rw[zO,zO];omega)]
 by_cases hk:k<n
 ·rw[if_pos (by rw[zO];omega),Nat.sub_zero]
 ·rw[if_neg (by rw[zO];omega),ints_none _ _ (by omega),ints_none _ _ (by omega)]
theorem ofInt32 (a:Nat):(BitVec.ofInt 32 (a:Int)).toNat=a % 4294967296:=by
 rw[BitVec.ofInt_natCast,BitVec.toNat_ofNat]
theorem wrap32 (a:Nat):IntKind.u32.wrap (a:Int)=((a % 4294967296:Nat):Int):=by
 simp[IntKind.wrap,IntKind.bits,IntKind.signed]
theorem bits_and32 (a b:Nat):bits .and .u32 (a:Int) (b:Int)=((an a b:Nat):Int):=by
 show IntKind.u32.wrap ((BitVec.ofInt 32 (a:Int) &&& BitVec.ofInt 32 (b:Int)).toNat:Int)=_
 rw[BitVec.toNat_and,ofInt32,ofInt32,wrap32]
 unfold an
 rw[← Nat.and_mod_two_pow (n:=32),Nat.mod_mod]
theorem bits_or32 (a b:Nat):bits .or .u32 (a:Int) (b:Int)=((ou a b:Nat):Int):=by
 show IntKind.u32.wrap ((BitVec.ofInt 32 (a:Int) ||| BitVec.ofInt 32 (b:Int)).toNat:Int)=_
 rw[BitVec.toNat_or,ofInt32,ofInt32,wrap32]
 unfold ou
 rw[← Nat.or_mod_two_pow (n:=32),Nat.mod_mod]
theorem bits_xor32 (a b:Nat):bits .xor .u32 (a:Int) (b:Int)=((xo a b:Nat):Int):=by
 show IntKind.u32.wrap ((BitVec.ofInt 32 (a:Int) ^^^ BitVec.ofInt 32 (b:Int)).toNat:Int)=_
 rw[BitVec.toNat_xor,ofInt32,ofInt32,wrap32]
 unfold xo
 rw[← Nat.xor_mod_two_pow (n:=32),Nat.mod_mod]
theorem bits_xor8 (a b:Nat):bits .xor .u8 (a:Int) (b:Int)=((xb a b:Nat):Int):=by
 have h1:∀ k:Nat,(BitVec.ofInt 8 (k:Int)).toNat=k % 256:=fun k=>by rw[BitVec.ofInt_natCast,BitVec.toNat_ofNat]
 show IntKind.u8.wrap ((BitVec.ofInt 8 (a:Int) ^^^ BitVec.ofInt 8 (b:Int)).toNat:Int)=_
 rw[BitVec.toNat_xor,h1,h1,← Nat.xor_mod_two_pow (n:=8)]
 unfold xb
 simp[IntKind.wrap,IntKind.bits,IntKind.signed]
section
variable {ρ:Operand→Value} {o:Oper} {x y:Operand} {a b k g off j n:Nat} {w:World}
theorem ex_and32 (ho:o.op=.binOp .and 167 x y 167) (hx:ρ x=W32 a) (hy:ρ y=W32 b):(execOp ρ o).run Tryz.prog w=.ok (.value (W32 (an a b))) w:=by
 simp only[execOp,ho,hx,hy]
 clear ho hx hy
 have e:=bits_and32 a b
 go_simp
theorem ex_or32 (ho:o.op=.binOp .or 167 x y 167) (hx:ρ x=W32 a) (hy:ρ y=W32 b):(execOp ρ o).run Tryz.prog w=.ok (.value (W32 (ou a b))) w:=by
 simp only[execOp,ho,hx,hy]
 clear ho hx hy
 have e:=bits_or32 a b
 go_simp
theorem ex_xor32 (ho:o.op=.binOp .xor 167 x y 167) (hx:ρ x=W32 a) (hy:ρ y=W32 b):(execOp ρ o).run Tryz.prog w=.ok (.value (W32 (xo a b))) w:=by
 simp only[execOp,ho,hx,hy]
 clear ho hx hy
 have e:=bits_xor32 a b
 go_simp
theorem ex_xor8 (ho:o.op=.binOp .xor 5 x y 5) (hx:ρ x=Z8 a) (hy:ρ y=Z8 b):(execOp ρ o).run Tryz.prog w=.ok (.value (Z8 (xb a b))) w:=by
 have e:=bits_xor8 a b
 simp only[execOp,ho,hx,hy]
 clear ho hx hy
 go_simp
theorem ex_not32 (ho:o.op=.unOp .xor 167 x) (hx:ρ x=W32 a):(execOp ρ o).run Tryz.prog w=.ok (.value (W32 (nt a))) w:=by
 simp only[execOp,ho,hx]
 clear ho hx
 go_simp
 exact bits_xor32 4294967295 a
theorem ex_shl32 {ik:IntKind} {t:TypeId} (hk:k<32) (ho:o.op=.binOp .shl 167 x y t) (hx:ρ x=W32 a) (hy:ρ y=.int ik (k:Int)):(execOp ρ o).run Tryz.prog w=.ok (.value (W32 (sl a k))) w:=by
 simp only[execOp,ho,hx,hy]
 clear ho hx hy
 have hs:=shift_shl_any .u32 ik (a:Int) (k:Int) (by omega)
 have e:min ((k:Int).toNat) IntKind.u32.bits=k:=by rw[Int.toNat_natCast];show min k 32=k;omega
 rw[e,show (a:Int)*2 ^ k=((a*2 ^ k:Nat):Int) by rw[Int.natCast_mul,Int.natCast_pow];rfl,wrap32] at hs
 go_simp
 unfold sl
 rw[Int.natCast_emod,Int.natCast_mul,Int.natCast_pow]
 rfl
theorem ex_shr32 {ik:IntKind} {t:TypeId} (hk:k<33) (ho:o.op=.binOp .shr 167 x y t) (hx:ρ x=W32 a) (hy:ρ y=.int ik (k:Int)):(execOp ρ o).run Tryz.prog w=.ok (.value (W32 (sr a k))) w:=by
 simp only[execOp,ho,hx,hy]
 clear ho hx hy
 have hs:=shift_shr_any .u32 ik (a:Int) (k:Int) (by omega)
 have e:min ((k:Int).toNat) IntKind.u32.bits=k:=by rw[Int.toNat_natCast];show min k 32=k;omega
 rw[e,show (a:Int) / 2 ^ k=((a / 2 ^ k:Nat):Int) by rw[Int.natCast_ediv,Int.natCast_pow];rfl] at hs
 go_simp
 unfold sr
 rw[Int.natCast_ediv,Int.natCast_pow]
 rfl
theorem ex_cvBW (ho:o.op=.convert 5 167 x) (hx:ρ x=Z8 a):(execOp ρ o).run Tryz.prog w=.ok (.value (W32 (c32 a))) w:=by
 simp only[execOp,ho,hx]
 clear ho hx
 go_simp
 exact wrap32 a
theorem ex_cvWB (ho:o.op=.convert 167 5 x) (hx:ρ x=W32 a):(execOp ρ o).run Tryz.prog w=.ok (.value (Z8 (a % 256))) w:=by
 simp only[execOp,ho,hx]
 clear ho hx
 go_simp
 simp[IntKind.wrap,IntKind.bits,IntKind.signed]
theorem ex_cvIW (ho:o.op=.convert 3 167 x) (hx:ρ x=.int .i64 (a:Int)):(execOp ρ o).run Tryz.prog w=.ok (.value (W32 (c32 a))) w:=by
 simp only[execOp,ho,hx]
 clear ho hx
 go_simp
 exact wrap32 a
theorem ex_cvWI (h:a<4294967296) (ho:o.op=.convert 167 3 x) (hx:ρ x=W32 a):(execOp ρ o).run Tryz.prog w=.ok (.value (.int .i64 (a:Int))) w:=by
 simp only[execOp,ho,hx]
 clear ho hx
 go_simp
 rw[IntKind.wrap_i64]
 omega
theorem ex_eq32 {c:Bool} (h:decide (a=b)=c) (ho:o.op=.binOp .eql 167 x y 167) (hx:ρ x=W32 a) (hy:ρ y=W32 b):(execOp ρ o).run Tryz.prog w=.ok (.value (.bool c)) w:=by
 subst h
 simp only[execOp,ho,hx,hy]
 clear ho hx hy
 go_simp
 by_cases e:a=b
 ·subst e;simp
 ·rw[decide_eq_false e]
  exact beq_eq_false_iff_ne.2 (by omega)
theorem ex_gt32 {c:Bool} (h:decide (b<a)=c) (ho:o.op=.binOp .gtr 167 x y 167) (hx:ρ x=W32 a) (hy:ρ y=W32 b):(execOp ρ o).run Tryz.prog w=.ok (.value (.bool c)) w:=by
 subst h
 simp only[execOp,ho,hx,hy]
 clear ho hx hy
 go_simp
theorem ex_mkT (ho:o.op=.alloc 169):(execOp ρ o).run Tryz.prog w=.ok (.value (.pointer (some ⟨w.heap.size,0,none⟩))) (w.alloc (.cells (zN .u32 (fun _=>0) 256).toArray 169)):=by
 simp only[execOp,ho]
 go_simp
 rfl
theorem ex_ixT1 (ho:o.op=.indexAddr 169 x y) (hx:ρ x=PT g 0) (hy:ρ y=.int .i64 ((j:Nat):Int)) (hj:j<256):(execOp ρ o).run Tryz.prog w=.ok (.value (PT g j)) w:=by
 have h1:(j:Int)<256:=by omega
 simp only[execOp,ho,hx,hy]
 clear ho hx hy
 go_simp
theorem ex_ixT8 (ho:o.op=.indexAddr 169 x y) (hx:ρ x=PT g off) (hy:ρ y=Z8 j) (hj:j<256):(execOp ρ o).run Tryz.prog w=.ok (.value (PT g (off+j))) w:=by
 have h1:(j:Int)<256:=by omega
 simp only[execOp,ho,hx,hy]
 clear ho hx hy
 go_simp
end
structure Tb (g t:Nat) (w:World):Prop where
 lt:g<w.heap.size
 at_:∀ i,i<256→w.cell? ⟨g,t+i,none⟩=some (W32 (crt i))
theorem Tb.keep {g t:Nat} {w w':World} (h:Tb g t w) (hs:w.heap.size≤w'.heap.size) (hb:w'.heap[g]?=w.heap[g]?):Tb g t w':=⟨Nat.lt_of_lt_of_le h.lt hs,fun i hi=>(World.cell?_of_block (a:=⟨g,t+i,none⟩) hb).trans (h.at_ i hi)⟩
theorem Tb.below {g t:Nat} {w w':World} (h:Tb g t w) (hb:Below w.heap.size w w'):Tb g t w':=h.keep hb.size (hb.block g h.lt)
theorem Tb.mm {g:Nat} {w:World} (h:Mm w [(g,zN .u32 crt 256)]):Tb g 0 w:=⟨(h.blk _ (List.mem_cons_self ..)).1,fun i hi=>by rw[Nat.zero_add];exact h.get 0 rfl i (ints_get _ _ hi)⟩
theorem ex_ldT {ρ:Operand→Value} {o:Oper} {x:Operand} {g t j:Nat} {w:World} (h:Tb g t w) (hj:j<256) (ho:o.op=.load 167 x) (hx:ρ x=PT g (t+j)):(execOp ρ o).run Tryz.prog w=.ok (.value (W32 (crt j))) w:=by
 have c0:=h.at_ j hj
 clear h
 simp only[execOp,ho,hx]
 clear ho hx
 go_simp
def tbf:Nat→Nat→Nat
 | 0=>fun _=>0
 | k+1=>up (tbf k) k (crt k)
theorem tbf_at:∀ (k j:Nat),j<k→tbf k j=crt j
 | 0,_,h=>absurd h (Nat.not_lt_zero _)
 | k+1,j,h=>by
  show up (tbf k) k (crt k) j=_
  unfold up
  by_cases e:j=k
  ·rw[if_pos e,e]
  ·rw[if_neg e]
   exact tbf_at k j (by omega)
theorem tbf_all:zN .u32 (tbf 256) 256=zN .u32 crt 256:=ints_congr (fun j hj=>tbf_at 256 j hj)
theorem shf_one {n:Nat} (h:an n 1=1):shf n=xo (sr n 1) 3988292384:=if_pos h
theorem shf_two {n:Nat} (h:an n 1≠1):shf n=sr n 1:=if_neg h
theorem shifted_1 (n:Nat) (hn:an n 1=1) (w:World) :
  Calls Tryz.prog 165 #[W32 n] w (Rt w (W32 (xo (sr n 1) 3988292384))):=by
 have H0:Hid (_∧_):=⟨Mm.nil w,Below.refl w.heap.size w⟩
 go_enter Tryz.func165,Tryz.ntmps165
 refine wp_seq ?_
 refine zG (l:=[0]) rfl (fun u0 hu0 => ?_)
 have H1:Hid (Mm u0 []∧Below w.heap.size w u0):=by rw[hu0];exact H0
 clear hu0 H0
 refine zA (d:=2) (v:=.int .u32 0) (w':=u0) rfl rfl rfl rfl ?_
 simp only[Act.put,sa,sz,ss]
 refine zC (zB ?_)
 refine wp_seq (wp_seq ?_)
 refine zD (l:=[0,1,2]) rfl ?_
 refine zA (d:=3) (v:=W32 n) (w':=u0) rfl rfl rfl rfl ?_
 simp only[Act.put,sa,sz,ss]
 refine zA (d:=4) (v:=W32 (an n 1)) (w':=u0) rfl rfl rfl (ex_and32 (a:=n) (b:=1) rfl rfl rfl) ?_
 simp only[Act.put,sa,sz,ss]
 refine zA (d:=5) (v:=.bool true) (w':=u0) rfl rfl rfl (ex_eq32 (a:=an n 1) (b:=1) (decide_eq_true hn) rfl rfl rfl) ?_
 simp only[Act.put,sa,sz,ss]
 refine zC (zB ?_)
 refine wp_cond_true rfl (wp_seq ?_)
 refine zD (l:=[0,1,2,3]) rfl ?_
 refine zA (d:=6) (v:=W32 n) (w':=u0) rfl rfl rfl rfl ?_
 simp only[Act.put,sa,sz,ss]
 refine zA (d:=7) (v:=W32 (sr n 1)) (w':=u0) rfl rfl rfl (ex_shr32 (k:=1) (by decide) rfl rfl rfl) ?_
 simp only[Act.put,sa,sz,ss]
 refine zA (d:=8) (v:=W32 (xo (sr n 1) 3988292384)) (w':=u0) rfl rfl rfl (ex_xor32 (a:=sr n 1) (b:=3988292384) rfl rfl rfl) ?_
 simp only[Act.put,sa,sz,ss]
 refine zA (d:=2) (v:=W32 (xo (sr n 1) 3988292384)) (w':=u0) rfl rfl rfl rfl ?_
 simp only[Act.put,sa,sz,ss]
 refine zC (zB (wp_ret ?_))
 repeat (first | refine zI ?_ | refine zH ?_)
 refine bodyPost_ret (v:=W32 (xo (sr n 1) 3988292384)) (by simp[results,Tryz.results165,go_sem, *]) rfl ?_
 exact⟨rfl,H1.out.2⟩
theorem shifted_0 (n:Nat) (hn:¬an n 1=1) (w:World) :
  Calls Tryz.prog 165 #[W32 n] w (Rt w (W32 (sr n 1))):=by
 have H0:Hid (_∧_):=⟨Mm.nil w,Below.refl w.heap.size w⟩
 go_enter Tryz.func165,Tryz.ntmps165
 refine wp_seq ?_
 refine zG (l:=[0]) rfl (fun u0 hu0 => ?_)
 have H1:Hid (Mm u0 []∧Below w.heap.size w u0):=by rw[hu0];exact H0
 clear hu0 H0
 refine zA (d:=2) (v:=.int .u32 0) (w':=u0) rfl rfl rfl rfl ?_
 simp only[Act.put,sa,sz,ss]
 refine zC (zB ?_)
 refine wp_seq (wp_seq ?_)
 refine zD (l:=[0,1,2]) rfl ?_
 refine zA (d:=3) (v:=W32 n) (w':=u0) rfl rfl rfl rfl ?_
 simp only[Act.put,sa,sz,ss]
 refine zA (d:=4) (v:=W32 (an n 1)) (w':=u0) rfl rfl rfl (ex_and32 (a:=n) (b:=1) rfl rfl rfl) ?_
 simp only[Act.put,sa,sz,ss]
 refine zA (d:=5) (v:=.bool false) (w':=u0) rfl rfl rfl (ex_eq32 (a:=an n 1) (b:=1) (decide_eq_false hn) rfl rfl rfl) ?_
 simp only[Act.put,sa,sz,ss]
 refine zC (zB ?_)
 refine wp_cond_false rfl (wp_skip ?_)
 refine zB (wp_seq ?_)
 refine zD (l:=[0,1,2]) rfl ?_
 refine zA (d:=9) (v:=W32 n) (w':=u0) rfl rfl rfl rfl ?_
 simp only[Act.put,sa,sz,ss]
 refine zA (d:=10) (v:=W32 (sr n 1)) (w':=u0) rfl rfl rfl (ex_shr32 (k:=1) (by decide) rfl rfl rfl) ?_
 simp only[Act.put,sa,sz,ss]
 refine zA (d:=2) (v:=W32 (sr n 1)) (w':=u0) rfl rfl rfl rfl ?_
 simp only[Act.put,sa,sz,ss]
 refine zC (zB (wp_ret ?_))
 repeat (first | refine zI ?_ | refine zH ?_)
 refine bodyPost_ret (v:=W32 (sr n 1)) (by simp[results,Tryz.results165,go_sem, *]) rfl ?_
 exact⟨rfl,H1.out.2⟩
theorem shifted_any (n:Nat) (w:World):Calls Tryz.prog 165 #[W32 n] w (Rt w (W32 (shf n))):=by
 by_cases h:an n 1=1
 ·rw[shf_one h]
  exact shifted_1 n h w
 ·rw[shf_two h]
  exact shifted_0 n h w
theorem newTable_any  (w:World) :
  Calls Tryz.prog 146 #[] w (Rt w (.agg (zN .u32 crt 256).toArray)):=by
 have H0:Hid (_∧_):=⟨Mm.nil w,Below.refl w.heap.size w⟩
 go_enter Tryz.func146,Tryz.ntmps146
 refine wp_seq ?_
 refine zG (l:=[0]) rfl (fun u0 hu0 => ?_)
 have H1:Hid (Mm u0 []∧Below w.heap.size w u0):=by rw[hu0];exact H0
 clear hu0 H0
 refine zA (d:=0) (v:=PT u0.heap.size 0) (w':=(u0.alloc (.cells (zN .u32 (fun _=>0) 256:List Value).toArray 169))) rfl rfl rfl (ex_mkT rfl) ?_
 simp only[Act.put,List.setIfInBounds_toArray,List.set_cons_zero]
 have o_γs2:Hid (w.heap.size≤u0.heap.size):=H1.out.2.size
 have H2:Hid (Mm (u0.alloc (.cells (zN .u32 (fun _=>0) 256:List Value).toArray 169)) ((u0.heap.size,zN .u32 (fun _=>0) 256) :: [])∧Below w.heap.size w (u0.alloc (.cells (zN .u32 (fun _=>0) 256:List Value).toArray 169))):=⟨H1.out.1.alloc _ 169 rfl,H1.out.2.trans (((Below.refl _ _).alloc (Nat.le_refl _) _).mono H1.out.2.size)⟩
 clear H1
 generalize hgw:u0.alloc (.cells (zN .u32 (fun _=>0) 256:List Value).toArray 169)=w2 at H2 ⊢
 clear hgw
 generalize u0.heap.size=γs2 at o_γs2 H2 ⊢
 refine zC (zB (wp_seq ?_))
 refine zD (l:=[0]) rfl ?_
 refine zA (d:=1) (v:=PT w2.heap.size 0) (w':=(w2.alloc (.cells (zN .u32 (fun _=>0) 256:List Value).toArray 169))) rfl rfl rfl (ex_mkT rfl) ?_
 simp only[Act.put,sa,sz,ss]
 have o_γs3:Hid (w.heap.size≤w2.heap.size):=H2.out.2.size
 have H3:Hid (Mm (w2.alloc (.cells (zN .u32 (fun _=>0) 256:List Value).toArray 169)) ((w2.heap.size,zN .u32 (fun _=>0) 256) :: [(γs2,zN .u32 (fun _=>0) 256)])∧Below w.heap.size w (w2.alloc (.cells (zN .u32 (fun _=>0) 256:List Value).toArray 169))):=⟨H2.out.1.alloc _ 169 rfl,H2.out.2.trans (((Below.refl _ _).alloc (Nat.le_refl _) _).mono H2.out.2.size)⟩
 clear H2
 generalize hgw:w2.alloc (.cells (zN .u32 (fun _=>0) 256:List Value).toArray 169)=w3 at H3 ⊢
 clear hgw
 generalize w2.heap.size=γs3 at o_γs3 H3 ⊢
 refine zC (zB ?_)
 refine wp_seq (wp_seq ?_)
 refine zD (l:=[0]) rfl ?_
 refine zA (d:=4) (v:=.int .i64 0) (w':=w3) rfl rfl rfl rfl ?_
 simp only[Act.put,sa,sz,ss]
 refine zC (zB (wp_block ?_))
 refine loop_ghost (α:=Nat) (fun x a' w'=>∃ s0:Nat→Value,a'=⟨#[PT γs2 0,PT γs3 0,s0 2,s0 3,.int .i64 ((x:Nat):Int),s0 5,s0 6,s0 7,s0 8,s0 9,s0 10,s0 11,s0 12,s0 13,s0 14,s0 15,s0 16,s0 17,undef],[]⟩∧(Mm w' [(γs3,zN .u32 (tbf x) 256),(γs2,zN .u32 (fun _=>0) 256)]∧Below w.heap.size w w')∧x≤256) (fun x=>256 - x) 0 ?st0 ?rd0
 case st0=>exact⟨(slotfn [ud,ud,ud,ud,ud,ud,ud,ud,ud,ud,ud,ud,ud,ud,ud,ud,ud,ud]),rfl,⟨H3.out.1,H3.out.2⟩,Nat.zero_le _⟩
 intro x a' w4 hI
 obtain⟨s0,rfl,hMB,hk0⟩:=hI
 have H4:Hid (_∧_):=hMB
 clear hMB H3
 by_cases hltx:x<256
 ·have hrd:True:=trivial
  clear hrd
  refine wp_seq ?_
  refine zD (l:=[0]) rfl ?_
  refine zA (d:=5) (v:=.bool true) (w':=w4) rfl rfl rfl (by go_simp <;> omega) ?_
  simp only[Act.put,sa,sz,ss]
  refine zC (zB ?_)
  refine wp_seq (wp_cond_true rfl ?_)
  refine wp_skip (zB ?_)
  refine wp_seq (wp_block (wp_seq ?_))
  refine zD (l:=[0,1]) rfl ?_
  refine zA (d:=6) (v:=.int .i64 ((x:Nat):Int)) (w':=w4) rfl rfl rfl rfl ?_
  simp only[Act.put,sa,sz,ss]
  refine zA (d:=2) (v:=.int .i64 ((x:Nat):Int)) (w':=w4) rfl rfl rfl rfl ?_
  simp only[Act.put,sa,sz,ss]
  refine zC (zB (wp_seq ?_))
  refine zD (l:=[0,1,2]) rfl ?_
  refine zA (d:=7) (v:=.int .i64 ((x:Nat):Int)) (w':=w4) rfl rfl rfl rfl ?_
  simp only[Act.put,sa,sz,ss]
  refine zA (d:=8) (v:=W32 (c32 x)) (w':=w4) rfl rfl rfl (ex_cvIW (a:=x) rfl rfl) ?_
  simp only[Act.put,sa,sz,ss]
  refine zA (d:=3) (v:=W32 (c32 x)) (w':=w4) rfl rfl rfl rfl ?_
  simp only[Act.put,sa,sz,ss]
  refine zC (zB ?_)
  refine wp_seq (wp_seq ?_)
  refine zD (l:=[0]) rfl ?_
  refine zA (d:=9) (v:=.int .i64 0) (w':=w4) rfl rfl rfl rfl ?_
  simp only[Act.put,sa,sz,ss]
  refine zC (zB (wp_block ?_))
  refine loop_ghost (α:=Nat) (fun y a' w'=>∃ s2:Nat→Value,a'=⟨#[PT γs2 0,PT γs3 0,.int .i64 ((x:Nat):Int),W32 (shN (c32 x) y),.int .i64 ((x:Nat):Int),.bool true,.int .i64 ((x:Nat):Int),.int .i64 ((x:Nat):Int),W32 (c32 x),.int .i64 ((y:Nat):Int),s2 10,s2 11,s2 12,s2 13,s0 14,s0 15,s0 16,s0 17,undef],[]⟩∧(Mm w' [(γs3,zN .u32 (tbf x) 256),(γs2,zN .u32 (fun _=>0) 256)]∧Below w.heap.size w w')∧y≤8) (fun y=>8 - y) 0 ?st2 ?rd2
  case st2=>exact⟨(slotfn [ud,ud,ud,ud,ud,ud,ud,ud,ud,ud,s0 10,s0 11,s0 12,s0 13]),rfl,⟨H4.out.1,H4.out.2⟩,Nat.zero_le _⟩
  intro y a' w5 hI
  obtain⟨s2,rfl,hMB,hk2⟩:=hI
  have H5:Hid (_∧_):=hMB
  clear hMB H4
  by_cases hlty:y<8
  ·have hrd:True:=trivial
   clear hrd
   refine wp_seq ?_
   refine zD (l:=[0]) rfl ?_
   refine zA (d:=10) (v:=.bool true) (w':=w5) rfl rfl rfl (by go_simp <;> omega) ?_
   simp only[Act.put,sa,sz,ss]
   refine zC (zB ?_)
   refine wp_seq (wp_cond_true rfl ?_)
   refine wp_skip (zB ?_)
   refine wp_seq (wp_block ?_)
   refine zD (l:=[0,1,2]) rfl ?_
   refine zA (d:=11) (v:=W32 (shN (c32 x) y)) (w':=w5) rfl rfl rfl rfl ?_
   simp only[Act.put,sa,sz,ss]
   refine zE (d:=12) (R:=fun vv w'=>vv=W32 (shf (shN (c32 x) y))∧Below w5.heap.size w5 w') rfl rfl rfl (zF (args:=#[W32 (shN (c32 x) y)]) rfl call165 rfl (mpn rfl)) (Calls.mono (shifted_any _ w5) (fun e w2 hh=>⟨_,hh.1,rfl,hh.2⟩)) ?_
   rintro _ w6 ⟨rfl,hb⟩
   have H6:Hid (Mm w6 [(γs3,zN .u32 (tbf x) 256),(γs2,zN .u32 (fun _=>0) 256)]∧Below w.heap.size w w6):=⟨H5.out.1.below hb,H5.out.2.trans (hb.mono H5.out.2.size)⟩
   clear hb
   clear H5
   simp only[Act.put,sa,sz,ss]
   refine zA (d:=3) (v:=W32 (shf (shN (c32 x) y))) (w':=w6) rfl rfl rfl rfl ?_
   simp only[Act.put,sa,sz,ss]
   refine zC (block_normal (zB ?_))
   refine zD (l:=[0,1]) rfl ?_
   refine zA (d:=13) (v:=.int .i64 ((y+1:Nat):Int)) (w':=w6) rfl rfl rfl (by go_simp;rw[IntKind.wrap_i64];omega) ?_
   simp only[Act.put,sa,sz,ss]
   refine zA (d:=9) (v:=.int .i64 ((y+1:Nat):Int)) (w':=w6) rfl rfl rfl rfl ?_
   simp only[Act.put,sa,sz,ss]
   refine zC (zB ?_)
   exact⟨y+1,⟨(slotfn [ud,ud,ud,ud,ud,ud,ud,ud,ud,ud,.bool true,W32 (shN (c32 x) y),W32 (shf (shN (c32 x) y)),.int .i64 ((y+1:Nat):Int)]),rfl,⟨H6.out.1,H6.out.2⟩,(show y+1≤8 by omega)⟩,(show 8 - (y+1)<8 - y by omega)⟩
  refine wp_seq ?_
  refine zD (l:=[0]) rfl ?_
  refine zA (d:=10) (v:=.bool false) (w':=w5) rfl rfl rfl (by go_simp <;> omega) ?_
  simp only[Act.put,sa,sz,ss]
  refine zC (zB ?_)
  refine wp_seq (wp_cond_false rfl ?_)
  refine wp_exit ?_
  repeat refine then_exit ?_
  refine block_exit ?_
  obtain rfl:y=8:=(show y=8 by omega)
  refine zB ?_
  refine zD (l:=[0,1,2,3]) rfl ?_
  refine zA (d:=14) (v:=.int .i64 ((x:Nat):Int)) (w':=w5) rfl rfl rfl rfl ?_
  simp only[Act.put,sa,sz,ss]
  refine zA (d:=15) (v:=W32 (shN (c32 x) 8)) (w':=w5) rfl rfl rfl rfl ?_
  simp only[Act.put,sa,sz,ss]
  refine zA (d:=16) (v:=PT γs3 x) (w':=w5) rfl rfl rfl (ex_ixT1 (j:=x) rfl rfl rfl (by omega)) ?_
  simp only[Act.put,sa,sz,ss]
  refine zM rfl rfl rfl (ex_storeI H5.out.1 0 rfl rfl Tryz.sizeOf167 rfl rfl (by rw[zO];omega)) ?_
  have H7:Hid (Mm (w5.setCells γs3 x [W32 (shN (c32 x) 8)]) [(γs3,zN .u32 (tbf (x+1)) 256),(γs2,zN .u32 (fun _=>0) 256)]∧Below w.heap.size w (w5.setCells γs3 x [W32 (shN (c32 x) 8)])):=⟨by
   have h:=H5.out.1.put 0 (off:=x) (vs:=[W32 (shN (c32 x) 8)]) rfl (by rw[zO];simp only[List.length_cons,List.length_nil];omega)
   rw[ints_patch _ _ _ _ (by omega)] at h
   exact h,below_setCells _ o_γs3.out _ _ _ H5.out.2⟩
  clear H5
  generalize hgw:World.setCells _ _ _ _=w7 at H7 ⊢
  clear hgw
  refine zC (block_normal (zB ?_))
  refine zD (l:=[0,1]) rfl ?_
  refine zA (d:=17) (v:=.int .i64 ((x+1:Nat):Int)) (w':=w7) rfl rfl rfl (by go_simp;rw[IntKind.wrap_i64];omega) ?_
  simp only[Act.put,sa,sz,ss]
  refine zA (d:=4) (v:=.int .i64 ((x+1:Nat):Int)) (w':=w7) rfl rfl rfl rfl ?_
  simp only[Act.put,sa,sz,ss]
  refine zC (zB ?_)
  exact⟨x+1,⟨(slotfn [ud,ud,.int .i64 ((x:Nat):Int),W32 (shN (c32 x) 8),ud,.bool true,.int .i64 ((x:Nat):Int),.int .i64 ((x:Nat):Int),W32 (c32 x),.int .i64 ((8:Nat):Int),.bool false,s2 11,s2 12,s2 13,.int .i64 ((x:Nat):Int),W32 (shN (c32 x) 8),PT γs3 x,.int .i64 ((x+1:Nat):Int)]),rfl,⟨H7.out.1,H7.out.2⟩,(show x+1≤256 by omega)⟩,(show 256 - (x+1)<256 - x by omega)⟩
 refine wp_seq ?_
 refine zD (l:=[0]) rfl ?_
 refine zA (d:=5) (v:=.bool false) (w':=w4) rfl rfl rfl (by go_simp <;> omega) ?_
 simp only[Act.put,sa,sz,ss]
 refine zC (zB ?_)
 refine wp_seq (wp_cond_false rfl ?_)
 refine wp_exit ?_
 repeat refine then_exit ?_
 refine block_exit ?_
 obtain rfl:x=256:=(show x=256 by omega)
 have H8:Hid (Mm w4 [(γs3,zN .u32 crt 256),(γs2,zN .u32 (fun _=>0) 256)]∧Below w.heap.size w w4):=⟨by rw[← tbf_all];exact H4.out.1,H4.out.2⟩
 clear H4
 refine zB (wp_seq ?_)
 refine zD (l:=[0,1]) rfl ?_
 refine zA (d:=18) (v:=.agg (zN .u32 crt 256).toArray) (w':=w4) rfl rfl rfl (ex_loadT H8.out.1 0 rfl rfl rfl Tryz.isAgg169 As169 (ints_whole _ _ _) (zO _ _ _)) ?_
 simp only[Act.put,sa,sz,ss]
 refine zM rfl rfl rfl (ex_storeT (vs:=zN .u32 crt 256) H8.out.1 1 rfl rfl rfl rfl (by rw[zO];exact As169) (ints_all _ _ _) (by rw[zO,zO];omega)) ?_
 have H9:Hid (Mm (w4.setCells γs2 0 (zN .u32 crt 256)) [(γs3,zN .u32 crt 256),(γs2,zN .u32 crt 256)]∧Below w.heap.size w (w4.setCells γs2 0 (zN .u32 crt 256))):=⟨by
  have h:=H8.out.1.put 1 (off:=0) (vs:=zN .u32 crt 256) rfl (by rw[zO,zO];omega)
  rw[ints_patch0] at h
  exact h,below_setCells _ o_γs2.out _ _ _ H8.out.2⟩
 clear H8
 generalize hgw:World.setCells _ _ _ _=w9 at H9 ⊢
 clear hgw
 refine zC (zB (wp_ret ?_))
 repeat (first | refine zI ?_ | refine zH ?_)
 have hf0:=var_T H9.out.1 1 rfl Tryz.isAgg169 As169 (zO _ _ _)
 refine bodyPost_ret (v:=.agg (zN .u32 crt 256).toArray) (by simp[results,Tryz.results146,asAddr,hf0]) rfl ?_
 exact⟨rfl,H9.out.2⟩
theorem check_any (g t:Nat) (q:Pt8) (hn:q.n<4611686018427387904) (w:World) (hT0:Tb g t w) (hq0:Pok q∧q.rs w) :
  Calls Tryz.prog 145 #[PT g t,.slice q.p q.n q.cp] w (Rt w (W32 (crc q.f q.n))):=by
 have H0:Hid (_∧_):=⟨Mm.nil w,Below.refl w.heap.size w⟩
 have hT:Hid _:=hT0
 have hq:Hid _:=hq0
 clear hT0 hq0
 go_enter Tryz.func145,Tryz.ntmps145
 refine wp_seq ?_
 refine zG (l:=[0]) rfl (fun u0 hu0 => ?_)
 have H1:Hid (Mm u0 []∧Below w.heap.size w u0):=by rw[hu0];exact H0
 clear hu0 H0
 refine zA (d:=4) (v:=.int .u32 0) (w':=u0) rfl rfl rfl rfl ?_
 simp only[Act.put,sa,sz,ss]
 refine zC (zB (wp_seq ?_))
 refine zD (l:=[0]) rfl ?_
 refine zA (d:=5) (v:=.int .u32 4294967295) (w':=u0) rfl rfl rfl rfl ?_
 simp only[Act.put,sa,sz,ss]
 refine zC (zB ?_)
 refine wp_seq (wp_seq ?_)
 refine zD (l:=[0,1,2]) rfl ?_
 refine zA (d:=8) (v:=.slice q.p q.n q.cp) (w':=u0) rfl rfl rfl rfl ?_
 simp only[Act.put,sa,sz,ss]
 refine zA (d:=9) (v:=.int .i64 ((q.n:Nat):Int)) (w':=u0) rfl rfl rfl (by go_simp) ?_
 simp only[Act.put,sa,sz,ss]
 refine zA (d:=10) (v:=.int .i64 0) (w':=u0) rfl rfl rfl rfl ?_
 simp only[Act.put,sa,sz,ss]
 refine zC (zB (wp_block ?_))
 refine loop_ghost (α:=Nat) (fun x a' w'=>∃ s0:Nat→Value,a'=⟨#[PT g t,.slice q.p q.n q.cp,ud,ud,.int .u32 0,W32 (crn q.f x),ud,s0 7,.slice q.p q.n q.cp,.int .i64 ((q.n:Nat):Int),.int .i64 ((x:Nat):Int),s0 11,s0 12,s0 13,s0 14,s0 15,s0 16,s0 17,s0 18,s0 19,s0 20,s0 21,s0 22,s0 23,s0 24,s0 25,ud,ud],[]⟩∧(Mm w' []∧Below w.heap.size w w')∧x≤q.n) (fun x=>q.n - x) 0 ?st0 ?rd0
 case st0=>exact⟨(slotfn [ud,ud,ud,ud,ud,ud,ud,ud,ud,ud,ud,ud,ud,ud,ud,ud,ud,ud,ud,ud,ud,ud,ud,ud,ud,ud]),rfl,⟨H1.out.1,H1.out.2⟩,Nat.zero_le _⟩
 intro x a' w2 hI
 obtain⟨s0,rfl,hMB,hk0⟩:=hI
 have H2:Hid (_∧_):=hMB
 clear hMB H1
 by_cases hltx:x<q.n
 ·have hrd:True:=trivial
  clear hrd
  refine wp_seq ?_
  refine zD (l:=[0]) rfl ?_
  refine zA (d:=11) (v:=.bool true) (w':=w2) rfl rfl rfl (by go_simp <;> omega) ?_
  simp only[Act.put,sa,sz,ss]
  refine zC (zB ?_)
  refine wp_seq (wp_cond_true rfl ?_)
  refine wp_skip (zB ?_)
  refine wp_seq (wp_block (wp_seq ?_))
  refine zD (l:=[0,1,2]) rfl ?_
  refine zA (d:=12) (v:=PT q.gb (q.o+x)) (w':=w2) rfl rfl rfl (ex_ixP22 (hq.out.1.at (by omega)) rfl rfl rfl hltx) ?_
  simp only[Act.put,sa,sz,ss]
  refine zA (d:=13) (v:=Z8 (q.f x)) (w':=w2) rfl rfl rfl (ex_ldB (hq.out.2.below H2.out.2) hltx rfl rfl) ?_
  simp only[Act.put,sa,sz,ss]
  refine zA (d:=7) (v:=Z8 (q.f x)) (w':=w2) rfl rfl rfl rfl ?_
  simp only[Act.put,sa,sz,ss]
  refine zC (zB ?_)
  refine zD (l:=[0,1,2,3,4,5,6,7,8,9,10,11]) rfl ?_
  refine zA (d:=14) (v:=W32 (crn q.f x)) (w':=w2) rfl rfl rfl rfl ?_
  simp only[Act.put,sa,sz,ss]
  refine zA (d:=15) (v:=W32 (sr (crn q.f x) 8)) (w':=w2) rfl rfl rfl (ex_shr32 (k:=8) (by decide) rfl rfl rfl) ?_
  simp only[Act.put,sa,sz,ss]
  refine zA (d:=16) (v:=PT g t) (w':=w2) rfl rfl rfl rfl ?_
  simp only[Act.put,sa,sz,ss]
  refine zA (d:=17) (v:=W32 (crn q.f x)) (w':=w2) rfl rfl rfl rfl ?_
  simp only[Act.put,sa,sz,ss]
  refine zA (d:=18) (v:=Z8 ((crn q.f x) % 256)) (w':=w2) rfl rfl rfl (ex_cvWB rfl rfl) ?_
  simp only[Act.put,sa,sz,ss]
  refine zA (d:=19) (v:=Z8 (q.f x)) (w':=w2) rfl rfl rfl rfl ?_
  simp only[Act.put,sa,sz,ss]
  refine zA (d:=20) (v:=Z8 (xb ((crn q.f x) % 256) (q.f x))) (w':=w2) rfl rfl rfl (ex_xor8 rfl rfl rfl) ?_
  simp only[Act.put,sa,sz,ss]
  refine zA (d:=21) (v:=PT g t) (w':=w2) rfl rfl rfl (by go_simp) ?_
  simp only[Act.put,sa,sz,ss]
  refine zA (d:=22) (v:=PT g (t+(xb ((crn q.f x) % 256) (q.f x)))) (w':=w2) rfl rfl rfl (ex_ixT8 rfl rfl rfl (xb_lt _ _)) ?_
  simp only[Act.put,sa,sz,ss]
  refine zA (d:=23) (v:=W32 (crt (xb ((crn q.f x) % 256) (q.f x)))) (w':=w2) rfl rfl rfl (ex_ldT (hT.out.below H2.out.2) (xb_lt _ _) rfl rfl) ?_
  simp only[Act.put,sa,sz,ss]
  refine zA (d:=24) (v:=W32 (xo (sr (crn q.f x) 8) (crt (xb ((crn q.f x) % 256) (q.f x))))) (w':=w2) rfl rfl rfl (ex_xor32 (a:=sr (crn q.f x) 8) (b:=crt (xb ((crn q.f x) % 256) (q.f x))) rfl rfl rfl) ?_
  simp only[Act.put,sa,sz,ss]
  refine zA (d:=5) (v:=W32 (xo (sr (crn q.f x) 8) (crt (xb ((crn q.f x) % 256) (q.f x))))) (w':=w2) rfl rfl rfl rfl ?_
  simp only[Act.put,sa,sz,ss]
  refine zC (block_normal (zB ?_))
  refine zD (l:=[0,1]) rfl ?_
  refine zA (d:=25) (v:=.int .i64 ((x+1:Nat):Int)) (w':=w2) rfl rfl rfl (by go_simp;rw[IntKind.wrap_i64];omega) ?_
  simp only[Act.put,sa,sz,ss]
  refine zA (d:=10) (v:=.int .i64 ((x+1:Nat):Int)) (w':=w2) rfl rfl rfl rfl ?_
  simp only[Act.put,sa,sz,ss]
  refine zC (zB ?_)
  exact⟨x+1,⟨(slotfn [ud,ud,ud,ud,ud,ud,ud,Z8 (q.f x),ud,ud,ud,.bool true,PT q.gb (q.o+x),Z8 (q.f x),W32 (crn q.f x),W32 (sr (crn q.f x) 8),PT g t,W32 (crn q.f x),Z8 ((crn q.f x) % 256),Z8 (q.f x),Z8 (xb ((crn q.f x) % 256) (q.f x)),PT g t,PT g (t+(xb ((crn q.f x) % 256) (q.f x))),W32 (crt (xb ((crn q.f x) % 256) (q.f x))),W32 (xo (sr (crn q.f x) 8) (crt (xb ((crn q.f x) % 256) (q.f x)))),.int .i64 ((x+1:Nat):Int)]),rfl,⟨H2.out.1,H2.out.2⟩,(show x+1≤q.n by omega)⟩,(show q.n - (x+1)<q.n - x by omega)⟩
 refine wp_seq ?_
 refine zD (l:=[0]) rfl ?_
 refine zA (d:=11) (v:=.bool false) (w':=w2) rfl rfl rfl (by go_simp <;> omega) ?_
 simp only[Act.put,sa,sz,ss]
 refine zC (zB ?_)
 refine wp_seq (wp_cond_false rfl ?_)
 refine wp_exit ?_
 repeat refine then_exit ?_
 refine block_exit ?_
 have hxn:x=q.n:=by omega
 refine zB (wp_seq ?_)
 refine zD (l:=[0,1,2]) rfl ?_
 refine zA (d:=26) (v:=W32 (crn q.f x)) (w':=w2) rfl rfl rfl rfl ?_
 simp only[Act.put,sa,sz,ss]
 refine zA (d:=27) (v:=W32 (nt (crn q.f x))) (w':=w2) rfl rfl rfl (ex_not32 rfl rfl) ?_
 simp only[Act.put,sa,sz,ss]
 refine zA (d:=4) (v:=W32 (nt (crn q.f x))) (w':=w2) rfl rfl rfl rfl ?_
 simp only[Act.put,sa,sz,ss]
 refine zC (zB (wp_ret ?_))
 repeat (first | refine zI ?_ | refine zH ?_)
 refine bodyPost_ret (v:=W32 (nt (crn q.f x))) (by simp[results,Tryz.results145,go_sem, *]) rfl ?_
 exact⟨by rw[hxn];rfl,H2.out.2⟩
end Wi
end Rg
end Go.Proofs.YtmcpagjhpfbpgaaGreatDoor
end
section
namespace Go.Proofs.YtmcpagjhpfbpgaaGreatDoor
open Go.RowKit
namespace Rg
namespace Wi
theorem call145:CO 145:=by intro args w;go_simp
theorem call168:CO 168:=by intro args w;go_simp
theorem call188:CO 188:=by intro args w;go_simp
set_option maxRecDepth 100000
def Pt8.tk (q:Pt8) (k:Nat):Pt8:=⟨q.gb,q.o,k,q.cp,q.p,q.f⟩
def Pt8.dp (q:Pt8) (k:Nat):Pt8:=⟨q.gb,q.o+k,q.n - k,q.cp - k,if q.cp=k then q.p else q.p.map (·.add k),fun j=>q.f (k+j)⟩
theorem Pok.tk {q:Pt8} (h:Pok q) {k:Nat} (hk:k≤q.n):Pok (q.tk k):=by
 refine⟨⟨fun h0 => ?_,fun h0=>⟨_,_,by rw[← h0]⟩⟩,Nat.le_trans hk h.le⟩
 have e:=h.at (Nat.lt_of_lt_of_le h0 hk)
 show Value.slice q.p k q.cp=_
 rw[e]
 rfl
theorem Pok.dp {q:Pt8} (h:Pok q) {k:Nat} (hk:k≤q.n):Pok (q.dp k):=by
 refine⟨⟨fun h0 => ?_,fun h0=>⟨_,_,by rw[← h0]⟩⟩,?_⟩
 ·have h1:k<q.n:=by have:0<q.n - k:=h0;omega
  have h2:=h.le
  have e:=h.at (by omega)
  show Value.slice (if q.cp=k then q.p else q.p.map (·.add k)) (q.n - k) (q.cp - k)=.slice (some ⟨q.gb,q.o+k+0,none⟩) (q.n - k - 0) (q.cp - k - 0)
  rw[if_neg (by omega),e,Option.map_some,show (⟨q.gb,q.o,none⟩:Addr).add k=⟨q.gb,q.o+k,none⟩ by unfold Addr.add;split <;> simp_all]
  rfl
 ·have h2:=h.le
  show q.n - k≤q.cp - k
  omega
theorem Pt8.rs_tk {q:Pt8} {w:World} (h:q.rs w) {k:Nat} (hk:k≤q.n):(q.tk k).rs w:=⟨fun h0=>h.lt (Nat.lt_of_lt_of_le h0 hk),fun i hi=>h.at_ i (Nat.lt_of_lt_of_le hi hk)⟩
theorem Pt8.rs_dp {q:Pt8} {w:World} (h:q.rs w) {k:Nat} (hk:k≤q.n):(q.dp k).rs w:=⟨fun h0=>h.lt (by have:0<q.n - k:=h0;omega),fun i hi=>by
 have h1:i<q.n - k:=hi
 have e:=h.at_ (k+i) (by omega)
 rw[← Nat.add_assoc] at e
 exact e⟩
theorem Pt8.dp_no {q:Pt8} (h:q.p=none→q.cp=0) (k:Nat):(q.dp k).p=none→(q.dp k).cp=0:=fun e=>by
 have e2:(if q.cp=k then q.p else q.p.map (·.add k))=none:=e
 show q.cp - k=0
 by_cases hc:q.cp=k
 ·omega
 ·rw[if_neg hc] at e2
  have:q.p=none:=by cases hp:q.p with | none=>rfl | some a=>rw[hp] at e2;cases e2
  rw[h this]
  omega
theorem Pt8.tk_no {q:Pt8} (h:q.p=none→q.cp=0) (k:Nat):(q.tk k).p=none→(q.tk k).cp=0:=h
def Pt8.nb (q:Pt8):Nat:=nb4 (q.f 0) (q.f 1) (q.f 2) (q.f 3)
theorem nb4_lt (a b c d:Nat):nb4 a b c d<4294967296:=Nat.mod_lt _ (by decide)
section
variable {ρ:Operand→Value} {o:Oper} {x x0 x1 x2 x3 y z:Operand} {a b c d k m:Nat} {w:World}
theorem ex_bs40_4 (ho:o.op=.buildSlice 40 4 #[(0,x0),(1,x1),(2,x2),(3,x3)]) (h0:ρ x0=Z8 a) (h1:ρ x1=Z8 b) (h2:ρ x2=Z8 c) (h3:ρ x3=Z8 d):(execOp ρ o).run Tryz.prog w=.ok (.value (.slice (some ⟨w.heap.size,0,none⟩) 4 4)) (w.alloc (.cells ([Z8 a,Z8 b,Z8 c,Z8 d]:List Value).toArray 5)):=by
 simp only[execOp,ho,List.map_toArray,List.map_cons,List.map_nil,h0,h1,h2,h3]
 kernel_rfl
theorem ex_tkQ {q:Pt8} (hk:k≤q.cp) (ho:o.op=.slice 40 x none (some y) none) (hx:ρ x=.slice q.p q.n q.cp) (hy:ρ y=.int .i64 (k:Int)):(execOp ρ o).run Tryz.prog w=.ok (.value (.slice (q.tk k).p (q.tk k).n (q.tk k).cp)) w:=ex_take hk ho hx hy
theorem ex_dpQ {q:Pt8} (hk:k≤q.n) (ho:o.op=.slice 40 x (some y) none none) (hx:ρ x=.slice q.p q.n q.cp) (hy:ρ y=.int .i64 (k:Int)):(execOp ρ o).run Tryz.prog w=.ok (.value (.slice (q.dp k).p (q.dp k).n (q.dp k).cp)) w:=ex_drop hk ho hx hy
theorem ex_mdQ {q:Pt8} (hk:k≤m) (hm:m≤q.cp) (ho:o.op=.slice 40 x (some y) (some z) none) (hx:ρ x=.slice q.p q.n q.cp) (hy:ρ y=.int .i64 (k:Int)) (hz:ρ z=.int .i64 (m:Int)):(execOp ρ o).run Tryz.prog w=.ok (.value (.slice (((q.tk m).dp k)).p ((q.tk m).dp k).n ((q.tk m).dp k).cp)) w:=by
 have h1:(k:Int)≤m:=by omega
 have h2:(m:Int)≤q.cp:=by omega
 show (execOp ρ o).run Tryz.prog w=.ok (.value (.slice (if q.cp=k then q.p else q.p.map (·.add k)) (m - k) (q.cp - k))) w
 obtain⟨gb,oo,n,cp,p,f⟩:=q
 simp only[execOp,ho,hx,hy,hz,Option.map_some,Option.map_none]
 clear ho hx hy hz
 cases p <;> go_simp
end
theorem number_any (q:Pt8) (hn:4≤q.n) (w:World) (hq0:Pok q∧q.rs w) :
  Calls Tryz.prog 188 #[.slice q.p q.n q.cp] w (Rt w (W32 q.nb)):=by
 have H0:Hid (_∧_):=⟨Mm.nil w,Below.refl w.heap.size w⟩
 have hq:Hid _:=hq0
 clear hq0
 go_enter Tryz.func188,Tryz.ntmps188
 refine wp_seq ?_
 refine zG (l:=[0]) rfl (fun u0 hu0 => ?_)
 have H1:Hid (Mm u0 []∧Below w.heap.size w u0):=by rw[hu0];exact H0
 clear hu0 H0
 refine zA (d:=2) (v:=.int .u32 0) (w':=u0) rfl rfl rfl rfl ?_
 simp only[Act.put,sa,sz,ss]
 refine zC (zB (wp_seq ?_))
 refine(walk_any) (by kernel_rfl) 23 [.q (.slice q.p q.n q.cp),.q (PT q.gb (q.o+0)),.q (Z8 (q.f 0)),.q (W32 (c32 (q.f 0))),.q (W32 (sl (c32 (q.f 0)) 24)),.q (.slice q.p q.n q.cp),.q (PT q.gb (q.o+1)),.q (Z8 (q.f 1)),.q (W32 (c32 (q.f 1))),.q (W32 (sl (c32 (q.f 1)) 16)),.q (W32 (ou (sl (c32 (q.f 0)) 24) (sl (c32 (q.f 1)) 16))),.q (.slice q.p q.n q.cp),.q (PT q.gb (q.o+2)),.q (Z8 (q.f 2)),.q (W32 (c32 (q.f 2))),.q (W32 (sl (c32 (q.f 2)) 8)),.q (W32 (ou (ou (sl (c32 (q.f 0)) 24) (sl (c32 (q.f 1)) 16)) (sl (c32 (q.f 2)) 8))),.q (.slice q.p q.n q.cp),.q (PT q.gb (q.o+3)),.q (Z8 (q.f 3)),.q (W32 (c32 (q.f 3))),.q (W32 (ou (ou (ou (sl (c32 (q.f 0)) 24) (sl (c32 (q.f 1)) 16)) (sl (c32 (q.f 2)) 8)) (c32 (q.f 3)))),.q (W32 (ou (ou (ou (sl (c32 (q.f 0)) 24) (sl (c32 (q.f 1)) 16)) (sl (c32 (q.f 2)) 8)) (c32 (q.f 3))))] (fun u'=>Mm u' []∧Below w.heap.size w u') ?pre2 ?F2 ?hpre2 (fun γ => ?hF2) (by kernel_rfl) ?hL2 ?hS2 ?ho2 ?he2
 case hpre2=>simp only[tk,tz];rfl
 case hF2=>simp only[fill,Kind.val,Act.put,sa,sz,ss];rfl
 case hL2=>exact trivial
 case hS2=>exact fun w' hb=>⟨H1.out.1.below hb,H1.out.2.trans (hb.mono H1.out.2.size)⟩
 case ho2 =>
  refine ar ?_
  refine ak (fun γ=>⟨rfl,fun w' _=>ex_ixP22 (j:=0) (hq.out.1.at (by omega)) rfl rfl rfl (by omega)⟩) ?_
  refine ak (fun γ=>⟨rfl,fun w' hX=>ex_ldB (j:=0) (hq.out.2.below hX.2) (by omega) rfl rfl⟩) ?_
  refine ak (fun γ=>⟨rfl,fun w' _=>ex_cvBW rfl rfl⟩) ?_
  refine ak (fun γ=>⟨rfl,fun w' _=>ex_shl32 (k:=24) (by decide) rfl rfl rfl⟩) ?_
  refine ar ?_
  refine ak (fun γ=>⟨rfl,fun w' _=>ex_ixP22 (j:=1) (hq.out.1.at (by omega)) rfl rfl rfl (by omega)⟩) ?_
  refine ak (fun γ=>⟨rfl,fun w' hX=>ex_ldB (j:=1) (hq.out.2.below hX.2) (by omega) rfl rfl⟩) ?_
  refine ak (fun γ=>⟨rfl,fun w' _=>ex_cvBW rfl rfl⟩) ?_
  refine ak (fun γ=>⟨rfl,fun w' _=>ex_shl32 (k:=16) (by decide) rfl rfl rfl⟩) ?_
  refine ak (fun γ=>⟨rfl,fun w' _=>ex_or32 (a:=sl (c32 (q.f 0)) 24) (b:=sl (c32 (q.f 1)) 16) rfl rfl rfl⟩) ?_
  refine ar ?_
  refine ak (fun γ=>⟨rfl,fun w' _=>ex_ixP22 (j:=2) (hq.out.1.at (by omega)) rfl rfl rfl (by omega)⟩) ?_
  refine ak (fun γ=>⟨rfl,fun w' hX=>ex_ldB (j:=2) (hq.out.2.below hX.2) (by omega) rfl rfl⟩) ?_
  refine ak (fun γ=>⟨rfl,fun w' _=>ex_cvBW rfl rfl⟩) ?_
  refine ak (fun γ=>⟨rfl,fun w' _=>ex_shl32 (k:=8) (by decide) rfl rfl rfl⟩) ?_
  refine ak (fun γ=>⟨rfl,fun w' _=>ex_or32 (a:=ou (sl (c32 (q.f 0)) 24) (sl (c32 (q.f 1)) 16)) (b:=sl (c32 (q.f 2)) 8) rfl rfl rfl⟩) ?_
  refine ar ?_
  refine ak (fun γ=>⟨rfl,fun w' _=>ex_ixP22 (j:=3) (hq.out.1.at (by omega)) rfl rfl rfl (by omega)⟩) ?_
  refine ak (fun γ=>⟨rfl,fun w' hX=>ex_ldB (j:=3) (hq.out.2.below hX.2) (by omega) rfl rfl⟩) ?_
  refine ak (fun γ=>⟨rfl,fun w' _=>ex_cvBW rfl rfl⟩) ?_
  refine ak (fun γ=>⟨rfl,fun w' _=>ex_or32 (a:=ou (ou (sl (c32 (q.f 0)) 24) (sl (c32 (q.f 1)) 16)) (sl (c32 (q.f 2)) 8)) (b:=c32 (q.f 3)) rfl rfl rfl⟩) ?_
  refine ar ?_
  exact trivial
 intro γ w2 l hM hl
 have H2:=keepB H1 hM.below
 clear hM hl l H1 γ
 refine Rg.rN (wp_ret ?_)
 repeat (first | refine zI ?_ | refine zH ?_)
 refine bodyPost_ret (v:=W32 (ou (ou (ou (sl (c32 (q.f 0)) 24) (sl (c32 (q.f 1)) 16)) (sl (c32 (q.f 2)) 8)) (c32 (q.f 3)))) (by simp[results,Tryz.results188,go_sem, *]) rfl ?_
 exact⟨rfl,H2.out.2⟩
theorem by4_cells {w:World} {g x:Nat} (hm:Mm w [(g,[Z8 (sr x 24 % 256),Z8 (sr x 16 % 256),Z8 (sr x 8 % 256),Z8 (x % 256)])]) {i:Nat} (hi:i<4):w.cell? ⟨g,0+i,none⟩=some (Z8 (by4 x i)):=by
 rw[Nat.zero_add]
 obtain rfl | rfl | rfl | rfl:i=0∨i=1∨i=2∨i=3:=by omega
 ·exact hm.get 0 rfl 0 rfl
 ·exact hm.get 0 rfl 1 rfl
 ·exact hm.get 0 rfl 2 rfl
 ·exact hm.get 0 rfl 3 rfl
theorem put4_any (ps:Option Addr) (n cs B x:Nat) (P:Nat→Nat) (hbd:n+4≤2097152) (w:World) (hB:B≤w.heap.size) (row0:w.ownsRow B 5 1 (Value.slice ps n cs) n (zN .u8 P n)) :
  Calls Tryz.prog 144 #[.slice ps n cs,W32 x] w fun e w'=>∃ v',e=.returned v'∧w'.ownsRow B 5 1 v' (n+4) (zN .u8 (ct P n (by4 x)) (n+4))∧Chg (vbl (Value.slice ps n cs)) w w':=by
 have H0:Hid (_∧_):=⟨Mm.nil w,Below.refl w.heap.size w⟩
 have row:Hid _:=row0
 clear row0
 go_enter Tryz.func144,Tryz.ntmps144
 refine wp_seq ?_
 refine zG (l:=[0]) rfl (fun u0 hu0 => ?_)
 have H1:Hid (Mm u0 []∧Below w.heap.size w u0):=by rw[hu0];exact H0
 clear hu0 H0
 refine zA (d:=4) (v:=.slice none 0 0) (w':=u0) rfl rfl rfl rfl ?_
 simp only[Act.put,sa,sz,ss]
 refine zC (zB (wp_seq ?_))
 refine zD (l:=[0,1,2,3,4,5,6,7,8,9,10,11,12,13,14]) rfl ?_
 refine zA (d:=5) (v:=.slice ps n cs) (w':=u0) rfl rfl rfl rfl ?_
 simp only[Act.put,sa,sz,ss]
 refine zA (d:=6) (v:=W32 x) (w':=u0) rfl rfl rfl rfl ?_
 simp only[Act.put,sa,sz,ss]
 refine zA (d:=7) (v:=W32 (sr x 24)) (w':=u0) rfl rfl rfl (ex_shr32 (k:=24) (by decide) rfl rfl rfl) ?_
 simp only[Act.put,sa,sz,ss]
 refine zA (d:=8) (v:=Z8 ((sr x 24) % 256)) (w':=u0) rfl rfl rfl (ex_cvWB rfl rfl) ?_
 simp only[Act.put,sa,sz,ss]
 refine zA (d:=9) (v:=W32 x) (w':=u0) rfl rfl rfl rfl ?_
 simp only[Act.put,sa,sz,ss]
 refine zA (d:=10) (v:=W32 (sr x 16)) (w':=u0) rfl rfl rfl (ex_shr32 (k:=16) (by decide) rfl rfl rfl) ?_
 simp only[Act.put,sa,sz,ss]
 refine zA (d:=11) (v:=Z8 ((sr x 16) % 256)) (w':=u0) rfl rfl rfl (ex_cvWB rfl rfl) ?_
 simp only[Act.put,sa,sz,ss]
 refine zA (d:=12) (v:=W32 x) (w':=u0) rfl rfl rfl rfl ?_
 simp only[Act.put,sa,sz,ss]
 refine zA (d:=13) (v:=W32 (sr x 8)) (w':=u0) rfl rfl rfl (ex_shr32 (k:=8) (by decide) rfl rfl rfl) ?_
 simp only[Act.put,sa,sz,ss]
 refine zA (d:=14) (v:=Z8 ((sr x 8) % 256)) (w':=u0) rfl rfl rfl (ex_cvWB rfl rfl) ?_
 simp only[Act.put,sa,sz,ss]
 refine zA (d:=15) (v:=W32 x) (w':=u0) rfl rfl rfl rfl ?_
 simp only[Act.put,sa,sz,ss]
 refine zA (d:=16) (v:=Z8 (x % 256)) (w':=u0) rfl rfl rfl (ex_cvWB rfl rfl) ?_
 simp only[Act.put,sa,sz,ss]
 refine zA (d:=17) (v:=.slice (some ⟨u0.heap.size,0,none⟩) 4 4) (w':=(u0.alloc (.cells ([Z8 ((sr x 24) % 256),Z8 ((sr x 16) % 256),Z8 ((sr x 8) % 256),Z8 (x % 256)]:List Value).toArray 5))) rfl rfl rfl (ex_bs40_4 rfl rfl rfl rfl rfl) ?_
 simp only[Act.put,sa,sz,ss]
 have o_γs2:Hid (w.heap.size≤u0.heap.size):=H1.out.2.size
 have H2:Hid (Mm (u0.alloc (.cells ([Z8 ((sr x 24) % 256),Z8 ((sr x 16) % 256),Z8 ((sr x 8) % 256),Z8 (x % 256)]:List Value).toArray 5)) ((u0.heap.size,[Z8 ((sr x 24) % 256),Z8 ((sr x 16) % 256),Z8 ((sr x 8) % 256),Z8 (x % 256)]) :: [])∧Below w.heap.size w (u0.alloc (.cells ([Z8 ((sr x 24) % 256),Z8 ((sr x 16) % 256),Z8 ((sr x 8) % 256),Z8 (x % 256)]:List Value).toArray 5))):=⟨H1.out.1.alloc _ 5 rfl,H1.out.2.trans (((Below.refl _ _).alloc (Nat.le_refl _) _).mono H1.out.2.size)⟩
 clear H1
 generalize hgw:u0.alloc (.cells ([Z8 ((sr x 24) % 256),Z8 ((sr x 16) % 256),Z8 ((sr x 8) % 256),Z8 (x % 256)]:List Value).toArray 5)=w2 at H2 ⊢
 clear hgw
 generalize u0.heap.size=γs2 at o_γs2 H2 ⊢
 obtain⟨vr,w3,hr,hO,hG,h5⟩:=own_appQ (own_keep row.out (fun b hb=>H2.out.2.block b (own_lt row.out b hb))) (Nat.le_trans hB H2.out.2.size) (q:=⟨γs2,0,4,4,some ⟨γs2,0,none⟩,by4 x⟩) ⟨Bv.start _ _ _ _,Nat.le_refl _⟩ (fun e=>by cases e) ⟨fun _=>(H2.out.1.blk _ (List.mem_cons_self ..)).1,fun i hi=>by4_cells H2.out.1 hi⟩ hbd 40
 refine zA (d:=18) (v:=vr) (w':=w3) rfl rfl rfl (ex_app rfl rfl rfl hr) ?_
 simp only[Act.put,sa,sz,ss]
 have hC:Chg (vbl (Value.slice ps n cs)) w w3:=(Chg.of H2.out.2).trans (Chg.grown hG) (fun x hx=>.inl hx)
 have hOO:Hid _:=hO
 have hV:Hid (∀ x∈vbl vr,x∈vbl (Value.slice ps n cs)∨w.heap.size≤x):=vbl_new h5 H2.out.2.size rfl
 have H3:Hid (Mm w3 []∧Chg (vbl (Value.slice ps n cs)) w w3):=⟨Mm.nil _,hC⟩
 clear hr hO hG h5 hC H2
 refine zA (d:=4) (v:=vr) (w':=w3) rfl rfl rfl rfl ?_
 simp only[Act.put,sa,sz,ss]
 refine zC (zB (wp_ret ?_))
 repeat (first | refine zI ?_ | refine zH ?_)
 refine bodyPost_ret (v:=vr) (by simp[results,Tryz.results144,go_sem, *]) rfl ?_
 exact⟨_,rfl,hOO.out,H3.out.2⟩
theorem put4_v (v:Value) (n B x:Nat) (P:Nat→Nat) (hbd:n+4≤2097152) (w:World) (hB:B≤w.heap.size) (row0:w.ownsRow B 5 1 v n (zN .u8 P n)):Calls Tryz.prog 144 #[v,W32 x] w fun e w'=>∃ v',e=.returned v'∧w'.ownsRow B 5 1 v' (n+4) (zN .u8 (ct P n (by4 x)) (n+4))∧Chg (vbl v) w w':=by
 obtain⟨ps,cs,rfl,_⟩:=own_slice row0
 exact put4_any ps n cs B x P hbd w hB row0
theorem framed_any (n:Nat) (hn:n<4611686018427387904) (w:World) :
  Calls Tryz.prog 143 #[.int .i64 ((n:Nat):Int)] w (Rt w (.int .i64 ((8+n+4:Nat):Int))):=by
 have H0:Hid (_∧_):=⟨Mm.nil w,Below.refl w.heap.size w⟩
 go_enter Tryz.func143,Tryz.ntmps143
 refine wp_seq ?_
 refine zG (l:=[0]) rfl (fun u0 hu0 => ?_)
 have H1:Hid (Mm u0 []∧Below w.heap.size w u0):=by rw[hu0];exact H0
 clear hu0 H0
 refine zA (d:=2) (v:=.int .i64 0) (w':=u0) rfl rfl rfl rfl ?_
 simp only[Act.put,sa,sz,ss]
 refine zC (zB (wp_seq ?_))
 refine zD (l:=[0,1,2,3]) rfl ?_
 refine zA (d:=3) (v:=.int .i64 ((n:Nat):Int)) (w':=u0) rfl rfl rfl rfl ?_
 simp only[Act.put,sa,sz,ss]
 refine zA (d:=4) (v:=.int .i64 ((8+n:Nat):Int)) (w':=u0) rfl rfl rfl (by go_simp;rw[IntKind.wrap_i64];omega) ?_
 simp only[Act.put,sa,sz,ss]
 refine zA (d:=5) (v:=.int .i64 ((8+n+4:Nat):Int)) (w':=u0) rfl rfl rfl (by go_simp;rw[IntKind.wrap_i64];omega) ?_
 simp only[Act.put,sa,sz,ss]
 refine zA (d:=2) (v:=.int .i64 ((8+n+4:Nat):Int)) (w':=u0) rfl rfl rfl rfl ?_
 simp only[Act.put,sa,sz,ss]
 refine zC (zB (wp_ret ?_))
 repeat (first | refine zI ?_ | refine zH ?_)
 refine bodyPost_ret (v:=.int .i64 ((8+n+4:Nat):Int)) (by simp[results,Tryz.results143,go_sem, *]) rfl ?_
 exact⟨rfl,H1.out.2⟩
theorem holds_any (g t:Nat) (q r:Pt8) (hn:q.n<4611686018427387904) (hr4:4≤r.n) (w:World) (hT0:Tb g t w) (hq0:Pok q∧q.rs w) (hr0:Pok r∧r.rs w) :
  Calls Tryz.prog 168 #[PT g t,.slice q.p q.n q.cp,.slice r.p r.n r.cp] w (Rt w (.bool (decide (crc q.f q.n=r.nb)))):=by
 have H0:Hid (_∧_):=⟨Mm.nil w,Below.refl w.heap.size w⟩
 have hT:Hid _:=hT0
 have hq:Hid _:=hq0
 clear hT0 hq0
 have hr:Hid _:=hr0
 clear hr0
 go_enter Tryz.func168,Tryz.ntmps168
 refine wp_seq ?_
 refine zG (l:=[0]) rfl (fun u0 hu0 => ?_)
 have H1:Hid (Mm u0 []∧Below w.heap.size w u0):=by rw[hu0];exact H0
 clear hu0 H0
 refine zA (d:=6) (v:=.bool false) (w':=u0) rfl rfl rfl rfl ?_
 simp only[Act.put,sa,sz,ss]
 refine zC (zB (wp_seq ?_))
 refine zD (l:=[0,1,2,3,4,5,6]) rfl ?_
 refine zA (d:=7) (v:=PT g t) (w':=u0) rfl rfl rfl rfl ?_
 simp only[Act.put,sa,sz,ss]
 refine zA (d:=8) (v:=.slice q.p q.n q.cp) (w':=u0) rfl rfl rfl rfl ?_
 simp only[Act.put,sa,sz,ss]
 refine zE (d:=9) (R:=fun vv w'=>vv=W32 (crc q.f q.n)∧Below u0.heap.size u0 w') rfl rfl rfl (zF (args:=#[PT g t,.slice q.p q.n q.cp]) rfl call145 rfl (mpn rfl)) (Calls.mono (check_any g t q hn u0 (hT.out.below H1.out.2) ⟨hq.out.1,hq.out.2.below H1.out.2⟩) (fun e w2 hh=>⟨_,hh.1,rfl,hh.2⟩)) ?_
 rintro _ w2 ⟨rfl,hb⟩
 have H2:Hid (Mm w2 []∧Below w.heap.size w w2):=⟨H1.out.1.below hb,H1.out.2.trans (hb.mono H1.out.2.size)⟩
 clear hb
 clear H1
 simp only[Act.put,sa,sz,ss]
 refine zA (d:=10) (v:=.slice r.p r.n r.cp) (w':=w2) rfl rfl rfl rfl ?_
 simp only[Act.put,sa,sz,ss]
 refine zE (d:=11) (R:=fun vv w'=>vv=W32 r.nb∧Below w2.heap.size w2 w') rfl rfl rfl (zF (args:=#[.slice r.p r.n r.cp]) rfl call188 rfl (mpn rfl)) (Calls.mono (number_any r hr4 w2 ⟨hr.out.1,hr.out.2.below H2.out.2⟩) (fun e w2 hh=>⟨_,hh.1,rfl,hh.2⟩)) ?_
 rintro _ w3 ⟨rfl,hb⟩
 have H3:Hid (Mm w3 []∧Below w.heap.size w w3):=⟨H2.out.1.below hb,H2.out.2.trans (hb.mono H2.out.2.size)⟩
 clear hb
 clear H2
 simp only[Act.put,sa,sz,ss]
 refine zA (d:=12) (v:=.bool (decide (crc q.f q.n=r.nb))) (w':=w3) rfl rfl rfl (ex_eq32 (a:=crc q.f q.n) (b:=r.nb) rfl rfl rfl rfl) ?_
 simp only[Act.put,sa,sz,ss]
 refine zA (d:=6) (v:=.bool (decide (crc q.f q.n=r.nb))) (w':=w3) rfl rfl rfl rfl ?_
 simp only[Act.put,sa,sz,ss]
 refine zC (zB (wp_ret ?_))
 repeat (first | refine zI ?_ | refine zH ?_)
 refine bodyPost_ret (v:=.bool (decide (crc q.f q.n=r.nb))) (by simp[results,Tryz.results168,go_sem, *]) rfl ?_
 exact⟨rfl,H3.out.2⟩
theorem holds_is (g t:Nat) (q r:Pt8) (c:Bool) (hn:q.n<4611686018427387904) (hr4:4≤r.n) (hc:decide (crc q.f q.n=r.nb)=c) (w:World) (hT:Tb g t w) (hq:Pok q∧q.rs w) (hr:Pok r∧r.rs w):Calls Tryz.prog 168 #[PT g t,.slice q.p q.n q.cp,.slice r.p r.n r.cp] w (Rt w (.bool c)):=by
 rw[← hc]
 exact holds_any g t q r hn hr4 w hT hq hr
theorem length_ok (g t:Nat) (q:Pt8) (hn8:8≤q.n) (hbig:¬65536<q.nb) (hck:decide (crc q.f 4=(q.dp 4).nb)=true) (w:World) (hT0:Tb g t w) (hq0:Pok q∧q.rs w) :
  Calls Tryz.prog 167 #[PT g t,.slice q.p q.n q.cp] w (Rt w (.tuple #[.int .i64 ((q.nb:Nat):Int),.int .i64 0])):=by
 have H0:Hid (_∧_):=⟨Mm.nil w,Below.refl w.heap.size w⟩
 have hT:Hid _:=hT0
 have hq:Hid _:=hq0
 clear hT0 hq0
 go_enter Tryz.func167,Tryz.ntmps167
 refine wp_seq ?_
 refine zG (l:=[0,1]) rfl (fun u0 hu0 => ?_)
 have H1:Hid (Mm u0 []∧Below w.heap.size w u0):=by rw[hu0];exact H0
 clear hu0 H0
 refine zA (d:=4) (v:=.int .i64 0) (w':=u0) rfl rfl rfl rfl ?_
 simp only[Act.put,sa,sz,ss]
 refine zA (d:=5) (v:=.int .i64 0) (w':=u0) rfl rfl rfl rfl ?_
 simp only[Act.put,sa,sz,ss]
 refine zC (zB (wp_seq ?_))
 refine zD (l:=[0,1,2]) rfl ?_
 refine zA (d:=7) (v:=.slice q.p q.n q.cp) (w':=u0) rfl rfl rfl rfl ?_
 simp only[Act.put,sa,sz,ss]
 refine zE (d:=8) (R:=fun vv w'=>vv=W32 q.nb∧Below u0.heap.size u0 w') rfl rfl rfl (zF (args:=#[.slice q.p q.n q.cp]) rfl call188 rfl (mpn rfl)) (Calls.mono (number_any q (by omega) u0 ⟨hq.out.1,hq.out.2.below H1.out.2⟩) (fun e w2 hh=>⟨_,hh.1,rfl,hh.2⟩)) ?_
 rintro _ w2 ⟨rfl,hb⟩
 have H2:Hid (Mm w2 []∧Below w.heap.size w w2):=⟨H1.out.1.below hb,H1.out.2.trans (hb.mono H1.out.2.size)⟩
 clear hb
 clear H1
 simp only[Act.put,sa,sz,ss]
 refine zA (d:=6) (v:=W32 q.nb) (w':=w2) rfl rfl rfl rfl ?_
 simp only[Act.put,sa,sz,ss]
 refine zC (zB ?_)
 refine wp_seq (wp_seq ?_)
 refine walk_anyB 8 [.q (W32 q.nb),.q (.bool false),.q (.bool false),.q (PT g t),.q (.slice q.p q.n q.cp),.q (.slice (q.tk 4).p (q.tk 4).n (q.tk 4).cp),.q (.slice q.p q.n q.cp),.q (.slice (q.dp 4).p (q.dp 4).n (q.dp 4).cp)] H2 ?ho3 ?he3
 case ho3=>exact ar (ak (fun γ=>⟨rfl,fun w' _=>ex_gt32 (a:=q.nb) (b:=65536) (decide_eq_false hbig) rfl rfl rfl⟩) (ar (ar (ar (ak (fun γ=>⟨rfl,fun w' _=>ex_tkQ (k:=4) (by have:=hq.out.1.le;omega) rfl rfl rfl⟩) (ar (ak (fun γ=>⟨rfl,fun w' _=>ex_dpQ (k:=4) (by omega) rfl rfl rfl⟩) trivial)))))))
 intro _ w3 H3
 clear H2
 refine rest_at (l:=[8,9,10]) rfl ?_
 refine zE (d:=17) (R:=fun vv w'=>vv=.bool true∧Below w3.heap.size w3 w') rfl rfl rfl (zF (args:=#[PT g t,.slice (q.tk 4).p (q.tk 4).n (q.tk 4).cp,.slice (q.dp 4).p (q.dp 4).n (q.dp 4).cp]) rfl call168 rfl (mpn rfl)) (Calls.mono (holds_is g t (q.tk 4) (q.dp 4) true (by show 4<_;decide) (by show 4≤q.n - 4;omega) hck w3 (hT.out.below H3.out.2) ⟨hq.out.1.tk (by omega),Pt8.rs_tk (hq.out.2.below H3.out.2) (by omega)⟩ ⟨hq.out.1.dp (by omega),Pt8.rs_dp (hq.out.2.below H3.out.2) (by omega)⟩) (fun e w2 hh=>⟨_,hh.1,rfl,hh.2⟩)) ?_
 rintro _ w4 ⟨rfl,hb⟩
 have H4:Hid (Mm w4 []∧Below w.heap.size w w4):=⟨H3.out.1.below hb,H3.out.2.trans (hb.mono H3.out.2.size)⟩
 clear hb
 clear H3
 simp only[Act.put,sa,sz,ss]
 refine zA (d:=18) (v:=.bool false) (w':=w4) rfl rfl rfl (by go_simp) ?_
 simp only[Act.put,sa,sz,ss]
 refine zA (d:=19) (v:=.bool false) (w':=w4) rfl rfl rfl (by go_simp) ?_
 simp only[Act.put,sa,sz,ss]
 refine zC (zB ?_)
 refine wp_cond_false rfl (wp_skip ?_)
 refine zB (wp_seq ?_)
 refine zD (l:=[0,1,2,3]) rfl ?_
 refine zA (d:=20) (v:=W32 q.nb) (w':=w4) rfl rfl rfl rfl ?_
 simp only[Act.put,sa,sz,ss]
 refine zA (d:=21) (v:=.int .i64 ((q.nb:Nat):Int)) (w':=w4) rfl rfl rfl (ex_cvWI (nb4_lt _ _ _ _) rfl rfl) ?_
 simp only[Act.put,sa,sz,ss]
 refine zA (d:=4) (v:=.int .i64 ((q.nb:Nat):Int)) (w':=w4) rfl rfl rfl rfl ?_
 simp only[Act.put,sa,sz,ss]
 refine zA (d:=5) (v:=.int .i64 0) (w':=w4) rfl rfl rfl rfl ?_
 simp only[Act.put,sa,sz,ss]
 refine zC (zB (wp_ret ?_))
 repeat (first | refine zI ?_ | refine zH ?_)
 refine bodyPost_ret (v:=.tuple #[.int .i64 ((q.nb:Nat):Int),.int .i64 0]) (by simp[results,Tryz.results167,go_sem, *]) rfl ?_
 exact⟨rfl,H4.out.2⟩
theorem bclone_some (gb o n cp:Nat) (ad:Addr) (f:Nat→Nat) (hn:n≤2097152) (w:World) (hq0:Pok ⟨gb,o,n,cp,some ad,f⟩∧Pt8.rs ⟨gb,o,n,cp,some ad,f⟩ w) :
  Calls Tryz.prog 43 #[.slice (some ad) n cp] w fun e w'=>∃ v,e=.returned v∧Cw w v n f w':=by
 have H0:Hid (_∧_):=⟨Mm.nil w,Below.refl w.heap.size w⟩
 have hq:Hid _:=hq0
 clear hq0
 go_enter Tryz.func43,Tryz.ntmps43
 refine wp_seq ?_
 refine zG (l:=[0]) rfl (fun u0 hu0 => ?_)
 have H1:Hid (Mm u0 []∧Below w.heap.size w u0):=by rw[hu0];exact H0
 clear hu0 H0
 refine zA (d:=2) (v:=.slice none 0 0) (w':=u0) rfl rfl rfl rfl ?_
 simp only[Act.put,sa,sz,ss]
 refine zC (zB ?_)
 refine wp_seq (wp_seq ?_)
 refine zD (l:=[0,1]) rfl ?_
 refine zA (d:=3) (v:=.slice (some ad) n cp) (w':=u0) rfl rfl rfl rfl ?_
 simp only[Act.put,sa,sz,ss]
 refine zA (d:=4) (v:=.bool false) (w':=u0) rfl rfl rfl (ex_eqN rfl rfl rfl) ?_
 simp only[Act.put,sa,sz,ss]
 refine zC (zB ?_)
 refine wp_cond_false rfl (wp_skip ?_)
 refine zB (wp_seq ?_)
 refine zD (l:=[0,1,2,3]) rfl ?_
 refine zA (d:=5) (v:=.slice (some ⟨u0.heap.size,0,none⟩) 0 0) (w':=(u0.alloc (.cells #[] 5))) rfl rfl rfl (ex_bs0 rfl) ?_
 simp only[Act.put,sa,sz,ss]
 have H2:Hid (Mm (u0.alloc (.cells #[] 5)) []∧Cw w (.slice (some ⟨u0.heap.size,0,none⟩) 0 0) 0 (fun _=>0) (u0.alloc (.cells #[] 5))):=⟨Mm.nil _,⟨H1.out.2.trans (((Below.refl _ _).alloc (Nat.le_refl _) _).mono H1.out.2.size),World.ownsRow_made _ _ 0 H1.out.2.size (by decide) rfl⟩⟩
 clear H1
 generalize hgw:u0.alloc (.cells #[] 5)=w2 at H2 ⊢
 clear hgw
 generalize u0.heap.size=γm at H2 ⊢
 refine zA (d:=6) (v:=.slice (some ad) n cp) (w':=w2) rfl rfl rfl rfl ?_
 simp only[Act.put,sa,sz,ss]
 obtain⟨vr,w3,hr,hO,hG,h5⟩:=own_appQ H2.out.2.own H2.out.2.size (q:=⟨gb,o,n,cp,some ad,f⟩) hq.out.1 (fun e=>by cases e) (hq.out.2.below H2.out.2.b) (show 0+n≤2097152 by omega) 40
 refine zA (d:=7) (v:=vr) (w':=w3) rfl rfl rfl (ex_app rfl rfl rfl hr) ?_
 simp only[Act.put,sa,sz,ss]
 have H3:Hid (Mm w3 []∧Cw w vr (0+n) (ct (fun _=>0) 0 f) w3):=⟨Mm.nil _,H2.out.2.on (Chg.grown hG) hO⟩
 clear hr hO hG h5 H2
 refine zA (d:=2) (v:=vr) (w':=w3) rfl rfl rfl rfl ?_
 simp only[Act.put,sa,sz,ss]
 refine zC (zB (wp_ret ?_))
 repeat (first | refine zI ?_ | refine zH ?_)
 refine bodyPost_ret (v:=vr) (by simp[results,Tryz.results43,go_sem, *]) rfl ?_
 exact⟨_,rfl,by have h:=H3.out.2.cg (P2:=f) (fun j _=>by rw[ct_zero]);rw[Nat.zero_add] at h;exact h⟩
theorem bclone_nil  (w:World) :
  Calls Tryz.prog 43 #[.slice none 0 0] w (Rt w (.slice none 0 0)):=by
 have H0:Hid (_∧_):=⟨Mm.nil w,Below.refl w.heap.size w⟩
 go_enter Tryz.func43,Tryz.ntmps43
 refine wp_seq ?_
 refine zG (l:=[0]) rfl (fun u0 hu0 => ?_)
 have H1:Hid (Mm u0 []∧Below w.heap.size w u0):=by rw[hu0];exact H0
 clear hu0 H0
 refine zA (d:=2) (v:=.slice none 0 0) (w':=u0) rfl rfl rfl rfl ?_
 simp only[Act.put,sa,sz,ss]
 refine zC (zB ?_)
 refine wp_seq (wp_seq ?_)
 refine zD (l:=[0,1]) rfl ?_
 refine zA (d:=3) (v:=.slice none 0 0) (w':=u0) rfl rfl rfl rfl ?_
 simp only[Act.put,sa,sz,ss]
 refine zA (d:=4) (v:=.bool true) (w':=u0) rfl rfl rfl (by kernel_rfl) ?_
 simp only[Act.put,sa,sz,ss]
 refine zC (zB ?_)
 refine wp_cond_true rfl (wp_seq ?_)
 refine zD (l:=[0]) rfl ?_
 refine zA (d:=2) (v:=.slice none 0 0) (w':=u0) rfl rfl rfl rfl ?_
 simp only[Act.put,sa,sz,ss]
 refine zC (zB (wp_ret ?_))
 repeat (first | refine zI ?_ | refine zH ?_)
 refine bodyPost_ret (v:=.slice none 0 0) (by simp[results,Tryz.results43,go_sem, *]) rfl ?_
 exact⟨rfl,H1.out.2⟩
theorem bclone_any (q:Pt8) (hn:q.n≤2097152) (w:World) (hq:Pok q) (hN:q.p=none→q.cp=0) (hr:q.rs w):Calls Tryz.prog 43 #[.slice q.p q.n q.cp] w fun e w'=>∃ v,e=.returned v∧Cw w v q.n q.f w':=by
 obtain⟨gb,o,n,cp,p,f⟩:=q
 cases p with
 | some ad=>exact bclone_some gb o n cp ad f hn w ⟨hq,hr⟩
 | none =>
  have h0:cp=0:=hN rfl
  have hle:n≤cp:=hq.2
  obtain rfl:n=0:=by omega
  subst h0
  refine(bclone_nil w).mono fun e w' h=>⟨_,h.1,h.2,?_⟩
  show World.ownsRow _ _ _ _ _ _ (zN .u8 f 0)
  exact World.ownsRow_nil _ _ _ _
end Wi
end Rg
end Go.Proofs.YtmcpagjhpfbpgaaGreatDoor
end
section
namespace Go.Proofs.YtmcpagjhpfbpgaaGreatDoor
open Go.RowKit
namespace Rg
namespace Wi
theorem call106:CO 106:=by intro args w;go_simp
theorem call143:CO 143:=by intro args w;go_simp
theorem call144:CO 144:=by intro args w;go_simp
theorem call146:CO 146:=by intro args w;go_simp
set_option maxRecDepth 100000
theorem put4_cw {w w1:World} {v:Value} {n m x:Nat} {P P2:Nat→Nat} (h:Cw w v n P w1) (hm:n+4=m) (hbd:m≤2097152) (hP:∀ j,j<m→ct P n (by4 x) j=P2 j):Calls Tryz.prog 144 #[v,W32 x] w1 fun e w2=>∃ v',e=.returned v'∧Cw w v' m P2 w2:=by
 subst hm
 refine(put4_v v n w.heap.size x P hbd w1 h.b.size h.own).mono fun e w2 hh => ?_
 obtain⟨v',e1,e2,e3⟩:=hh
 exact⟨v',e1,(h.on e3 e2).cg hP⟩
theorem check_cw {w w1:World} {v:Value} {g t n c:Nat} {P:Nat→Nat} (h:Cw w v n P w1) (hn:n<4611686018427387904) (hT:Tb g t w1) (hc:crc P n=c):Calls Tryz.prog 145 #[PT g t,v] w1 fun e w2=>e=.returned (W32 c)∧Below w1.heap.size w1 w2:=by
 obtain⟨q,e1,e2,e3,e4,e5,e6,_⟩:=h.part
 subst e4
 subst e5
 rw[e1,← hc]
 exact check_any g t q hn w1 hT ⟨e2,e6⟩
def hd8 (n:Nat):Nat→Nat:=ct (by4 n) 4 (by4 (crc (by4 n) 4))
def frm (f:Nat→Nat) (n:Nat):Nat→Nat:=ct (ct (hd8 n) 8 f) (8+n) (by4 (crc f n))
theorem c32_small {n:Nat} (h:n≤65536):c32 n=n:=Nat.mod_eq_of_lt (by omega)
theorem frame_ok (g t:Nat) (q:Pt8) (hL:q.n≤65536) (w:World) (hT0:Tb g t w) (hq0:Pok q∧q.rs w) (hqn0:q.p=none→q.cp=0) :
  Calls Tryz.prog 106 #[PT g t,.slice q.p q.n q.cp] w fun e w'=>∃ v,e=.returned (.tuple #[v,.int .i64 0])∧Cw w v (8+q.n+4) (frm q.f q.n) w':=by
 have H0:Hid (_∧_):=⟨Mm.nil w,Below.refl w.heap.size w⟩
 have hT:Hid _:=hT0
 have hq:Hid _:=hq0
 clear hT0 hq0
 have hqn:Hid _:=hqn0
 clear hqn0
 go_enter Tryz.func106,Tryz.ntmps106
 refine wp_seq ?_
 refine zG (l:=[0,1]) rfl (fun u0 hu0 => ?_)
 have H1:Hid (Mm u0 []∧Below w.heap.size w u0):=by rw[hu0];exact H0
 clear hu0 H0
 refine zA (d:=4) (v:=.slice none 0 0) (w':=u0) rfl rfl rfl rfl ?_
 simp only[Act.put,sa,sz,ss]
 refine zA (d:=5) (v:=.int .i64 0) (w':=u0) rfl rfl rfl rfl ?_
 simp only[Act.put,sa,sz,ss]
 refine zC (zB ?_)
 refine wp_seq (wp_seq ?_)
 refine zD (l:=[0,1,2]) rfl ?_
 refine zA (d:=7) (v:=.slice q.p q.n q.cp) (w':=u0) rfl rfl rfl rfl ?_
 simp only[Act.put,sa,sz,ss]
 refine zA (d:=8) (v:=.int .i64 ((q.n:Nat):Int)) (w':=u0) rfl rfl rfl (by go_simp) ?_
 simp only[Act.put,sa,sz,ss]
 refine zA (d:=9) (v:=.bool false) (w':=u0) rfl rfl rfl (by go_simp <;> omega) ?_
 simp only[Act.put,sa,sz,ss]
 refine zC (zB ?_)
 refine wp_cond_false rfl (wp_skip ?_)
 refine zB (wp_seq ?_)
 refine zD (l:=[0,1,2,3,4]) rfl ?_
 refine zA (d:=10) (v:=.slice q.p q.n q.cp) (w':=u0) rfl rfl rfl rfl ?_
 simp only[Act.put,sa,sz,ss]
 refine zA (d:=11) (v:=.int .i64 ((q.n:Nat):Int)) (w':=u0) rfl rfl rfl (by go_simp) ?_
 simp only[Act.put,sa,sz,ss]
 refine zE (d:=12) (R:=fun vv w'=>vv=.int .i64 ((8+q.n+4:Nat):Int)∧Below u0.heap.size u0 w') rfl rfl rfl (zF (args:=#[.int .i64 ((q.n:Nat):Int)]) rfl call143 rfl (mpn rfl)) (Calls.mono (framed_any q.n (by omega) u0) (fun e w2 hh=>⟨_,hh.1,rfl,hh.2⟩)) ?_
 rintro _ w2 ⟨rfl,hb⟩
 have H2:Hid (Mm w2 []∧Below w.heap.size w w2):=⟨H1.out.1.below hb,H1.out.2.trans (hb.mono H1.out.2.size)⟩
 clear hb
 clear H1
 simp only[Act.put,sa,sz,ss]
 obtain⟨w3,hmk,hcw,hb2⟩:=made_own H2.out.2 (8+q.n+4) (by omega)
 refine zA (d:=13) (v:=.slice (some ⟨w2.heap.size,0,none⟩) 0 (8+q.n+4)) (w':=w3) rfl rfl rfl (ex_mkS0 rfl rfl rfl hmk) ?_
 simp only[Act.put,sa,sz,ss]
 have H3:Hid (Mm w3 []∧Cw w (.slice (some ⟨w2.heap.size,0,none⟩) 0 (8+q.n+4)) 0 (fun _=>0) w3):=⟨Mm.nil _,hcw⟩
 clear hmk hcw hb2 H2
 generalize w2.heap.size=γm at H3 ⊢
 refine zA (d:=6) (v:=.slice (some ⟨γm,0,none⟩) 0 (8+q.n+4)) (w':=w3) rfl rfl rfl rfl ?_
 simp only[Act.put,sa,sz,ss]
 refine zC (zB (wp_seq ?_))
 refine zD (l:=[0,1,2,3,4,5]) rfl ?_
 refine zA (d:=14) (v:=.slice (some ⟨γm,0,none⟩) 0 (8+q.n+4)) (w':=w3) rfl rfl rfl rfl ?_
 simp only[Act.put,sa,sz,ss]
 refine zA (d:=15) (v:=.slice q.p q.n q.cp) (w':=w3) rfl rfl rfl rfl ?_
 simp only[Act.put,sa,sz,ss]
 refine zA (d:=16) (v:=.int .i64 ((q.n:Nat):Int)) (w':=w3) rfl rfl rfl (by go_simp) ?_
 simp only[Act.put,sa,sz,ss]
 refine zA (d:=17) (v:=W32 (c32 q.n)) (w':=w3) rfl rfl rfl (ex_cvIW (a:=q.n) rfl rfl) ?_
 simp only[Act.put,sa,sz,ss]
 refine zE (d:=18) (R:=fun vv w'=>Cw w vv (4) (by4 q.n) w') rfl rfl rfl (zF (args:=#[.slice (some ⟨γm,0,none⟩) 0 (8+q.n+4),W32 (c32 q.n)]) rfl call144 rfl (mpn rfl)) (Calls.mono (put4_cw (m:=4) (P2:=by4 q.n) H3.out.2 rfl (by omega) (fun j _=>by rw[ct_zero,c32_small (by omega)])) (fun e w2 hh=>by obtain⟨v',he,hO⟩:=hh;exact⟨_,he,hO⟩)) ?_
 rintro vr1 w4 hO
 have H4:Hid (Mm w4 []∧Cw w vr1 4 (by4 q.n) w4):=⟨Mm.nil _,hO⟩
 clear hO H3
 simp only[Act.put,sa,sz,ss]
 refine zA (d:=6) (v:=vr1) (w':=w4) rfl rfl rfl rfl ?_
 simp only[Act.put,sa,sz,ss]
 refine zC (zB (wp_seq ?_))
 refine zD (l:=[0,1,2,3,4,5]) rfl ?_
 refine zA (d:=19) (v:=vr1) (w':=w4) rfl rfl rfl rfl ?_
 simp only[Act.put,sa,sz,ss]
 refine zA (d:=20) (v:=PT g t) (w':=w4) rfl rfl rfl rfl ?_
 simp only[Act.put,sa,sz,ss]
 refine zA (d:=21) (v:=vr1) (w':=w4) rfl rfl rfl rfl ?_
 simp only[Act.put,sa,sz,ss]
 refine zE (d:=22) (R:=fun vv w'=>vv=W32 (crc (by4 q.n) 4)∧Below w4.heap.size w4 w') rfl rfl rfl (zF (args:=#[PT g t,vr1]) rfl call145 rfl (mpn rfl)) (Calls.mono (check_cw H4.out.2 (by decide) (hT.out.below H4.out.2.b) rfl) (fun e w2 hh=>⟨_,hh.1,rfl,hh.2⟩)) ?_
 rintro _ w5 ⟨rfl,hb⟩
 have H5:Hid (Mm w5 []∧Cw w vr1 4 (by4 q.n) w5):=⟨H4.out.1.below hb,Cw.step H4.out.2 (hb)⟩
 clear hb
 clear H4
 simp only[Act.put,sa,sz,ss]
 refine zE (d:=23) (R:=fun vv w'=>Cw w vv (8) (hd8 q.n) w') rfl rfl rfl (zF (args:=#[vr1,W32 (crc (by4 q.n) 4)]) rfl call144 rfl (mpn rfl)) (Calls.mono (put4_cw (m:=8) (P2:=hd8 q.n) H5.out.2 rfl (by omega) (fun j _=>rfl)) (fun e w2 hh=>by obtain⟨v',he,hO⟩:=hh;exact⟨_,he,hO⟩)) ?_
 rintro vr2 w6 hO
 have H6:Hid (Mm w6 []∧Cw w vr2 8 (hd8 q.n) w6):=⟨Mm.nil _,hO⟩
 clear hO H5
 simp only[Act.put,sa,sz,ss]
 refine zA (d:=6) (v:=vr2) (w':=w6) rfl rfl rfl rfl ?_
 simp only[Act.put,sa,sz,ss]
 refine zC (zB (wp_seq ?_))
 refine zD (l:=[0,1,2,3]) rfl ?_
 refine zA (d:=24) (v:=vr2) (w':=w6) rfl rfl rfl rfl ?_
 simp only[Act.put,sa,sz,ss]
 refine zA (d:=25) (v:=.slice q.p q.n q.cp) (w':=w6) rfl rfl rfl rfl ?_
 simp only[Act.put,sa,sz,ss]
 obtain⟨vr,w7,hr,hO,hG,h5⟩:=own_appQ H6.out.2.own H6.out.2.size hq.out.1 hqn.out (hq.out.2.below H6.out.2.b) (show 8+q.n≤2097152 by omega) 40
 refine zA (d:=26) (v:=vr) (w':=w7) rfl rfl rfl (ex_app rfl rfl rfl hr) ?_
 simp only[Act.put,sa,sz,ss]
 have H7:Hid (Mm w7 []∧Cw w vr (8+q.n) (ct (hd8 q.n) 8 q.f) w7):=⟨Mm.nil _,H6.out.2.on (Chg.grown hG) hO⟩
 clear hr hO hG h5 H6
 refine zA (d:=6) (v:=vr) (w':=w7) rfl rfl rfl rfl ?_
 simp only[Act.put,sa,sz,ss]
 refine zC (zB (wp_seq ?_))
 refine zD (l:=[0,1,2,3,4,5,6]) rfl ?_
 refine zA (d:=27) (v:=vr) (w':=w7) rfl rfl rfl rfl ?_
 simp only[Act.put,sa,sz,ss]
 refine zA (d:=28) (v:=PT g t) (w':=w7) rfl rfl rfl rfl ?_
 simp only[Act.put,sa,sz,ss]
 refine zA (d:=29) (v:=.slice q.p q.n q.cp) (w':=w7) rfl rfl rfl rfl ?_
 simp only[Act.put,sa,sz,ss]
 refine zE (d:=30) (R:=fun vv w'=>vv=W32 (crc q.f q.n)∧Below w7.heap.size w7 w') rfl rfl rfl (zF (args:=#[PT g t,.slice q.p q.n q.cp]) rfl call145 rfl (mpn rfl)) (Calls.mono (check_any g t q (by omega) w7 (hT.out.below H7.out.2.b) ⟨hq.out.1,hq.out.2.below H7.out.2.b⟩) (fun e w2 hh=>⟨_,hh.1,rfl,hh.2⟩)) ?_
 rintro _ w8 ⟨rfl,hb⟩
 have H8:Hid (Mm w8 []∧Cw w vr (8+q.n) (ct (hd8 q.n) 8 q.f) w8):=⟨H7.out.1.below hb,Cw.step H7.out.2 (hb)⟩
 clear hb
 clear H7
 simp only[Act.put,sa,sz,ss]
 refine zE (d:=31) (R:=fun vv w'=>Cw w vv (8+q.n+4) (frm q.f q.n) w') rfl rfl rfl (zF (args:=#[vr,W32 (crc q.f q.n)]) rfl call144 rfl (mpn rfl)) (Calls.mono (put4_cw (m:=8+q.n+4) (P2:=frm q.f q.n) H8.out.2 rfl (by omega) (fun j _=>rfl)) (fun e w2 hh=>by obtain⟨v',he,hO⟩:=hh;exact⟨_,he,hO⟩)) ?_
 rintro vr3 w9 hO
 have H9:Hid (Mm w9 []∧Cw w vr3 (8+q.n+4) (frm q.f q.n) w9):=⟨Mm.nil _,hO⟩
 clear hO H8
 simp only[Act.put,sa,sz,ss]
 refine zA (d:=4) (v:=vr3) (w':=w9) rfl rfl rfl rfl ?_
 simp only[Act.put,sa,sz,ss]
 refine zA (d:=5) (v:=.int .i64 0) (w':=w9) rfl rfl rfl rfl ?_
 simp only[Act.put,sa,sz,ss]
 refine zC (zB (wp_ret ?_))
 repeat (first | refine zI ?_ | refine zH ?_)
 refine bodyPost_ret (v:=.tuple #[vr3,.int .i64 0]) (by simp[results,Tryz.results106,go_sem, *]) rfl ?_
 exact⟨_,rfl,H9.out.2⟩
theorem Frame_ok (q:Pt8) (hL:q.n≤65536) (w:World) (hq0:Pok q∧q.rs w) (hqn0:q.p=none→q.cp=0) :
  Calls Tryz.prog 108 #[.slice q.p q.n q.cp] w fun e w'=>∃ v,e=.returned (.tuple #[v,.int .i64 0])∧Cw w v (8+q.n+4) (frm q.f q.n) w':=by
 have H0:Hid (_∧_):=⟨Mm.nil w,Below.refl w.heap.size w⟩
 have hq:Hid _:=hq0
 clear hq0
 have hqn:Hid _:=hqn0
 clear hqn0
 go_enter Tryz.func108,Tryz.ntmps108
 refine wp_seq ?_
 refine zG (l:=[0,1]) rfl (fun u0 hu0 => ?_)
 have H1:Hid (Mm u0 []∧Below w.heap.size w u0):=by rw[hu0];exact H0
 clear hu0 H0
 refine zA (d:=2) (v:=.slice none 0 0) (w':=u0) rfl rfl rfl rfl ?_
 simp only[Act.put,sa,sz,ss]
 refine zA (d:=3) (v:=.int .i64 0) (w':=u0) rfl rfl rfl rfl ?_
 simp only[Act.put,sa,sz,ss]
 refine zC (zB (wp_seq ?_))
 refine zD (l:=[0,1,2]) rfl ?_
 refine zE (d:=5) (R:=fun vv w'=>vv=.agg (zN .u32 crt 256).toArray∧Below u0.heap.size u0 w') rfl rfl rfl (zF (args:=#[]) rfl call146 rfl (mpn rfl)) (Calls.mono (newTable_any u0) (fun e w2 hh=>⟨_,hh.1,rfl,hh.2⟩)) ?_
 rintro _ w2 ⟨rfl,hb⟩
 have H2:Hid (Mm w2 []∧Below w.heap.size w w2):=⟨H1.out.1.below hb,H1.out.2.trans (hb.mono H1.out.2.size)⟩
 clear hb
 clear H1
 simp only[Act.put,sa,sz,ss]
 refine zA (d:=4) (v:=PT w2.heap.size 0) (w':=(w2.alloc (.cells (zN .u32 (fun _=>0) 256:List Value).toArray 169))) rfl rfl rfl (ex_mkT rfl) ?_
 simp only[Act.put,sa,sz,ss]
 have o_γs3:Hid (w.heap.size≤w2.heap.size):=H2.out.2.size
 have H3:Hid (Mm (w2.alloc (.cells (zN .u32 (fun _=>0) 256:List Value).toArray 169)) ((w2.heap.size,zN .u32 (fun _=>0) 256) :: [])∧Below w.heap.size w (w2.alloc (.cells (zN .u32 (fun _=>0) 256:List Value).toArray 169))):=⟨H2.out.1.alloc _ 169 rfl,H2.out.2.trans (((Below.refl _ _).alloc (Nat.le_refl _) _).mono H2.out.2.size)⟩
 clear H2
 generalize hgw:w2.alloc (.cells (zN .u32 (fun _=>0) 256:List Value).toArray 169)=w3 at H3 ⊢
 clear hgw
 generalize w2.heap.size=γs3 at o_γs3 H3 ⊢
 refine zM rfl rfl rfl (ex_storeT (vs:=zN .u32 crt 256) H3.out.1 0 rfl rfl rfl rfl (by rw[zO];exact As169) (ints_all _ _ _) (by rw[zO,zO];omega)) ?_
 have H4:Hid (Mm (w3.setCells γs3 0 (zN .u32 crt 256)) [(γs3,zN .u32 crt 256)]∧Below w.heap.size w (w3.setCells γs3 0 (zN .u32 crt 256))):=⟨by
  have h:=H3.out.1.put 0 (off:=0) (vs:=zN .u32 crt 256) rfl (by rw[zO,zO];omega)
  rw[ints_patch0] at h
  exact h,below_setCells _ o_γs3.out _ _ _ H3.out.2⟩
 clear H3
 generalize hgw:World.setCells _ _ _ _=w4 at H4 ⊢
 clear hgw
 refine zC (zB (wp_seq ?_))
 refine zD (l:=[0,1,2,3,4,5]) rfl ?_
 refine zA (d:=6) (v:=.slice q.p q.n q.cp) (w':=w4) rfl rfl rfl rfl ?_
 simp only[Act.put,sa,sz,ss]
 refine zE (d:=7) (R:=fun vv w'=>∃ v,vv=.tuple #[v,.int .i64 0]∧Cw w4 v (8+q.n+4) (frm q.f q.n) w') rfl rfl rfl (zF (args:=#[PT γs3 0,.slice q.p q.n q.cp]) rfl call106 rfl (mpn rfl)) (Calls.mono (frame_ok γs3 0 q hL w4 (Tb.mm (H4.out.1.one 0 rfl)) ⟨hq.out.1,hq.out.2.below H4.out.2⟩ hqn.out) (fun e w2 hh=>by obtain⟨v',he,hO⟩:=hh;exact⟨_,he,_,rfl,hO⟩)) ?_
 rintro _ w5 ⟨vr,rfl,hO⟩
 have hcw:Hid _:=Cw.up H4.out.2 hO
 have H5:Hid (Mm w5 []∧Below w.heap.size w w5):=⟨Mm.nil _,hcw.out.b⟩
 clear hO H4
 simp only[Act.put,sa,sz,ss]
 refine zA (d:=8) (v:=vr) (w':=w5) rfl rfl rfl (by go_simp) ?_
 simp only[Act.put,sa,sz,ss]
 refine zA (d:=9) (v:=.int .i64 0) (w':=w5) rfl rfl rfl (by go_simp) ?_
 simp only[Act.put,sa,sz,ss]
 refine zA (d:=2) (v:=vr) (w':=w5) rfl rfl rfl rfl ?_
 simp only[Act.put,sa,sz,ss]
 refine zA (d:=3) (v:=.int .i64 0) (w':=w5) rfl rfl rfl rfl ?_
 simp only[Act.put,sa,sz,ss]
 refine zC (zB (wp_ret ?_))
 repeat (first | refine zI ?_ | refine zH ?_)
 refine bodyPost_ret (v:=.tuple #[vr,.int .i64 0]) (by simp[results,Tryz.results108,go_sem, *]) rfl ?_
 exact⟨_,rfl,hcw.out⟩
end Wi
end Rg
end Go.Proofs.YtmcpagjhpfbpgaaGreatDoor
end
section
namespace Go.Proofs.YtmcpagjhpfbpgaaGreatDoor
open Go.RowKit
namespace Rg
namespace Wi
theorem call43:CO 43:=by intro args w;go_simp
theorem call167:CO 167:=by intro args w;go_simp
set_option maxRecDepth 100000
theorem block_past {Q:Exit→Act→World→Prop} {a:Act} {w:World} {id j:Nat} (hj:j≠id) (h:Q (.exit j) a w):Exit.inBlock id Q (.exit j) a w:=by simp only[Exit.inBlock,if_neg hj];exact h
def pcs (P:Nat→Pt8) (m:Nat):List Value:=(List.range m).map fun i=>.slice (P i).p (P i).n (P i).cp
def upP (P:Nat→Pt8) (k:Nat) (q:Pt8):Nat→Pt8:=fun i=>if i=k then q else P i
theorem pcs_get (P:Nat→Pt8) {m i:Nat} (h:i<m):(pcs P m)[i]?=some (.slice (P i).p (P i).n (P i).cp):=by
 unfold pcs
 rw[List.getElem?_map,List.getElem?_eq_getElem (by simpa using h),List.getElem_range]
 rfl
theorem pcs_snoc (P:Nat→Pt8) (m:Nat) (q:Pt8):pcs P m++[.slice q.p q.n q.cp]=pcs (upP P m q) (m+1):=by
 unfold pcs
 rw[List.range_succ,List.map_append]
 congr 1
 ·exact List.map_congr_left fun i hi=>by
   have h:i≠m:=by have:i<m:=(by simpa using hi);omega
   unfold upP
   rw[if_neg h]
 ·simp[upP]
theorem info_sl:∃ i,Tryz.prog.info? 40=some i∧i.zero=some (.slice none 0 0)∧i.size=1∧i.bytes=24:=by
 obtain⟨i,hi⟩:∃ i,Tryz.prog.info? 40=some i:=by
  have h:(Tryz.prog.info? 40).isSome=true:=by kernel_rfl
  rcases e:Tryz.prog.info? 40 with _ | i
  ·rw[e] at h;cases h
  ·exact⟨i,rfl⟩
 have h1:(Tryz.prog.info? 40).map (·.zero)=some (some (.slice none 0 0)):=by kernel_rfl
 have h2:(Tryz.prog.info? 40).map (·.size)=some 1:=by kernel_rfl
 have h3:(Tryz.prog.info? 40).map (·.bytes)=some 24:=by kernel_rfl
 rw[hi] at h1 h2 h3
 exact⟨i,hi,Option.some.inj h1,Option.some.inj h2,Option.some.inj h3⟩
structure Lr (w:World) (vv:Value) (m:Nat) (P:Nat→Pt8) (w':World):Prop where
 b:Below w.heap.size w w'
 own:w'.ownsRow w.heap.size 40 1 vv m (pcs P m)
 ok:∀ i,i<m→Pok (P i)∧((P i).p=none→(P i).cp=0)∧(P i).rs w'∧(0<(P i).n→w.heap.size≤(P i).gb∧(P i).gb∉vbl vv)
theorem Rs.keep {gb o n:Nat} {f:Nat→Nat} {w w':World} (h:Rs gb o n f w) (hs:w.heap.size≤w'.heap.size) (hb:0<n→w'.heap[gb]?=w.heap[gb]?):Rs gb o n f w' :=
 ⟨fun h0=>Nat.lt_of_lt_of_le (h.lt h0) hs,fun i hi=>(World.cell?_of_block (a:=⟨gb,o+i,none⟩) (hb (Nat.lt_of_le_of_lt (Nat.zero_le i) hi))).trans (h.at_ i hi)⟩
section
variable {w u u':World} {vv:Value} {m:Nat} {P:Nat→Pt8}
theorem Lr.start (P:Nat→Pt8) (h:Below w.heap.size w u):Lr w (.slice none 0 0) 0 P u:=⟨h,World.ownsRow_nil _ _ _ _,fun _ hi=>absurd hi (Nat.not_lt_zero _)⟩
theorem Lr.step (h:Lr w vv m P u) (hb:Below u.heap.size u u'):Lr w vv m P u' :=
 ⟨h.b.trans (hb.mono h.b.size),own_keep h.own (fun x hx=>hb.block x (own_lt h.own x hx)),fun i hi=>⟨(h.ok i hi).1,(h.ok i hi).2.1,(h.ok i hi).2.2.1.below hb,(h.ok i hi).2.2.2⟩⟩
theorem Lr.app (h:Lr w vv m P u) (hm:m≤1000000) {q:Pt8} (hq:Pok q∧(q.p=none→q.cp=0)∧q.rs u∧(0<q.n→w.heap.size≤q.gb∧q.gb∉vbl vv)) {gs:Nat} (hs:u.cell? ⟨gs,0,none⟩=some (.slice q.p q.n q.cp)) (ty:TypeId) :
  ∃ v' u2,(Builtin.append_ #[131,131] ty #[vv,.slice (some ⟨gs,0,none⟩) 1 1]).run Tryz.prog u=.ok v' u2∧Lr w v' (m+1) (upP P m q) u2:=by
 obtain⟨i0,hi,hz0,hz1,hz2⟩:=info_sl
 obtain⟨v',w2,r1,r2,r3,_,r5⟩:=run_append_own_at (P:=Tryz.prog) u w.heap.size 131 ty 40 i0 (.slice none 0 0) 1 24 Tryz.underlying131 hi hz0 hz1 hz2 rfl (by decide) vv m _ h.own ⟨gs,0,none⟩ 1 1 [.slice q.p q.n q.cp] rfl
  (fun j v hj=>by
   rcases j with _ | j
   ·rw[show (⟨gs,0,none⟩:Addr).add 0=⟨gs,0,none⟩ by unfold Addr.add;split <;> simp_all,hs];exact hj
   ·cases hj) (fun v hv=>by rw[List.mem_singleton.1 hv];rfl) (by unfold maxLen;omega) (by omega) h.b.size
 rw[pcs_snoc] at r2
 have hc:=Chg.grown r3
 have key:∀ p:Pt8,p.rs u→(0<p.n→w.heap.size≤p.gb∧p.gb∉vbl vv)→p.rs w2∧(0<p.n→w.heap.size≤p.gb∧p.gb∉vbl v'):=fun p h1 h2=>⟨h1.keep hc.size (fun h0=>hc.block _ (h1.lt h0) (h2 h0).2),fun h0=>⟨(h2 h0).1,fun hx=>by
  unfold vbl at hx
  rcases r5 with e | e
  ·rw[e] at hx;exact(h2 h0).2 hx
  ·rw[e] at hx
   have:p.gb=u.heap.size:=by simpa using hx
   have:=h1.lt h0
   omega⟩⟩
 refine⟨v',w2,r1,h.b.trans (hc.toBelow (fun x hx => ?_) h.b.size),r2,fun i hi => ?_⟩
 ·unfold vbl at hx
  cases hv:vv.ownBlock with
  | none=>rw[hv] at hx;simp at hx
  | some k=>rw[hv] at hx;simp at hx;subst hx;exact(World.ownsRow.lt h.own _ hv).1
 ·unfold upP
  by_cases e:i=m
  ·rw[if_pos e]
   exact⟨hq.1,hq.2.1,key q hq.2.2.1 hq.2.2.2⟩
  ·rw[if_neg e]
   have h3:=h.ok i (by omega)
   exact⟨h3.1,h3.2.1,key _ h3.2.2.1 h3.2.2.2⟩
end
theorem ex_appL {ρ:Operand→Value} {o:Oper} {x y:Operand} {w w2:World} {vv sv v':Value} (ho:o.op=.call { callee:=.builtin .append,args:=#[x,y],argTypes:=#[131,131] }) (hx:ρ x=vv) (hy:ρ y=sv) (hr:(Builtin.append_ #[131,131] o.type #[vv,sv]).run Tryz.prog w=.ok v' w2):(execOp ρ o).run Tryz.prog w=.ok (.value v') w2:=by
 unfold execOp
 simp only[ho,resolve,invoke,builtin,Sem.run_bind,Sem.run_pure,Result.andThen_ok,List.map_toArray,List.map_cons,List.map_nil,hx,hy,hr]
theorem ex_bs131_1 {ρ:Operand→Value} {o:Oper} {x:Operand} {p:Option Addr} {n c:Nat} {w:World} (ho:o.op=.buildSlice 131 1 #[(0,x)]) (hx:ρ x=.slice p n c):(execOp ρ o).run Tryz.prog w=.ok (.value (.slice (some ⟨w.heap.size,0,none⟩) 1 1)) (w.alloc (.cells ([.slice p n c]:List Value).toArray 40)):=by
 simp only[execOp,ho,List.map_toArray,List.map_cons,List.map_nil,hx]
 kernel_rfl
def sh (f:Nat→Nat) (a:Nat):Nat→Nat:=fun j=>f (a+j)
structure Hdk (f:Nat→Nat) (L:Nat):Prop where
 nb:nb4 (f 0) (f 1) (f 2) (f 3)=L
 le:L≤65536
 ck:crc f 4=nb4 (f 4) (f 5) (f 6) (f 7)
def Bdk (f:Nat→Nat) (L:Nat):Prop:=crc (sh f 8) L=nb4 (f (8+L)) (f (8+L+1)) (f (8+L+2)) (f (8+L+3))
structure Lgk (f:Nat→Nat) (n:Nat) (A Ln:Nat→Nat) (M:Nat):Prop where
 z:A 0=0
 s:∀ i,i<M→A (i+1)=A i+(12+Ln i)
 le:A M≤n
 hd:∀ i,i<M→Hdk (sh f (A i)) (Ln i)
 bd:∀ i,i<M→Bdk (sh f (A i)) (Ln i)
theorem Lgk.mono {f:Nat→Nat} {n:Nat} {A Ln:Nat→Nat} {M:Nat} (h:Lgk f n A Ln M):∀ (k i:Nat),i+k=M→A i+12*k≤A M
 | 0,i,e=>by rw[show i=M by omega];omega
 | k+1,i,e=>by
  have h1:=h.mono k (i+1) (by omega)
  have h2:=h.s i (by omega)
  omega
theorem Lgk.at_le {f:Nat→Nat} {n:Nat} {A Ln:Nat→Nat} {M:Nat} (h:Lgk f n A Ln M) {i:Nat} (hi:i≤M):A i≤n∧M - i≤n:=by
 have:=h.mono (M - i) i (by omega)
 have:=h.le
 omega
theorem Lgk.nx_le {f:Nat→Nat} {n:Nat} {A Ln:Nat→Nat} {M:Nat} (h:Lgk f n A Ln M) {i:Nat} (hi:i<M):A i+(12+Ln i)≤n:=by
 have h1:=(h.at_le (i:=i+1) hi).1
 rw[h.s i hi] at h1
 exact h1
structure Gr where
 i:Nat
 r:Pt8
 v:Value
 P:Nat→Pt8
structure Rk (q:Pt8) (A Ln:Nat→Nat) (M:Nat) (w:World) (x:Gr):Prop where
 le:x.i≤M
 ok:Pok x.r∧x.r.rs w
 no:x.r.p=none→x.r.cp=0
 n:x.r.n+A x.i=q.n
 f:x.r.f=sh q.f (A x.i)
 ps:∀ i,i<x.i→(x.P i).n=Ln i∧∀ j,j<Ln i→(x.P i).f j=q.f (A i+8+j)
theorem length_hd (g t:Nat) (q:Pt8) (L:Nat) (h8:8≤q.n) (h:Hdk q.f L) (w:World) (hT:Tb g t w) (hq:Pok q∧q.rs w):Calls Tryz.prog 167 #[PT g t,.slice q.p q.n q.cp] w (Rt w (.tuple #[.int .i64 ((L:Nat):Int),.int .i64 0])):=by
 obtain⟨h1,h2,h3⟩:=h
 subst h1
 exact length_ok g t q h8 (by show ¬65536<nb4 _ _ _ _;omega) (decide_eq_true h3) w hT hq
theorem holds_bd (g t:Nat) (q:Pt8) (L:Nat) (hL:L≤65536) (hn:8+L+4≤q.n) (c:Bool) (hc:decide (crc (sh q.f 8) L=nb4 (q.f (8+L)) (q.f (8+L+1)) (q.f (8+L+2)) (q.f (8+L+3)))=c) (w:World) (hT:Tb g t w) (hq:Pok q∧q.rs w):Calls Tryz.prog 168 #[PT g t,.slice ((q.tk (8+L)).dp 8).p ((q.tk (8+L)).dp 8).n ((q.tk (8+L)).dp 8).cp,.slice (q.dp (8+L)).p (q.dp (8+L)).n (q.dp (8+L)).cp] w (Rt w (.bool c)):=by
 refine holds_is g t ((q.tk (8+L)).dp 8) (q.dp (8+L)) c (by show 8+L - 8<_;omega) (by show 4≤q.n - (8+L);omega) ?_ w hT ⟨(hq.1.tk (by omega)).dp (by show 8≤8+L;omega),Pt8.rs_dp (Pt8.rs_tk hq.2 (by omega)) (by show 8≤8+L;omega)⟩ ⟨hq.1.dp (by omega),Pt8.rs_dp hq.2 (by omega)⟩
 rw[← hc]
 show decide (crc (fun j=>q.f (8+j)) (8+L - 8)=nb4 (q.f (8+L+0)) (q.f (8+L+1)) (q.f (8+L+2)) (q.f (8+L+3)))=_
 rw[Nat.add_sub_cancel_left]
 rfl
theorem Rk.next {q:Pt8} {A Ln:Nat→Nat} {M:Nat} {w:World} {x:Gr} (h:Rk q A Ln M w x) (hg:Lgk q.f q.n A Ln M) (hlt:x.i<M) {q2:Pt8} {v:Value} (hn:q2.n=((x.r.tk (8+Ln x.i)).dp 8).n) (hf:q2.f=((x.r.tk (8+Ln x.i)).dp 8).f):Rk q A Ln M w ⟨x.i+1,x.r.dp (8+Ln x.i+4),v,upP x.P x.i q2⟩:=by
 have h1:=h.n
 have h2:=hg.nx_le hlt
 have h3:=hg.s x.i hlt
 have h4:=h.ok.1.le
 refine⟨hlt,⟨h.ok.1.dp (by omega),Pt8.rs_dp h.ok.2 (by omega)⟩,Pt8.dp_no h.no _,?_,?_,fun i hi => ?_⟩
 ·show x.r.n - (8+Ln x.i+4)+A (x.i+1)=q.n
  omega
 ·show (fun j=>x.r.f (8+Ln x.i+4+j))=sh q.f (A (x.i+1))
  funext j
  rw[h.f]
  show q.f (A x.i+(8+Ln x.i+4+j))=q.f (A (x.i+1)+j)
  rw[h3]
  congr 1
  omega
 ·show (upP x.P x.i q2 i).n=Ln i∧∀ j,j<Ln i→(upP x.P x.i q2 i).f j=q.f (A i+8+j)
  unfold upP
  by_cases e:i=x.i
  ·rw[if_pos e,e,hn,hf]
   refine⟨(show 8+Ln x.i - 8=_ by omega),fun j hj => ?_⟩
   show x.r.f (8+j)=_
   rw[h.f]
   show q.f (A x.i+(8+j))=_
   rw[Nat.add_assoc]
  ·rw[if_neg e]
   exact h.ps i (by have:i<x.i+1:=hi;omega)
theorem read_short (g t:Nat) (q:Pt8) (A Ln:Nat→Nat) (M:Nat) (hbq:q.n≤1048576) (hE:q.n<A M+8) (w:World) (hT0:Tb g t w) (hq0:Pok q∧q.rs w) (hqn0:q.p=none→q.cp=0) (hlg0:Lgk q.f q.n A Ln M) :
  Calls Tryz.prog 148 #[PT g t,.slice q.p q.n q.cp] w fun e w'=>∃ v P,e=.returned (.tuple #[v,.int .i64 ((A M:Nat):Int),.int .i64 0])∧Lr w v M P w'∧∀ i,i<M→(P i).n=Ln i∧∀ j,j<Ln i→(P i).f j=q.f (A i+8+j):=by
 have H0:Hid (_∧_):=⟨Mm.nil w,Lr.start (fun _=>q) (Below.refl w.heap.size w)⟩
 have hT:Hid _:=hT0
 have hq:Hid _:=hq0
 clear hT0 hq0
 have hqn:Hid _:=hqn0
 clear hqn0
 have hlg:Hid _:=hlg0
 clear hlg0
 go_enter Tryz.func148,Tryz.ntmps148
 refine wp_seq ?_
 refine zG (l:=[0,1,2]) rfl (fun u0 hu0 => ?_)
 have H1:Hid (Mm u0 []∧Lr w (.slice none 0 0) 0 (fun _=>q) u0):=by rw[hu0];exact H0
 clear hu0 H0
 refine zA (d:=4) (v:=.slice none 0 0) (w':=u0) rfl rfl rfl rfl ?_
 simp only[Act.put,sa,sz,ss]
 refine zA (d:=5) (v:=.int .i64 0) (w':=u0) rfl rfl rfl rfl ?_
 simp only[Act.put,sa,sz,ss]
 refine zA (d:=6) (v:=.int .i64 0) (w':=u0) rfl rfl rfl rfl ?_
 simp only[Act.put,sa,sz,ss]
 refine zC (zB (wp_seq ?_))
 refine zD (l:=[0]) rfl ?_
 refine zA (d:=7) (v:=.slice none 0 0) (w':=u0) rfl rfl rfl rfl ?_
 simp only[Act.put,sa,sz,ss]
 refine zC (zB (wp_seq ?_))
 refine zD (l:=[0,1]) rfl ?_
 refine zA (d:=12) (v:=.slice q.p q.n q.cp) (w':=u0) rfl rfl rfl rfl ?_
 simp only[Act.put,sa,sz,ss]
 refine zA (d:=8) (v:=.slice q.p q.n q.cp) (w':=u0) rfl rfl rfl rfl ?_
 simp only[Act.put,sa,sz,ss]
 refine zC (zB ?_)
 refine wp_seq (wp_block ?_)
 refine loop_ghost (α:=Gr) (fun x a' w'=>∃ s0:Nat→Value,a'=⟨#[PT g t,.slice q.p q.n q.cp,ud,ud,s0 4,s0 5,s0 6,x.v,.slice x.r.p x.r.n x.r.cp,s0 9,s0 10,s0 11,.slice q.p q.n q.cp,s0 13,s0 14,s0 15,s0 16,s0 17,s0 18,s0 19,s0 20,s0 21,s0 22,s0 23,s0 24,s0 25,s0 26,s0 27,s0 28,s0 29,s0 30,s0 31,s0 32,s0 33,s0 34,s0 35,s0 36,s0 37,s0 38,s0 39,s0 40,s0 41,s0 42,s0 43,s0 44,s0 45,s0 46,s0 47,s0 48,s0 49,s0 50,ud,ud,ud,ud,ud,ud],[]⟩∧(Mm w' []∧Lr w x.v x.i x.P w')∧Rk q A Ln M w x) (fun x=>M - x.i) ⟨0,q,.slice none 0 0,fun _=>q⟩ ?st0 ?rd0
 case st0=>exact⟨(slotfn [ud,ud,ud,ud,.slice none 0 0,.int .i64 0,.int .i64 0,ud,ud,ud,ud,ud,ud,ud,ud,ud,ud,ud,ud,ud,ud,ud,ud,ud,ud,ud,ud,ud,ud,ud,ud,ud,ud,ud,ud,ud,ud,ud,ud,ud,ud,ud,ud,ud,ud,ud,ud,ud,ud,ud,ud]),rfl,⟨H1.out.1,H1.out.2⟩,⟨Nat.zero_le _,hq.out,hqn.out,by show q.n+A 0=q.n;rw[hlg.out.z,Nat.add_zero],by show q.f=sh q.f (A 0);rw[hlg.out.z];funext j;show q.f j=q.f (0+j);rw[Nat.zero_add],fun i hi=>absurd hi (Nat.not_lt_zero _)⟩⟩
 intro x a' w2 hI
 obtain⟨s0,rfl,hMB,hk0⟩:=hI
 have H2:Hid (_∧_):=hMB
 clear hMB H1
 by_cases hltx:x.i<M
 ·have hrd:True:=trivial
  clear hrd
  have hle:=hk0.ok.1.le
  have hrn:=hk0.n
  have hAl:=hlg.out.at_le hk0.le
  have hMn:=hlg.out.mono M 0 (Nat.zero_add M)
  have hMl:=hlg.out.le
  have hnx:=hlg.out.nx_le hltx
  have hhd:Hdk x.r.f (Ln x.i):=by rw[hk0.f];exact hlg.out.hd x.i hltx
  have hbd:Bdk x.r.f (Ln x.i):=by rw[hk0.f];exact hlg.out.bd x.i hltx
  have hL6:=hhd.le
  refine wp_seq (wp_seq ?_)
  refine zD (l:=[0,1,2]) rfl ?_
  refine zA (d:=13) (v:=.slice x.r.p x.r.n x.r.cp) (w':=w2) rfl rfl rfl rfl ?_
  simp only[Act.put,sa,sz,ss]
  refine zA (d:=14) (v:=.int .i64 ((x.r.n:Nat):Int)) (w':=w2) rfl rfl rfl (by go_simp) ?_
  simp only[Act.put,sa,sz,ss]
  refine zA (d:=15) (v:=.bool true) (w':=w2) rfl rfl rfl (by go_simp <;> omega) ?_
  simp only[Act.put,sa,sz,ss]
  refine zC (zB ?_)
  refine wp_cond_true rfl (wp_skip ?_)
  refine zB (wp_block (wp_seq ?_))
  refine zD (l:=[0,1,2,3,4,5,6,7]) rfl ?_
  refine zA (d:=17) (v:=PT g t) (w':=w2) rfl rfl rfl rfl ?_
  simp only[Act.put,sa,sz,ss]
  refine zA (d:=18) (v:=.slice x.r.p x.r.n x.r.cp) (w':=w2) rfl rfl rfl rfl ?_
  simp only[Act.put,sa,sz,ss]
  refine zE (d:=19) (R:=fun vv w'=>vv=.tuple #[.int .i64 (((Ln x.i):Nat):Int),.int .i64 0]∧Below w2.heap.size w2 w') rfl rfl rfl (zF (args:=#[PT g t,.slice x.r.p x.r.n x.r.cp]) rfl call167 rfl (mpn rfl)) (Calls.mono (length_hd g t x.r (Ln x.i) (by omega) hhd w2 (hT.out.below H2.out.2.b) ⟨hk0.ok.1,hk0.ok.2.below H2.out.2.b⟩) (fun e w2 hh=>⟨_,hh.1,rfl,hh.2⟩)) ?_
  rintro _ w3 ⟨rfl,hb⟩
  have H3:Hid (Mm w3 []∧Lr w x.v x.i x.P w3):=⟨H2.out.1.below hb,Lr.step H2.out.2 (hb)⟩
  clear hb
  clear H2
  simp only[Act.put,sa,sz,ss]
  refine zA (d:=16) (v:=.tuple #[.int .i64 (((Ln x.i):Nat):Int),.int .i64 0]) (w':=w3) rfl rfl rfl rfl ?_
  simp only[Act.put,sa,sz,ss]
  refine zA (d:=20) (v:=.int .i64 (((Ln x.i):Nat):Int)) (w':=w3) rfl rfl rfl (by go_simp) ?_
  simp only[Act.put,sa,sz,ss]
  refine zA (d:=21) (v:=.int .i64 0) (w':=w3) rfl rfl rfl (by go_simp) ?_
  simp only[Act.put,sa,sz,ss]
  refine zA (d:=9) (v:=.int .i64 (((Ln x.i):Nat):Int)) (w':=w3) rfl rfl rfl rfl ?_
  simp only[Act.put,sa,sz,ss]
  refine zA (d:=10) (v:=.int .i64 0) (w':=w3) rfl rfl rfl rfl ?_
  simp only[Act.put,sa,sz,ss]
  refine zC (zB ?_)
  refine wp_seq (wp_seq ?_)
  refine zD (l:=[0,1]) rfl ?_
  refine zA (d:=22) (v:=.int .i64 0) (w':=w3) rfl rfl rfl rfl ?_
  simp only[Act.put,sa,sz,ss]
  refine zA (d:=23) (v:=.bool false) (w':=w3) rfl rfl rfl (by kernel_rfl) ?_
  simp only[Act.put,sa,sz,ss]
  refine zC (zB ?_)
  refine wp_cond_false rfl (wp_skip ?_)
  refine zB (wp_seq (wp_seq ?_))
  refine zD (l:=[0,1,2,3,4]) rfl ?_
  refine zA (d:=25) (v:=.slice x.r.p x.r.n x.r.cp) (w':=w3) rfl rfl rfl rfl ?_
  simp only[Act.put,sa,sz,ss]
  refine zA (d:=26) (v:=.int .i64 ((x.r.n:Nat):Int)) (w':=w3) rfl rfl rfl (by go_simp) ?_
  simp only[Act.put,sa,sz,ss]
  refine zA (d:=27) (v:=.int .i64 (((Ln x.i):Nat):Int)) (w':=w3) rfl rfl rfl rfl ?_
  simp only[Act.put,sa,sz,ss]
  refine zE (d:=28) (R:=fun vv w'=>vv=.int .i64 ((8+(Ln x.i)+4:Nat):Int)∧Below w3.heap.size w3 w') rfl rfl rfl (zF (args:=#[.int .i64 (((Ln x.i):Nat):Int)]) rfl call143 rfl (mpn rfl)) (Calls.mono (framed_any (Ln x.i) (by omega) w3) (fun e w2 hh=>⟨_,hh.1,rfl,hh.2⟩)) ?_
  rintro _ w4 ⟨rfl,hb⟩
  have H4:Hid (Mm w4 []∧Lr w x.v x.i x.P w4):=⟨H3.out.1.below hb,Lr.step H3.out.2 (hb)⟩
  clear hb
  clear H3
  simp only[Act.put,sa,sz,ss]
  refine zA (d:=29) (v:=.bool false) (w':=w4) rfl rfl rfl (by go_simp <;> omega) ?_
  simp only[Act.put,sa,sz,ss]
  refine zC (zB ?_)
  refine wp_cond_false rfl (wp_skip ?_)
  refine zB (wp_seq ?_)
  refine zD (l:=[0,1,2,3,4]) rfl ?_
  refine zA (d:=30) (v:=.slice x.r.p x.r.n x.r.cp) (w':=w4) rfl rfl rfl rfl ?_
  simp only[Act.put,sa,sz,ss]
  refine zA (d:=31) (v:=.int .i64 (((Ln x.i):Nat):Int)) (w':=w4) rfl rfl rfl rfl ?_
  simp only[Act.put,sa,sz,ss]
  refine zA (d:=32) (v:=.int .i64 ((8+(Ln x.i):Nat):Int)) (w':=w4) rfl rfl rfl (by go_simp;rw[IntKind.wrap_i64];omega) ?_
  simp only[Act.put,sa,sz,ss]
  refine zA (d:=33) (v:=.slice ((x.r.tk (8+(Ln x.i))).dp 8).p ((x.r.tk (8+(Ln x.i))).dp 8).n ((x.r.tk (8+(Ln x.i))).dp 8).cp) (w':=w4) rfl rfl rfl (ex_mdQ (q:=x.r) (k:=8) (m:=8+(Ln x.i)) (by omega) (by omega) rfl rfl rfl rfl) ?_
  simp only[Act.put,sa,sz,ss]
  refine zA (d:=11) (v:=.slice ((x.r.tk (8+(Ln x.i))).dp 8).p ((x.r.tk (8+(Ln x.i))).dp 8).n ((x.r.tk (8+(Ln x.i))).dp 8).cp) (w':=w4) rfl rfl rfl rfl ?_
  simp only[Act.put,sa,sz,ss]
  refine zC (zB ?_)
  refine wp_seq (wp_seq ?_)
  refine zD (l:=[0,1,2,3,4,5,6,7]) rfl ?_
  refine zA (d:=34) (v:=PT g t) (w':=w4) rfl rfl rfl rfl ?_
  simp only[Act.put,sa,sz,ss]
  refine zA (d:=35) (v:=.slice ((x.r.tk (8+(Ln x.i))).dp 8).p ((x.r.tk (8+(Ln x.i))).dp 8).n ((x.r.tk (8+(Ln x.i))).dp 8).cp) (w':=w4) rfl rfl rfl rfl ?_
  simp only[Act.put,sa,sz,ss]
  refine zA (d:=36) (v:=.slice x.r.p x.r.n x.r.cp) (w':=w4) rfl rfl rfl rfl ?_
  simp only[Act.put,sa,sz,ss]
  refine zA (d:=37) (v:=.int .i64 (((Ln x.i):Nat):Int)) (w':=w4) rfl rfl rfl rfl ?_
  simp only[Act.put,sa,sz,ss]
  refine zA (d:=38) (v:=.int .i64 ((8+(Ln x.i):Nat):Int)) (w':=w4) rfl rfl rfl (by go_simp;rw[IntKind.wrap_i64];omega) ?_
  simp only[Act.put,sa,sz,ss]
  refine zA (d:=39) (v:=.slice (x.r.dp (8+(Ln x.i))).p (x.r.dp (8+(Ln x.i))).n (x.r.dp (8+(Ln x.i))).cp) (w':=w4) rfl rfl rfl (ex_dpQ (q:=x.r) (k:=8+(Ln x.i)) (by omega) rfl rfl rfl) ?_
  simp only[Act.put,sa,sz,ss]
  refine zE (d:=40) (R:=fun vv w'=>vv=.bool true∧Below w4.heap.size w4 w') rfl rfl rfl (zF (args:=#[PT g t,.slice ((x.r.tk (8+(Ln x.i))).dp 8).p ((x.r.tk (8+(Ln x.i))).dp 8).n ((x.r.tk (8+(Ln x.i))).dp 8).cp,.slice (x.r.dp (8+(Ln x.i))).p (x.r.dp (8+(Ln x.i))).n (x.r.dp (8+(Ln x.i))).cp]) rfl call168 rfl (mpn rfl)) (Calls.mono (holds_bd g t x.r (Ln x.i) (by omega) (by omega) true (decide_eq_true hbd) w4 (hT.out.below H4.out.2.b) ⟨hk0.ok.1,hk0.ok.2.below H4.out.2.b⟩) (fun e w2 hh=>⟨_,hh.1,rfl,hh.2⟩)) ?_
  rintro _ w5 ⟨rfl,hb⟩
  have H5:Hid (Mm w5 []∧Lr w x.v x.i x.P w5):=⟨H4.out.1.below hb,Lr.step H4.out.2 (hb)⟩
  clear hb
  clear H4
  simp only[Act.put,sa,sz,ss]
  refine zA (d:=41) (v:=.bool false) (w':=w5) rfl rfl rfl (by go_simp) ?_
  simp only[Act.put,sa,sz,ss]
  refine zC (zB ?_)
  refine wp_cond_false rfl (wp_skip ?_)
  refine zB (wp_seq ?_)
  refine zD (l:=[0,1,2,3,4,5]) rfl ?_
  refine zA (d:=42) (v:=x.v) (w':=w5) rfl rfl rfl rfl ?_
  simp only[Act.put,sa,sz,ss]
  refine zA (d:=43) (v:=.slice ((x.r.tk (8+(Ln x.i))).dp 8).p ((x.r.tk (8+(Ln x.i))).dp 8).n ((x.r.tk (8+(Ln x.i))).dp 8).cp) (w':=w5) rfl rfl rfl rfl ?_
  simp only[Act.put,sa,sz,ss]
  refine zE (d:=44) (R:=fun vv w'=>Cw w5 vv ((x.r.tk (8+(Ln x.i))).dp 8).n ((x.r.tk (8+(Ln x.i))).dp 8).f w') rfl rfl rfl (zF (args:=#[.slice ((x.r.tk (8+(Ln x.i))).dp 8).p ((x.r.tk (8+(Ln x.i))).dp 8).n ((x.r.tk (8+(Ln x.i))).dp 8).cp]) rfl call43 rfl (mpn rfl)) (Calls.mono (bclone_any ((x.r.tk (8+(Ln x.i))).dp 8) (by show 8+(Ln x.i) - 8≤_;omega) w5 ((hk0.ok.1.tk (by omega)).dp (by show 8≤8+(Ln x.i);omega)) (Pt8.dp_no (Pt8.tk_no hk0.no _) _) (Pt8.rs_dp (Pt8.rs_tk (hk0.ok.2.below H5.out.2.b) (by omega)) (by show 8≤8+(Ln x.i);omega))) (fun e w2 hh=>by obtain⟨v',he,hO⟩:=hh;exact⟨_,he,hO⟩)) ?_
  rintro vc w6 hO
  obtain⟨q2,rfl,e2,e3,e4,e5,e6,e7⟩:=hO.part
  have hq2:Hid (Pok q2∧(q2.p=none→q2.cp=0)∧(0<q2.n→w.heap.size≤q2.gb∧q2.gb∉vbl x.v)):=⟨e2,e3,fun h0=>⟨Nat.le_trans H5.out.2.b.size (e7 h0),fun hx=>absurd (own_lt H5.out.2.own _ hx) (Nat.not_lt.2 (e7 h0))⟩⟩
  have hq2n:Hid (q2.n=((x.r.tk (8+(Ln x.i))).dp 8).n):=e4
  have hq2f:Hid (q2.f=((x.r.tk (8+(Ln x.i))).dp 8).f):=e5
  have H6:Hid (Mm w6 []∧Lr w x.v x.i x.P w6∧q2.rs w6):=⟨Mm.nil _,H5.out.2.step hO.b,e6⟩
  clear hO e2 e3 e4 e5 e6 e7 H5
  have hq2z:Hid _:=H6.out.2.2
  have H7:Hid (Mm w6 []∧Lr w x.v x.i x.P w6):=⟨Mm.nil _,H6.out.2.1⟩
  clear H6
  simp only[Act.put,sa,sz,ss]
  have hq2r:Hid (q2.rs (w6.alloc (.cells ([Value.slice q2.p q2.n q2.cp]:List Value).toArray 40))):=hq2z.out.below ((Below.refl _ _).alloc (Nat.le_refl _) _)
  refine zA (d:=45) (v:=.slice (some ⟨w6.heap.size,0,none⟩) 1 1) (w':=(w6.alloc (.cells ([Value.slice q2.p q2.n q2.cp]:List Value).toArray 40))) rfl rfl rfl (ex_bs131_1 rfl rfl) ?_
  simp only[Act.put,sa,sz,ss]
  have o_γs8:Hid (w.heap.size≤w6.heap.size):=H7.out.2.b.size
  have H8:Hid (Mm (w6.alloc (.cells ([Value.slice q2.p q2.n q2.cp]:List Value).toArray 40)) ((w6.heap.size,[Value.slice q2.p q2.n q2.cp]) :: [])∧Lr w x.v x.i x.P (w6.alloc (.cells ([Value.slice q2.p q2.n q2.cp]:List Value).toArray 40))):=⟨H7.out.1.alloc _ 40 rfl,Lr.step H7.out.2 (((Below.refl _ _).alloc (Nat.le_refl _) _))⟩
  clear H7
  generalize hgw:w6.alloc (.cells ([Value.slice q2.p q2.n q2.cp]:List Value).toArray 40)=w8 at hq2r H8 ⊢
  clear hgw
  generalize w6.heap.size=γs8 at o_γs8 H8 ⊢
  obtain⟨vr,w9,hr,hO⟩:=H8.out.2.app (by omega) (q:=q2) ⟨hq2.out.1,hq2.out.2.1,hq2r.out,hq2.out.2.2⟩ (H8.out.1.get 0 rfl 0 rfl) 131
  refine zA (d:=46) (v:=vr) (w':=w9) rfl rfl rfl (ex_appL rfl rfl rfl hr) ?_
  simp only[Act.put,sa,sz,ss]
  have H9:Hid (Mm w9 []∧Lr w vr (x.i+1) (upP x.P x.i q2) w9):=⟨Mm.nil _,hO⟩
  clear hr hO H8
  refine zA (d:=7) (v:=vr) (w':=w9) rfl rfl rfl rfl ?_
  simp only[Act.put,sa,sz,ss]
  refine zC (zB ?_)
  refine zD (l:=[0,1,2,3,4]) rfl ?_
  refine zA (d:=47) (v:=.slice x.r.p x.r.n x.r.cp) (w':=w9) rfl rfl rfl rfl ?_
  simp only[Act.put,sa,sz,ss]
  refine zA (d:=48) (v:=.int .i64 (((Ln x.i):Nat):Int)) (w':=w9) rfl rfl rfl rfl ?_
  simp only[Act.put,sa,sz,ss]
  refine zE (d:=49) (R:=fun vv w'=>vv=.int .i64 ((8+(Ln x.i)+4:Nat):Int)∧Below w9.heap.size w9 w') rfl rfl rfl (zF (args:=#[.int .i64 (((Ln x.i):Nat):Int)]) rfl call143 rfl (mpn rfl)) (Calls.mono (framed_any (Ln x.i) (by omega) w9) (fun e w2 hh=>⟨_,hh.1,rfl,hh.2⟩)) ?_
  rintro _ w10 ⟨rfl,hb⟩
  have H10:Hid (Mm w10 []∧Lr w vr (x.i+1) (upP x.P x.i q2) w10):=⟨H9.out.1.below hb,Lr.step H9.out.2 (hb)⟩
  clear hb
  clear H9
  simp only[Act.put,sa,sz,ss]
  refine zA (d:=50) (v:=.slice (x.r.dp (8+(Ln x.i)+4)).p (x.r.dp (8+(Ln x.i)+4)).n (x.r.dp (8+(Ln x.i)+4)).cp) (w':=w10) rfl rfl rfl (ex_dpQ (q:=x.r) (k:=8+(Ln x.i)+4) (by omega) rfl rfl rfl) ?_
  simp only[Act.put,sa,sz,ss]
  refine zA (d:=8) (v:=.slice (x.r.dp (8+(Ln x.i)+4)).p (x.r.dp (8+(Ln x.i)+4)).n (x.r.dp (8+(Ln x.i)+4)).cp) (w':=w10) rfl rfl rfl rfl ?_
  simp only[Act.put,sa,sz,ss]
  refine zC (block_normal (zB ?_))
  exact⟨⟨x.i+1,x.r.dp (8+Ln x.i+4),vr,upP x.P x.i q2⟩,⟨(slotfn [ud,ud,ud,ud,s0 4,s0 5,s0 6,ud,ud,.int .i64 (((Ln x.i):Nat):Int),.int .i64 0,.slice ((x.r.tk (8+(Ln x.i))).dp 8).p ((x.r.tk (8+(Ln x.i))).dp 8).n ((x.r.tk (8+(Ln x.i))).dp 8).cp,ud,.slice x.r.p x.r.n x.r.cp,.int .i64 ((x.r.n:Nat):Int),.bool true,.tuple #[.int .i64 (((Ln x.i):Nat):Int),.int .i64 0],PT g t,.slice x.r.p x.r.n x.r.cp,.tuple #[.int .i64 (((Ln x.i):Nat):Int),.int .i64 0],.int .i64 (((Ln x.i):Nat):Int),.int .i64 0,.int .i64 0,.bool false,s0 24,.slice x.r.p x.r.n x.r.cp,.int .i64 ((x.r.n:Nat):Int),.int .i64 (((Ln x.i):Nat):Int),.int .i64 ((8+(Ln x.i)+4:Nat):Int),.bool false,.slice x.r.p x.r.n x.r.cp,.int .i64 (((Ln x.i):Nat):Int),.int .i64 ((8+(Ln x.i):Nat):Int),.slice ((x.r.tk (8+(Ln x.i))).dp 8).p ((x.r.tk (8+(Ln x.i))).dp 8).n ((x.r.tk (8+(Ln x.i))).dp 8).cp,PT g t,.slice ((x.r.tk (8+(Ln x.i))).dp 8).p ((x.r.tk (8+(Ln x.i))).dp 8).n ((x.r.tk (8+(Ln x.i))).dp 8).cp,.slice x.r.p x.r.n x.r.cp,.int .i64 (((Ln x.i):Nat):Int),.int .i64 ((8+(Ln x.i):Nat):Int),.slice (x.r.dp (8+(Ln x.i))).p (x.r.dp (8+(Ln x.i))).n (x.r.dp (8+(Ln x.i))).cp,.bool true,.bool false,x.v,.slice ((x.r.tk (8+(Ln x.i))).dp 8).p ((x.r.tk (8+(Ln x.i))).dp 8).n ((x.r.tk (8+(Ln x.i))).dp 8).cp,.slice q2.p q2.n q2.cp,.slice (some ⟨γs8,0,none⟩) 1 1,vr,.slice x.r.p x.r.n x.r.cp,.int .i64 (((Ln x.i):Nat):Int),.int .i64 ((8+(Ln x.i)+4:Nat):Int),.slice (x.r.dp (8+(Ln x.i)+4)).p (x.r.dp (8+(Ln x.i)+4)).n (x.r.dp (8+(Ln x.i)+4)).cp]),rfl,⟨H10.out.1,H10.out.2⟩,Rk.next hk0 hlg.out hltx hq2n.out hq2f.out⟩,(show M - (x.i+1)<M - x.i by omega)⟩
 have hle:=hk0.ok.1.le
 have hrn:=hk0.n
 have hAl:=hlg.out.at_le hk0.le
 have hMn:=hlg.out.mono M 0 (Nat.zero_add M)
 have hMl:=hlg.out.le
 have hxM:x.i=M:=by have:=hk0.le;omega
 rw[hxM] at hrn hAl
 refine wp_seq (wp_seq ?_)
 refine zD (l:=[0,1,2]) rfl ?_
 refine zA (d:=13) (v:=.slice x.r.p x.r.n x.r.cp) (w':=w2) rfl rfl rfl rfl ?_
 simp only[Act.put,sa,sz,ss]
 refine zA (d:=14) (v:=.int .i64 ((x.r.n:Nat):Int)) (w':=w2) rfl rfl rfl (by go_simp) ?_
 simp only[Act.put,sa,sz,ss]
 refine zA (d:=15) (v:=.bool false) (w':=w2) rfl rfl rfl (by go_simp <;> omega) ?_
 simp only[Act.put,sa,sz,ss]
 refine zC (zB (wp_cond_false rfl ?_))
 refine wp_exit ?_
 repeat refine then_exit ?_
 refine block_exit ?_
 refine zB (wp_seq ?_)
 refine zD (l:=[0,1,2,3,4,5,6,7,8]) rfl ?_
 refine zA (d:=51) (v:=x.v) (w':=w2) rfl rfl rfl rfl ?_
 simp only[Act.put,sa,sz,ss]
 refine zA (d:=52) (v:=.slice q.p q.n q.cp) (w':=w2) rfl rfl rfl rfl ?_
 simp only[Act.put,sa,sz,ss]
 refine zA (d:=53) (v:=.int .i64 ((q.n:Nat):Int)) (w':=w2) rfl rfl rfl (by go_simp) ?_
 simp only[Act.put,sa,sz,ss]
 refine zA (d:=54) (v:=.slice x.r.p x.r.n x.r.cp) (w':=w2) rfl rfl rfl rfl ?_
 simp only[Act.put,sa,sz,ss]
 refine zA (d:=55) (v:=.int .i64 ((x.r.n:Nat):Int)) (w':=w2) rfl rfl rfl (by go_simp) ?_
 simp only[Act.put,sa,sz,ss]
 refine zA (d:=56) (v:=.int .i64 ((A M:Nat):Int)) (w':=w2) rfl rfl rfl (by go_simp;rw[IntKind.wrap_i64];omega) ?_
 simp only[Act.put,sa,sz,ss]
 refine zA (d:=4) (v:=x.v) (w':=w2) rfl rfl rfl rfl ?_
 simp only[Act.put,sa,sz,ss]
 refine zA (d:=5) (v:=.int .i64 ((A M:Nat):Int)) (w':=w2) rfl rfl rfl rfl ?_
 simp only[Act.put,sa,sz,ss]
 refine zA (d:=6) (v:=.int .i64 0) (w':=w2) rfl rfl rfl rfl ?_
 simp only[Act.put,sa,sz,ss]
 refine zC (zB (wp_ret ?_))
 repeat (first | refine zI ?_ | refine zH ?_)
 refine bodyPost_ret (v:=.tuple #[x.v,.int .i64 ((A M:Nat):Int),.int .i64 0]) (by simp[results,Tryz.results148,go_sem, *]) rfl ?_
 exact⟨_,_,rfl,by rw[← hxM];exact H2.out.2,by rw[← hxM];exact hk0.ps⟩
theorem read_torn (g t:Nat) (q:Pt8) (A Ln:Nat→Nat) (M:Nat) (hbq:q.n≤1048576) (L:Nat) (h8:A M+8≤q.n) (hE:q.n<A M+8+L+4) (w:World) (hT0:Tb g t w) (hq0:Pok q∧q.rs w) (hqn0:q.p=none→q.cp=0) (hlg0:Lgk q.f q.n A Ln M) (hhe0:Hdk (sh q.f (A M)) L) :
  Calls Tryz.prog 148 #[PT g t,.slice q.p q.n q.cp] w fun e w'=>∃ v P,e=.returned (.tuple #[v,.int .i64 ((A M:Nat):Int),.int .i64 0])∧Lr w v M P w'∧∀ i,i<M→(P i).n=Ln i∧∀ j,j<Ln i→(P i).f j=q.f (A i+8+j):=by
 have H0:Hid (_∧_):=⟨Mm.nil w,Lr.start (fun _=>q) (Below.refl w.heap.size w)⟩
 have hT:Hid _:=hT0
 have hq:Hid _:=hq0
 clear hT0 hq0
 have hqn:Hid _:=hqn0
 clear hqn0
 have hlg:Hid _:=hlg0
 clear hlg0
 have hhe:Hid _:=hhe0
 clear hhe0
 go_enter Tryz.func148,Tryz.ntmps148
 refine wp_seq ?_
 refine zG (l:=[0,1,2]) rfl (fun u0 hu0 => ?_)
 have H1:Hid (Mm u0 []∧Lr w (.slice none 0 0) 0 (fun _=>q) u0):=by rw[hu0];exact H0
 clear hu0 H0
 refine zA (d:=4) (v:=.slice none 0 0) (w':=u0) rfl rfl rfl rfl ?_
 simp only[Act.put,sa,sz,ss]
 refine zA (d:=5) (v:=.int .i64 0) (w':=u0) rfl rfl rfl rfl ?_
 simp only[Act.put,sa,sz,ss]
 refine zA (d:=6) (v:=.int .i64 0) (w':=u0) rfl rfl rfl rfl ?_
 simp only[Act.put,sa,sz,ss]
 refine zC (zB (wp_seq ?_))
 refine zD (l:=[0]) rfl ?_
 refine zA (d:=7) (v:=.slice none 0 0) (w':=u0) rfl rfl rfl rfl ?_
 simp only[Act.put,sa,sz,ss]
 refine zC (zB (wp_seq ?_))
 refine zD (l:=[0,1]) rfl ?_
 refine zA (d:=12) (v:=.slice q.p q.n q.cp) (w':=u0) rfl rfl rfl rfl ?_
 simp only[Act.put,sa,sz,ss]
 refine zA (d:=8) (v:=.slice q.p q.n q.cp) (w':=u0) rfl rfl rfl rfl ?_
 simp only[Act.put,sa,sz,ss]
 refine zC (zB ?_)
 refine wp_seq (wp_block ?_)
 refine loop_ghost (α:=Gr) (fun x a' w'=>∃ s0:Nat→Value,a'=⟨#[PT g t,.slice q.p q.n q.cp,ud,ud,s0 4,s0 5,s0 6,x.v,.slice x.r.p x.r.n x.r.cp,s0 9,s0 10,s0 11,.slice q.p q.n q.cp,s0 13,s0 14,s0 15,s0 16,s0 17,s0 18,s0 19,s0 20,s0 21,s0 22,s0 23,s0 24,s0 25,s0 26,s0 27,s0 28,s0 29,s0 30,s0 31,s0 32,s0 33,s0 34,s0 35,s0 36,s0 37,s0 38,s0 39,s0 40,s0 41,s0 42,s0 43,s0 44,s0 45,s0 46,s0 47,s0 48,s0 49,s0 50,ud,ud,ud,ud,ud,ud],[]⟩∧(Mm w' []∧Lr w x.v x.i x.P w')∧Rk q A Ln M w x) (fun x=>M - x.i) ⟨0,q,.slice none 0 0,fun _=>q⟩ ?st0 ?rd0
 case st0=>exact⟨(slotfn [ud,ud,ud,ud,.slice none 0 0,.int .i64 0,.int .i64 0,ud,ud,ud,ud,ud,ud,ud,ud,ud,ud,ud,ud,ud,ud,ud,ud,ud,ud,ud,ud,ud,ud,ud,ud,ud,ud,ud,ud,ud,ud,ud,ud,ud,ud,ud,ud,ud,ud,ud,ud,ud,ud,ud,ud]),rfl,⟨H1.out.1,H1.out.2⟩,⟨Nat.zero_le _,hq.out,hqn.out,by show q.n+A 0=q.n;rw[hlg.out.z,Nat.add_zero],by show q.f=sh q.f (A 0);rw[hlg.out.z];funext j;show q.f j=q.f (0+j);rw[Nat.zero_add],fun i hi=>absurd hi (Nat.not_lt_zero _)⟩⟩
 intro x a' w2 hI
 obtain⟨s0,rfl,hMB,hk0⟩:=hI
 have H2:Hid (_∧_):=hMB
 clear hMB H1
 by_cases hltx:x.i<M
 ·have hrd:True:=trivial
  clear hrd
  have hle:=hk0.ok.1.le
  have hrn:=hk0.n
  have hAl:=hlg.out.at_le hk0.le
  have hMn:=hlg.out.mono M 0 (Nat.zero_add M)
  have hMl:=hlg.out.le
  have hnx:=hlg.out.nx_le hltx
  have hhd:Hdk x.r.f (Ln x.i):=by rw[hk0.f];exact hlg.out.hd x.i hltx
  have hbd:Bdk x.r.f (Ln x.i):=by rw[hk0.f];exact hlg.out.bd x.i hltx
  have hL6:=hhd.le
  refine wp_seq (wp_seq ?_)
  refine zD (l:=[0,1,2]) rfl ?_
  refine zA (d:=13) (v:=.slice x.r.p x.r.n x.r.cp) (w':=w2) rfl rfl rfl rfl ?_
  simp only[Act.put,sa,sz,ss]
  refine zA (d:=14) (v:=.int .i64 ((x.r.n:Nat):Int)) (w':=w2) rfl rfl rfl (by go_simp) ?_
  simp only[Act.put,sa,sz,ss]
  refine zA (d:=15) (v:=.bool true) (w':=w2) rfl rfl rfl (by go_simp <;> omega) ?_
  simp only[Act.put,sa,sz,ss]
  refine zC (zB ?_)
  refine wp_cond_true rfl (wp_skip ?_)
  refine zB (wp_block (wp_seq ?_))
  refine zD (l:=[0,1,2,3,4,5,6,7]) rfl ?_
  refine zA (d:=17) (v:=PT g t) (w':=w2) rfl rfl rfl rfl ?_
  simp only[Act.put,sa,sz,ss]
  refine zA (d:=18) (v:=.slice x.r.p x.r.n x.r.cp) (w':=w2) rfl rfl rfl rfl ?_
  simp only[Act.put,sa,sz,ss]
  refine zE (d:=19) (R:=fun vv w'=>vv=.tuple #[.int .i64 (((Ln x.i):Nat):Int),.int .i64 0]∧Below w2.heap.size w2 w') rfl rfl rfl (zF (args:=#[PT g t,.slice x.r.p x.r.n x.r.cp]) rfl call167 rfl (mpn rfl)) (Calls.mono (length_hd g t x.r (Ln x.i) (by omega) hhd w2 (hT.out.below H2.out.2.b) ⟨hk0.ok.1,hk0.ok.2.below H2.out.2.b⟩) (fun e w2 hh=>⟨_,hh.1,rfl,hh.2⟩)) ?_
  rintro _ w3 ⟨rfl,hb⟩
  have H3:Hid (Mm w3 []∧Lr w x.v x.i x.P w3):=⟨H2.out.1.below hb,Lr.step H2.out.2 (hb)⟩
  clear hb
  clear H2
  simp only[Act.put,sa,sz,ss]
  refine zA (d:=16) (v:=.tuple #[.int .i64 (((Ln x.i):Nat):Int),.int .i64 0]) (w':=w3) rfl rfl rfl rfl ?_
  simp only[Act.put,sa,sz,ss]
  refine zA (d:=20) (v:=.int .i64 (((Ln x.i):Nat):Int)) (w':=w3) rfl rfl rfl (by go_simp) ?_
  simp only[Act.put,sa,sz,ss]
  refine zA (d:=21) (v:=.int .i64 0) (w':=w3) rfl rfl rfl (by go_simp) ?_
  simp only[Act.put,sa,sz,ss]
  refine zA (d:=9) (v:=.int .i64 (((Ln x.i):Nat):Int)) (w':=w3) rfl rfl rfl rfl ?_
  simp only[Act.put,sa,sz,ss]
  refine zA (d:=10) (v:=.int .i64 0) (w':=w3) rfl rfl rfl rfl ?_
  simp only[Act.put,sa,sz,ss]
  refine zC (zB ?_)
  refine wp_seq (wp_seq ?_)
  refine zD (l:=[0,1]) rfl ?_
  refine zA (d:=22) (v:=.int .i64 0) (w':=w3) rfl rfl rfl rfl ?_
  simp only[Act.put,sa,sz,ss]
  refine zA (d:=23) (v:=.bool false) (w':=w3) rfl rfl rfl (by kernel_rfl) ?_
  simp only[Act.put,sa,sz,ss]
  refine zC (zB ?_)
  refine wp_cond_false rfl (wp_skip ?_)
  refine zB (wp_seq (wp_seq ?_))
  refine zD (l:=[0,1,2,3,4]) rfl ?_
  refine zA (d:=25) (v:=.slice x.r.p x.r.n x.r.cp) (w':=w3) rfl rfl rfl rfl ?_
  simp only[Act.put,sa,sz,ss]
  refine zA (d:=26) (v:=.int .i64 ((x.r.n:Nat):Int)) (w':=w3) rfl rfl rfl (by go_simp) ?_
  simp only[Act.put,sa,sz,ss]
  refine zA (d:=27) (v:=.int .i64 (((Ln x.i):Nat):Int)) (w':=w3) rfl rfl rfl rfl ?_
  simp only[Act.put,sa,sz,ss]
  refine zE (d:=28) (R:=fun vv w'=>vv=.int .i64 ((8+(Ln x.i)+4:Nat):Int)∧Below w3.heap.size w3 w') rfl rfl rfl (zF (args:=#[.int .i64 (((Ln x.i):Nat):Int)]) rfl call143 rfl (mpn rfl)) (Calls.mono (framed_any (Ln x.i) (by omega) w3) (fun e w2 hh=>⟨_,hh.1,rfl,hh.2⟩)) ?_
  rintro _ w4 ⟨rfl,hb⟩
  have H4:Hid (Mm w4 []∧Lr w x.v x.i x.P w4):=⟨H3.out.1.below hb,Lr.step H3.out.2 (hb)⟩
  clear hb
  clear H3
  simp only[Act.put,sa,sz,ss]
  refine zA (d:=29) (v:=.bool false) (w':=w4) rfl rfl rfl (by go_simp <;> omega) ?_
  simp only[Act.put,sa,sz,ss]
  refine zC (zB ?_)
  refine wp_cond_false rfl (wp_skip ?_)
  refine zB (wp_seq ?_)
  refine zD (l:=[0,1,2,3,4]) rfl ?_
  refine zA (d:=30) (v:=.slice x.r.p x.r.n x.r.cp) (w':=w4) rfl rfl rfl rfl ?_
  simp only[Act.put,sa,sz,ss]
  refine zA (d:=31) (v:=.int .i64 (((Ln x.i):Nat):Int)) (w':=w4) rfl rfl rfl rfl ?_
  simp only[Act.put,sa,sz,ss]
  refine zA (d:=32) (v:=.int .i64 ((8+(Ln x.i):Nat):Int)) (w':=w4) rfl rfl rfl (by go_simp;rw[IntKind.wrap_i64];omega) ?_
  simp only[Act.put,sa,sz,ss]
  refine zA (d:=33) (v:=.slice ((x.r.tk (8+(Ln x.i))).dp 8).p ((x.r.tk (8+(Ln x.i))).dp 8).n ((x.r.tk (8+(Ln x.i))).dp 8).cp) (w':=w4) rfl rfl rfl (ex_mdQ (q:=x.r) (k:=8) (m:=8+(Ln x.i)) (by omega) (by omega) rfl rfl rfl rfl) ?_
  simp only[Act.put,sa,sz,ss]
  refine zA (d:=11) (v:=.slice ((x.r.tk (8+(Ln x.i))).dp 8).p ((x.r.tk (8+(Ln x.i))).dp 8).n ((x.r.tk (8+(Ln x.i))).dp 8).cp) (w':=w4) rfl rfl rfl rfl ?_
  simp only[Act.put,sa,sz,ss]
  refine zC (zB ?_)
  refine wp_seq (wp_seq ?_)
  refine zD (l:=[0,1,2,3,4,5,6,7]) rfl ?_
  refine zA (d:=34) (v:=PT g t) (w':=w4) rfl rfl rfl rfl ?_
  simp only[Act.put,sa,sz,ss]
  refine zA (d:=35) (v:=.slice ((x.r.tk (8+(Ln x.i))).dp 8).p ((x.r.tk (8+(Ln x.i))).dp 8).n ((x.r.tk (8+(Ln x.i))).dp 8).cp) (w':=w4) rfl rfl rfl rfl ?_
  simp only[Act.put,sa,sz,ss]
  refine zA (d:=36) (v:=.slice x.r.p x.r.n x.r.cp) (w':=w4) rfl rfl rfl rfl ?_
  simp only[Act.put,sa,sz,ss]
  refine zA (d:=37) (v:=.int .i64 (((Ln x.i):Nat):Int)) (w':=w4) rfl rfl rfl rfl ?_
  simp only[Act.put,sa,sz,ss]
  refine zA (d:=38) (v:=.int .i64 ((8+(Ln x.i):Nat):Int)) (w':=w4) rfl rfl rfl (by go_simp;rw[IntKind.wrap_i64];omega) ?_
  simp only[Act.put,sa,sz,ss]
  refine zA (d:=39) (v:=.slice (x.r.dp (8+(Ln x.i))).p (x.r.dp (8+(Ln x.i))).n (x.r.dp (8+(Ln x.i))).cp) (w':=w4) rfl rfl rfl (ex_dpQ (q:=x.r) (k:=8+(Ln x.i)) (by omega) rfl rfl rfl) ?_
  simp only[Act.put,sa,sz,ss]
  refine zE (d:=40) (R:=fun vv w'=>vv=.bool true∧Below w4.heap.size w4 w') rfl rfl rfl (zF (args:=#[PT g t,.slice ((x.r.tk (8+(Ln x.i))).dp 8).p ((x.r.tk (8+(Ln x.i))).dp 8).n ((x.r.tk (8+(Ln x.i))).dp 8).cp,.slice (x.r.dp (8+(Ln x.i))).p (x.r.dp (8+(Ln x.i))).n (x.r.dp (8+(Ln x.i))).cp]) rfl call168 rfl (mpn rfl)) (Calls.mono (holds_bd g t x.r (Ln x.i) (by omega) (by omega) true (decide_eq_true hbd) w4 (hT.out.below H4.out.2.b) ⟨hk0.ok.1,hk0.ok.2.below H4.out.2.b⟩) (fun e w2 hh=>⟨_,hh.1,rfl,hh.2⟩)) ?_
  rintro _ w5 ⟨rfl,hb⟩
  have H5:Hid (Mm w5 []∧Lr w x.v x.i x.P w5):=⟨H4.out.1.below hb,Lr.step H4.out.2 (hb)⟩
  clear hb
  clear H4
  simp only[Act.put,sa,sz,ss]
  refine zA (d:=41) (v:=.bool false) (w':=w5) rfl rfl rfl (by go_simp) ?_
  simp only[Act.put,sa,sz,ss]
  refine zC (zB ?_)
  refine wp_cond_false rfl (wp_skip ?_)
  refine zB (wp_seq ?_)
  refine zD (l:=[0,1,2,3,4,5]) rfl ?_
  refine zA (d:=42) (v:=x.v) (w':=w5) rfl rfl rfl rfl ?_
  simp only[Act.put,sa,sz,ss]
  refine zA (d:=43) (v:=.slice ((x.r.tk (8+(Ln x.i))).dp 8).p ((x.r.tk (8+(Ln x.i))).dp 8).n ((x.r.tk (8+(Ln x.i))).dp 8).cp) (w':=w5) rfl rfl rfl rfl ?_
  simp only[Act.put,sa,sz,ss]
  refine zE (d:=44) (R:=fun vv w'=>Cw w5 vv ((x.r.tk (8+(Ln x.i))).dp 8).n ((x.r.tk (8+(Ln x.i))).dp 8).f w') rfl rfl rfl (zF (args:=#[.slice ((x.r.tk (8+(Ln x.i))).dp 8).p ((x.r.tk (8+(Ln x.i))).dp 8).n ((x.r.tk (8+(Ln x.i))).dp 8).cp]) rfl call43 rfl (mpn rfl)) (Calls.mono (bclone_any ((x.r.tk (8+(Ln x.i))).dp 8) (by show 8+(Ln x.i) - 8≤_;omega) w5 ((hk0.ok.1.tk (by omega)).dp (by show 8≤8+(Ln x.i);omega)) (Pt8.dp_no (Pt8.tk_no hk0.no _) _) (Pt8.rs_dp (Pt8.rs_tk (hk0.ok.2.below H5.out.2.b) (by omega)) (by show 8≤8+(Ln x.i);omega))) (fun e w2 hh=>by obtain⟨v',he,hO⟩:=hh;exact⟨_,he,hO⟩)) ?_
  rintro vc w6 hO
  obtain⟨q2,rfl,e2,e3,e4,e5,e6,e7⟩:=hO.part
  have hq2:Hid (Pok q2∧(q2.p=none→q2.cp=0)∧(0<q2.n→w.heap.size≤q2.gb∧q2.gb∉vbl x.v)):=⟨e2,e3,fun h0=>⟨Nat.le_trans H5.out.2.b.size (e7 h0),fun hx=>absurd (own_lt H5.out.2.own _ hx) (Nat.not_lt.2 (e7 h0))⟩⟩
  have hq2n:Hid (q2.n=((x.r.tk (8+(Ln x.i))).dp 8).n):=e4
  have hq2f:Hid (q2.f=((x.r.tk (8+(Ln x.i))).dp 8).f):=e5
  have H6:Hid (Mm w6 []∧Lr w x.v x.i x.P w6∧q2.rs w6):=⟨Mm.nil _,H5.out.2.step hO.b,e6⟩
  clear hO e2 e3 e4 e5 e6 e7 H5
  have hq2z:Hid _:=H6.out.2.2
  have H7:Hid (Mm w6 []∧Lr w x.v x.i x.P w6):=⟨Mm.nil _,H6.out.2.1⟩
  clear H6
  simp only[Act.put,sa,sz,ss]
  have hq2r:Hid (q2.rs (w6.alloc (.cells ([Value.slice q2.p q2.n q2.cp]:List Value).toArray 40))):=hq2z.out.below ((Below.refl _ _).alloc (Nat.le_refl _) _)
  refine zA (d:=45) (v:=.slice (some ⟨w6.heap.size,0,none⟩) 1 1) (w':=(w6.alloc (.cells ([Value.slice q2.p q2.n q2.cp]:List Value).toArray 40))) rfl rfl rfl (ex_bs131_1 rfl rfl) ?_
  simp only[Act.put,sa,sz,ss]
  have o_γs8:Hid (w.heap.size≤w6.heap.size):=H7.out.2.b.size
  have H8:Hid (Mm (w6.alloc (.cells ([Value.slice q2.p q2.n q2.cp]:List Value).toArray 40)) ((w6.heap.size,[Value.slice q2.p q2.n q2.cp]) :: [])∧Lr w x.v x.i x.P (w6.alloc (.cells ([Value.slice q2.p q2.n q2.cp]:List Value).toArray 40))):=⟨H7.out.1.alloc _ 40 rfl,Lr.step H7.out.2 (((Below.refl _ _).alloc (Nat.le_refl _) _))⟩
  clear H7
  generalize hgw:w6.alloc (.cells ([Value.slice q2.p q2.n q2.cp]:List Value).toArray 40)=w8 at hq2r H8 ⊢
  clear hgw
  generalize w6.heap.size=γs8 at o_γs8 H8 ⊢
  obtain⟨vr,w9,hr,hO⟩:=H8.out.2.app (by omega) (q:=q2) ⟨hq2.out.1,hq2.out.2.1,hq2r.out,hq2.out.2.2⟩ (H8.out.1.get 0 rfl 0 rfl) 131
  refine zA (d:=46) (v:=vr) (w':=w9) rfl rfl rfl (ex_appL rfl rfl rfl hr) ?_
  simp only[Act.put,sa,sz,ss]
  have H9:Hid (Mm w9 []∧Lr w vr (x.i+1) (upP x.P x.i q2) w9):=⟨Mm.nil _,hO⟩
  clear hr hO H8
  refine zA (d:=7) (v:=vr) (w':=w9) rfl rfl rfl rfl ?_
  simp only[Act.put,sa,sz,ss]
  refine zC (zB ?_)
  refine zD (l:=[0,1,2,3,4]) rfl ?_
  refine zA (d:=47) (v:=.slice x.r.p x.r.n x.r.cp) (w':=w9) rfl rfl rfl rfl ?_
  simp only[Act.put,sa,sz,ss]
  refine zA (d:=48) (v:=.int .i64 (((Ln x.i):Nat):Int)) (w':=w9) rfl rfl rfl rfl ?_
  simp only[Act.put,sa,sz,ss]
  refine zE (d:=49) (R:=fun vv w'=>vv=.int .i64 ((8+(Ln x.i)+4:Nat):Int)∧Below w9.heap.size w9 w') rfl rfl rfl (zF (args:=#[.int .i64 (((Ln x.i):Nat):Int)]) rfl call143 rfl (mpn rfl)) (Calls.mono (framed_any (Ln x.i) (by omega) w9) (fun e w2 hh=>⟨_,hh.1,rfl,hh.2⟩)) ?_
  rintro _ w10 ⟨rfl,hb⟩
  have H10:Hid (Mm w10 []∧Lr w vr (x.i+1) (upP x.P x.i q2) w10):=⟨H9.out.1.below hb,Lr.step H9.out.2 (hb)⟩
  clear hb
  clear H9
  simp only[Act.put,sa,sz,ss]
  refine zA (d:=50) (v:=.slice (x.r.dp (8+(Ln x.i)+4)).p (x.r.dp (8+(Ln x.i)+4)).n (x.r.dp (8+(Ln x.i)+4)).cp) (w':=w10) rfl rfl rfl (ex_dpQ (q:=x.r) (k:=8+(Ln x.i)+4) (by omega) rfl rfl rfl) ?_
  simp only[Act.put,sa,sz,ss]
  refine zA (d:=8) (v:=.slice (x.r.dp (8+(Ln x.i)+4)).p (x.r.dp (8+(Ln x.i)+4)).n (x.r.dp (8+(Ln x.i)+4)).cp) (w':=w10) rfl rfl rfl rfl ?_
  simp only[Act.put,sa,sz,ss]
  refine zC (block_normal (zB ?_))
  exact⟨⟨x.i+1,x.r.dp (8+Ln x.i+4),vr,upP x.P x.i q2⟩,⟨(slotfn [ud,ud,ud,ud,s0 4,s0 5,s0 6,ud,ud,.int .i64 (((Ln x.i):Nat):Int),.int .i64 0,.slice ((x.r.tk (8+(Ln x.i))).dp 8).p ((x.r.tk (8+(Ln x.i))).dp 8).n ((x.r.tk (8+(Ln x.i))).dp 8).cp,ud,.slice x.r.p x.r.n x.r.cp,.int .i64 ((x.r.n:Nat):Int),.bool true,.tuple #[.int .i64 (((Ln x.i):Nat):Int),.int .i64 0],PT g t,.slice x.r.p x.r.n x.r.cp,.tuple #[.int .i64 (((Ln x.i):Nat):Int),.int .i64 0],.int .i64 (((Ln x.i):Nat):Int),.int .i64 0,.int .i64 0,.bool false,s0 24,.slice x.r.p x.r.n x.r.cp,.int .i64 ((x.r.n:Nat):Int),.int .i64 (((Ln x.i):Nat):Int),.int .i64 ((8+(Ln x.i)+4:Nat):Int),.bool false,.slice x.r.p x.r.n x.r.cp,.int .i64 (((Ln x.i):Nat):Int),.int .i64 ((8+(Ln x.i):Nat):Int),.slice ((x.r.tk (8+(Ln x.i))).dp 8).p ((x.r.tk (8+(Ln x.i))).dp 8).n ((x.r.tk (8+(Ln x.i))).dp 8).cp,PT g t,.slice ((x.r.tk (8+(Ln x.i))).dp 8).p ((x.r.tk (8+(Ln x.i))).dp 8).n ((x.r.tk (8+(Ln x.i))).dp 8).cp,.slice x.r.p x.r.n x.r.cp,.int .i64 (((Ln x.i):Nat):Int),.int .i64 ((8+(Ln x.i):Nat):Int),.slice (x.r.dp (8+(Ln x.i))).p (x.r.dp (8+(Ln x.i))).n (x.r.dp (8+(Ln x.i))).cp,.bool true,.bool false,x.v,.slice ((x.r.tk (8+(Ln x.i))).dp 8).p ((x.r.tk (8+(Ln x.i))).dp 8).n ((x.r.tk (8+(Ln x.i))).dp 8).cp,.slice q2.p q2.n q2.cp,.slice (some ⟨γs8,0,none⟩) 1 1,vr,.slice x.r.p x.r.n x.r.cp,.int .i64 (((Ln x.i):Nat):Int),.int .i64 ((8+(Ln x.i)+4:Nat):Int),.slice (x.r.dp (8+(Ln x.i)+4)).p (x.r.dp (8+(Ln x.i)+4)).n (x.r.dp (8+(Ln x.i)+4)).cp]),rfl,⟨H10.out.1,H10.out.2⟩,Rk.next hk0 hlg.out hltx hq2n.out hq2f.out⟩,(show M - (x.i+1)<M - x.i by omega)⟩
 have hle:=hk0.ok.1.le
 have hrn:=hk0.n
 have hAl:=hlg.out.at_le hk0.le
 have hMn:=hlg.out.mono M 0 (Nat.zero_add M)
 have hMl:=hlg.out.le
 have hxM:x.i=M:=by have:=hk0.le;omega
 rw[hxM] at hrn hAl
 have hfx:x.r.f=sh q.f (A M):=by rw[hk0.f,hxM]
 have hhd:Hdk x.r.f L:=by rw[hfx];exact hhe.out
 have hL6:=hhd.le
 refine wp_seq (wp_seq ?_)
 refine zD (l:=[0,1,2]) rfl ?_
 refine zA (d:=13) (v:=.slice x.r.p x.r.n x.r.cp) (w':=w2) rfl rfl rfl rfl ?_
 simp only[Act.put,sa,sz,ss]
 refine zA (d:=14) (v:=.int .i64 ((x.r.n:Nat):Int)) (w':=w2) rfl rfl rfl (by go_simp) ?_
 simp only[Act.put,sa,sz,ss]
 refine zA (d:=15) (v:=.bool true) (w':=w2) rfl rfl rfl (by go_simp <;> omega) ?_
 simp only[Act.put,sa,sz,ss]
 refine zC (zB ?_)
 refine wp_cond_true rfl (wp_skip ?_)
 refine zB (wp_block (wp_seq ?_))
 refine zD (l:=[0,1,2,3,4,5,6,7]) rfl ?_
 refine zA (d:=17) (v:=PT g t) (w':=w2) rfl rfl rfl rfl ?_
 simp only[Act.put,sa,sz,ss]
 refine zA (d:=18) (v:=.slice x.r.p x.r.n x.r.cp) (w':=w2) rfl rfl rfl rfl ?_
 simp only[Act.put,sa,sz,ss]
 refine zE (d:=19) (R:=fun vv w'=>vv=.tuple #[.int .i64 ((L:Nat):Int),.int .i64 0]∧Below w2.heap.size w2 w') rfl rfl rfl (zF (args:=#[PT g t,.slice x.r.p x.r.n x.r.cp]) rfl call167 rfl (mpn rfl)) (Calls.mono (length_hd g t x.r L (by omega) hhd w2 (hT.out.below H2.out.2.b) ⟨hk0.ok.1,hk0.ok.2.below H2.out.2.b⟩) (fun e w2 hh=>⟨_,hh.1,rfl,hh.2⟩)) ?_
 rintro _ w11 ⟨rfl,hb⟩
 have H11:Hid (Mm w11 []∧Lr w x.v x.i x.P w11):=⟨H2.out.1.below hb,Lr.step H2.out.2 (hb)⟩
 clear hb
 clear H2
 simp only[Act.put,sa,sz,ss]
 refine zA (d:=16) (v:=.tuple #[.int .i64 ((L:Nat):Int),.int .i64 0]) (w':=w11) rfl rfl rfl rfl ?_
 simp only[Act.put,sa,sz,ss]
 refine zA (d:=20) (v:=.int .i64 ((L:Nat):Int)) (w':=w11) rfl rfl rfl (by go_simp) ?_
 simp only[Act.put,sa,sz,ss]
 refine zA (d:=21) (v:=.int .i64 0) (w':=w11) rfl rfl rfl (by go_simp) ?_
 simp only[Act.put,sa,sz,ss]
 refine zA (d:=9) (v:=.int .i64 ((L:Nat):Int)) (w':=w11) rfl rfl rfl rfl ?_
 simp only[Act.put,sa,sz,ss]
 refine zA (d:=10) (v:=.int .i64 0) (w':=w11) rfl rfl rfl rfl ?_
 simp only[Act.put,sa,sz,ss]
 refine zC (zB ?_)
 refine wp_seq (wp_seq ?_)
 refine zD (l:=[0,1]) rfl ?_
 refine zA (d:=22) (v:=.int .i64 0) (w':=w11) rfl rfl rfl rfl ?_
 simp only[Act.put,sa,sz,ss]
 refine zA (d:=23) (v:=.bool false) (w':=w11) rfl rfl rfl (by kernel_rfl) ?_
 simp only[Act.put,sa,sz,ss]
 refine zC (zB ?_)
 refine wp_cond_false rfl (wp_skip ?_)
 refine zB (wp_seq (wp_seq ?_))
 refine zD (l:=[0,1,2,3,4]) rfl ?_
 refine zA (d:=25) (v:=.slice x.r.p x.r.n x.r.cp) (w':=w11) rfl rfl rfl rfl ?_
 simp only[Act.put,sa,sz,ss]
 refine zA (d:=26) (v:=.int .i64 ((x.r.n:Nat):Int)) (w':=w11) rfl rfl rfl (by go_simp) ?_
 simp only[Act.put,sa,sz,ss]
 refine zA (d:=27) (v:=.int .i64 ((L:Nat):Int)) (w':=w11) rfl rfl rfl rfl ?_
 simp only[Act.put,sa,sz,ss]
 refine zE (d:=28) (R:=fun vv w'=>vv=.int .i64 ((8+L+4:Nat):Int)∧Below w11.heap.size w11 w') rfl rfl rfl (zF (args:=#[.int .i64 ((L:Nat):Int)]) rfl call143 rfl (mpn rfl)) (Calls.mono (framed_any L (by omega) w11) (fun e w2 hh=>⟨_,hh.1,rfl,hh.2⟩)) ?_
 rintro _ w12 ⟨rfl,hb⟩
 have H12:Hid (Mm w12 []∧Lr w x.v x.i x.P w12):=⟨H11.out.1.below hb,Lr.step H11.out.2 (hb)⟩
 clear hb
 clear H11
 simp only[Act.put,sa,sz,ss]
 refine zA (d:=29) (v:=.bool true) (w':=w12) rfl rfl rfl (by go_simp <;> omega) ?_
 simp only[Act.put,sa,sz,ss]
 refine zC (zB (wp_cond_true rfl ?_))
 refine wp_exit ?_
 repeat refine then_exit ?_
 refine block_past (by decide) ?_
 repeat refine then_exit ?_
 refine block_exit ?_
 refine zB (wp_seq ?_)
 refine zD (l:=[0,1,2,3,4,5,6,7,8]) rfl ?_
 refine zA (d:=51) (v:=x.v) (w':=w12) rfl rfl rfl rfl ?_
 simp only[Act.put,sa,sz,ss]
 refine zA (d:=52) (v:=.slice q.p q.n q.cp) (w':=w12) rfl rfl rfl rfl ?_
 simp only[Act.put,sa,sz,ss]
 refine zA (d:=53) (v:=.int .i64 ((q.n:Nat):Int)) (w':=w12) rfl rfl rfl (by go_simp) ?_
 simp only[Act.put,sa,sz,ss]
 refine zA (d:=54) (v:=.slice x.r.p x.r.n x.r.cp) (w':=w12) rfl rfl rfl rfl ?_
 simp only[Act.put,sa,sz,ss]
 refine zA (d:=55) (v:=.int .i64 ((x.r.n:Nat):Int)) (w':=w12) rfl rfl rfl (by go_simp) ?_
 simp only[Act.put,sa,sz,ss]
 refine zA (d:=56) (v:=.int .i64 ((A M:Nat):Int)) (w':=w12) rfl rfl rfl (by go_simp;rw[IntKind.wrap_i64];omega) ?_
 simp only[Act.put,sa,sz,ss]
 refine zA (d:=4) (v:=x.v) (w':=w12) rfl rfl rfl rfl ?_
 simp only[Act.put,sa,sz,ss]
 refine zA (d:=5) (v:=.int .i64 ((A M:Nat):Int)) (w':=w12) rfl rfl rfl rfl ?_
 simp only[Act.put,sa,sz,ss]
 refine zA (d:=6) (v:=.int .i64 0) (w':=w12) rfl rfl rfl rfl ?_
 simp only[Act.put,sa,sz,ss]
 refine zC (zB (wp_ret ?_))
 repeat (first | refine zI ?_ | refine zH ?_)
 refine bodyPost_ret (v:=.tuple #[x.v,.int .i64 ((A M:Nat):Int),.int .i64 0]) (by simp[results,Tryz.results148,go_sem, *]) rfl ?_
 exact⟨_,_,rfl,by rw[← hxM];exact H12.out.2,by rw[← hxM];exact hk0.ps⟩
end Wi
end Rg
end Go.Proofs.YtmcpagjhpfbpgaaGreatDoor
end
