/- Steps of the proof: FolSpec, CnfMem. -/
import Derived.Test.YthaaaecmeafofaaGreatDoorRb11
set_option maxHeartbeats 16000000
set_option maxRecDepth 100000
namespace Go.Proofs.YthaaaecmeafofaaGreatDoor.Cn
theorem zD (K:List Int) (x:Int):kn K (-x)=kn K x:=by simp [kn,Int.natAbs_neg]
def Ext (K K':List Int):Prop:= ∀ x,kn K x≠0->kn K' x=kn K x
theorem Ext.refl (K:List Int):Ext K K:=fun _ _=>rfl
theorem Ext.trans {K K1 K2:List Int} (h:Ext K K1) (k:Ext K1 K2):Ext K K2:=fun x hx=>(k x (by rw [h x hx];exact hx)).trans (h x hx)
theorem Ext.pos {K K':List Int} (h:Ext K K') {x:Int} (hx:x≠0) (e:kn K x=x):kn K' x=x:=(h x (by rw [e];exact hx)).trans e
theorem Ext.neg {K K':List Int} (h:Ext K K') {x:Int} (hx:x≠0) (e:kn K x = -x):kn K' x = -x:=(h x (by rw [e];omega)).trans e
structure Tb (n:Nat) (K:List Int):Prop where
 len:K.length=n+1
 own : ∀ i<K.length,K.getD i 0=0∨(K.getD i 0).natAbs=i
theorem Tb.cases {n:Nat} {K:List Int} (h:Tb n K) (x:Int):kn K x=0∨kn K x=x∨kn K x = -x:=by
 rcases Nat.lt_or_ge x.natAbs K.length with h2 | h2
 ·rcases h.own _ h2 with h3 | h3
  ·exact .inl h3
  ·have h4:(kn K x).natAbs=x.natAbs:=h3
   rcases Int.natAbs_eq_natAbs_iff.1 h4 with h5 | h5
   ·exact .inr (.inl h5)
   ·exact .inr (.inr h5)
 ·left;simp [kn,List.getD_eq_getElem?_getD,List.getElem?_eq_none h2]
theorem aQx (n:Nat):Tb n (List.replicate (n+1) 0):=by
 refine ⟨by simp,fun i _=> .inl ?_⟩
 simp [List.getD_eq_getElem?_getD,List.getElem?_replicate];split<;>simp
theorem aQd (m:Nat) (x:Int):kn (List.replicate m 0) x=0:=by
 simp [kn,List.getD_eq_getElem?_getD,List.getElem?_replicate];split<;>simp
def tkK (K:List Int) (x:Int):List Int:=if kn K x=0 then K.set x.natAbs x else K
def tkL (K L:List Int) (x:Int):List Int:=if kn K x=0 then L ++ [x] else L
theorem aAd {n:Nat} {K:List Int} (h:Tb n K) {x:Int} (hx:Lit n x) (y:Int):kn (tkK K x) y=if kn K x=0/\y.natAbs=x.natAbs then x else kn K y:=by
 have hxK:x.natAbs<K.length:=by have:=h.len;have:=hx.2;omega
 unfold tkK
 by_cases h0:kn K x=0
 ·rw [if_pos h0,aNa hxK]
  by_cases e:y.natAbs=x.natAbs<;>simp [e,h0]
 ·rw [if_neg h0];simp [h0]
theorem qX {n:Nat} {K:List Int} (h:Tb n K) {x:Int} (hx:Lit n x):Ext K (tkK K x):=by
 intro y hy
 rw [aAd h hx]
 by_cases e:kn K x=0/\y.natAbs=x.natAbs
 ·have:kn K y=kn K x:=by simp [kn,e.2]
  rw [this,e.1] at hy;exact absurd rfl hy
 ·rw [if_neg e]
theorem aDv {n:Nat} {K:List Int} (h:Tb n K) {x:Int} (hx:Lit n x):kn (tkK K x) x=x∨(kn K x = -x/\kn (tkK K x) x = -x):=by
 rw [aAd h hx]
 rcases h.cases x with e | e | e
 ·left;simp [e]
 ·left;have:=hx.1;rw [if_neg (by rw [e];simp [this])];exact e
 ·right;have:=hx.1;rw [if_neg (by rw [e];omega)];exact ⟨e,e⟩
theorem aSt {n:Nat} {K:List Int} (h:Tb n K) {x:Int} (hx:Lit n x):Tb n (tkK K x):=by
 have hxK:x.natAbs<K.length:=by have:=h.len;have:=hx.2;omega
 unfold tkK
 by_cases h0:kn K x=0
 ·rw [if_pos h0]
  refine ⟨by simp [h.len],fun i hi=> ?_⟩
  rw [List.length_set] at hi
  by_cases e:x.natAbs=i
  ·right;subst e;simp [List.getD_eq_getElem?_getD,hxK]
  ·have:=h.own i hi
   simpa [List.getD_eq_getElem?_getD,List.getElem?_set,e] using this
 ·rw [if_neg h0];exact h
structure SK (n:Nat) (F:List (List Int)) (A K0 K L:List Int):Prop where
 tb:Tb n K
 der : ∀ x,x≠0->kn K x=x->Der F A x
 ext:Ext K0 K
 fd : ∀ x∈L,Lit n x/\kn K x=x
 cnt:L.length+K.count 0<=n+1
theorem SK.le {n:Nat} {F:List (List Int)} {A K0 K L:List Int} (h:SK n F A K0 K L):L.length<=n+1:=by have:=h.cnt;omega
theorem SK.derN {n:Nat} {F:List (List Int)} {A K0 K L:List Int} (h:SK n F A K0 K L) {y:Int} (hy:y≠0) (e:kn K y = -y):Der F A (-y):=h.der (-y) (by omega) (by rw [zD];exact e)
theorem SK.take {n:Nat} {F:List (List Int)} {A K0 K L:List Int} (h:SK n F A K0 K L) {x:Int} (hx:Lit n x) (hd:Der F A x) :
  SK n F A K0 (tkK K x) (tkL K L x)/\(kn (tkK K x) x≠x->bJ F A):=by
 have hxK:x.natAbs<K.length:=by have:=h.tb.len;have:=hx.2;omega
 have hE:=qX h.tb hx
 refine ⟨⟨aSt h.tb hx,fun y hy e=> ?_,h.ext.trans hE,fun y hy=> ?_,?_⟩,fun hne=> ?_⟩
 ·rw [aAd h.tb hx] at e
  split at e
  ·rw [← e];exact hd
  ·exact h.der y hy e
 ·unfold tkL at hy
  split at hy
  ·rename_i h0
   rcases List.mem_append.1 hy with hy | hy
   ·exact ⟨(h.fd y hy).1,hE.pos (h.fd y hy).1.1 (h.fd y hy).2⟩
   ·rw [List.mem_singleton.1 hy]
    exact ⟨hx,(aDv h.tb hx).resolve_right (fun e=>by have:=hx.1;have:=e.1;omega)⟩
  ·exact ⟨(h.fd y hy).1,hE.pos (h.fd y hy).1.1 (h.fd y hy).2⟩
 ·unfold tkK tkL
  have:=h.cnt
  split
  ·rename_i h0
   have h4:K[x.natAbs]=0:=by simpa [kn,List.getD_eq_getElem?_getD,hxK] using h0
   have h5:=List.count_set (a:=x) (b:=(0:Int)) hxK
   have h6:0<K.count 0:=List.count_pos_iff.2 (h4 ▸ List.getElem_mem hxK)
   rw [h5,List.length_append,List.length_singleton]
   simp only [h4,beq_self_eq_true,if_true]
   have h7:(x==(0:Int))=false:=by simpa using hx.1
   rw [h7];simp;omega
  ·exact this
 ·have e:=(aDv h.tb hx).resolve_left hne
  exact .inl ⟨x,hd,h.derN hx.1 e.1⟩
def w0 (c:List Int):Int:=c.getD 0 0
def w1 (c:List Int):Int:=c.getD 1 0
structure Two (n:Nat) (c:List Int):Prop where
 len:2<=c.length
 lits:aL n c
 nodup:c.Nodup
theorem Two.mem0 {n:Nat} {c:List Int} (h:Two n c):w0 c∈c:=by
 have:=h.len
 unfold w0;rw [List.getD_eq_getElem?_getD,List.getElem?_eq_getElem (by omega:0<c.length)];exact List.getElem_mem _
theorem Two.mem1 {n:Nat} {c:List Int} (h:Two n c):w1 c∈c:=by
 have:=h.len
 unfold w1;rw [List.getD_eq_getElem?_getD,List.getElem?_eq_getElem (by omega:1<c.length)];exact List.getElem_mem _
theorem lU {c:List Int} (h:c.Nodup) {i j:Nat} (hi:i<c.length) (hj:j<c.length) (hne:i≠j):c.getD i 0≠c.getD j 0:=by
 rw [List.getD_eq_getElem?_getD,List.getElem?_eq_getElem hi,List.getD_eq_getElem?_getD,List.getElem?_eq_getElem hj]
 intro e
 rw [List.nodup_iff_pairwise_ne,List.pairwise_iff_getElem] at h
 rcases Nat.lt_or_gt_of_ne hne with h1 | h1
 ·exact h i j hi hj h1 e
 ·exact h j i hj hi h1 e.symm
theorem Two.ne {n:Nat} {c:List Int} (h:Two n c):w0 c≠w1 c:=lU h.nodup (by have:=h.len;omega) (by have:=h.len;omega) (by omega)
def Wok (K c:List Int) (Q:Int->Prop):Prop:=
 (kn K (w0 c) = -(w0 c)->kn K (w1 c)=w1 c∨Q (w0 c))/\(kn K (w1 c) = -(w1 c)->kn K (w0 c)=w0 c∨Q (w1 c))
theorem Wok.mono {K c:List Int} {Q Q':Int->Prop} (h:Wok K c Q) (hq : ∀ z,(z=w0 c∨z=w1 c)->Q z->Q' z):Wok K c Q':=
 ⟨fun e=>(h.1 e).imp id (hq _ (.inl rfl)),fun e=>(h.2 e).imp id (hq _ (.inr rfl))⟩
theorem Wok.take {n:Nat} {K c:List Int} {Q Q':Int->Prop} {x:Int} (hK:Tb n K) (hx:Lit n x) (hc:Two n c) (h:Wok K c Q) (hq : ∀ z,Q z->Q' z) (hn:kn K x=0->Q' (-x)):Wok (tkK K x) c Q':=by
 have hE:=qX hK hx
 have l0:=hc.lits _ hc.mem0
 have l1:=hc.lits _ hc.mem1
 have half : ∀ a b:Int,Lit n a->Lit n b->(kn K a = -a->kn K b=b∨Q a)->kn (tkK K x) a = -a->kn (tkK K x) b=b∨Q' a:=by
  intro a b ha hb hab e
  rw [aAd hK hx] at e
  by_cases e2:kn K x=0/\a.natAbs=x.natAbs
  ·rw [if_pos e2] at e
   right
   have:=hn e2.1
   rwa [show -x=a by omega] at this
  ·rw [if_neg e2] at e
   rcases hab e with h1 | h1
   ·exact .inl (hE.pos hb.1 h1)
   ·exact .inr (hq _ h1)
 exact ⟨half _ _ l0 l1 h.1,half _ _ l1 l0 h.2⟩
theorem Wok.closed {n:Nat} {K c:List Int} (hc:Two n c) (h:Wok K c (fun _=>False)):oR K c:=by
 have l0:=(hc.lits _ hc.mem0).1
 have l1:=(hc.lits _ hc.mem1).1
 have h0:kn K (w0 c) = -(w0 c)->kn K (w1 c)=w1 c:=fun e=>(h.1 e).resolve_right id
 have h1:kn K (w1 c) = -(w1 c)->kn K (w0 c)=w0 c:=fun e=>(h.2 e).resolve_right id
 have hno : ¬ (kn K (w0 c) = -(w0 c)/\kn K (w1 c) = -(w1 c)):=by
  rintro ⟨a,b⟩
  have:=h0 a;omega
 refine ⟨?_,fun x hx hall=> ?_⟩
 ·by_cases e:kn K (w0 c) = -(w0 c)
  ·exact ⟨w1 c,hc.mem1,fun e2=>hno ⟨e,e2⟩⟩
  ·exact ⟨w0 c,hc.mem0,e⟩
 ·by_cases e0:w0 c=x
  ·have:=hall (w1 c) hc.mem1 (by rw [← e0];exact Ne.symm hc.ne)
   rw [← e0];exact h1 this
  ·by_cases e1:w1 c=x
   ·have:=hall (w0 c) hc.mem0 e0
    rw [← e1];exact h0 this
   ·exact absurd ⟨hall _ hc.mem0 e0,hall _ hc.mem1 e1⟩ hno
def yM (K0 c d:List Int):Prop:=(∀ y∈d,y∈c)/\∀ y∈c,y∈d∨kn K0 y = -y
structure Rep (F G:List (List Int)) (K0:List Int) (C:List (List Int)):Prop where
 fwd : ∀ c∈F,(∃ y∈c,kn K0 y=y)∨∃ d∈C,yM K0 c d
 back : ∀ d∈C,∃ c∈G,yM K0 c d
theorem yM.same {K0 c d d':List Int} (h:yM K0 c d) (hs : ∀ y,y∈d'↔y∈d):yM K0 c d':=
 ⟨fun y hy=>h.1 y ((hs y).1 hy),fun y hy=>(h.2 y hy).imp (hs y).2 id⟩
theorem yM.ext {n:Nat} {K0 K1 c d:List Int} (hc:aL n c) (h:yM K0 c d) (he:Ext K0 K1):yM K1 c d:=
 ⟨h.1,fun y hy=>(h.2 y hy).imp id (he.neg (hc y hy).1)⟩
theorem gP {C:List (List Int)} {p:Nat} {c:List Int} (h:C[p]? = some c):c∈C:=List.mem_of_getElem? h
theorem Rep.set {F G:List (List Int)} {K0:List Int} {C:List (List Int)} {p:Nat} {c c':List Int} (h:Rep F G K0 C) (hp:C[p]? = some c) (hs : ∀ y,y∈c'↔y∈c):Rep F G K0 (C.set p c'):=by
 have hpl:p<C.length:=(List.getElem?_eq_some_iff.1 hp).1
 refine ⟨fun d hd=>(h.fwd d hd).imp id ?_,fun d hd=> ?_⟩
 ·rintro ⟨e,he,hr⟩
  obtain ⟨q,hq⟩:=List.getElem?_of_mem he
  by_cases hqp:p=q
  ·subst hqp
   rw [hp] at hq
   cases hq
   exact ⟨c',List.mem_of_getElem? (List.getElem?_set_self hpl),hr.same hs⟩
  ·exact ⟨e,List.mem_of_getElem? (by rw [List.getElem?_set_ne hqp];exact hq),hr⟩
 ·rcases List.mem_or_eq_of_mem_set hd with hd | rfl
  ·exact h.back d hd
  ·obtain ⟨f,hf,hr⟩:=h.back c (gP hp)
   exact ⟨f,hf,hr.same hs⟩
theorem Rep.unit {n:Nat} {F G:List (List Int)} {A K0 K L:List Int} {C:List (List Int)} (hF : ∀ c∈G,aL n c) (h:Rep F G K0 C) (hk:SK n G A K0 K L) {d:List Int} (hd:d∈C) {x:Int} (hx:x∈d) (hall : ∀ y∈d,y≠x->kn K y = -y):Der G A x:=by
 obtain ⟨c,hc,h1,h2⟩:=h.back d hd
 refine .unit hc (h1 x hx) fun y hy hne=> ?_
 have hy0:=(hF c hc y hy).1
 rcases h2 y hy with h3 | h3
 ·exact hk.derN hy0 (hall y h3 hne)
 ·exact hk.derN hy0 (hk.ext.neg hy0 h3)
theorem aEq {n:Nat} {K0 K c d:List Int} (hc:aL n c) (hr:yM K0 c d) (he:Ext K0 K) (h:oR K d):oR K c:=by
 obtain ⟨⟨y,hy,hne⟩,h2⟩:=h
 refine ⟨⟨y,hr.1 y hy,hne⟩,fun x hx hall=> ?_⟩
 rcases hr.2 x hx with h3 | h3
 ·exact h2 x h3 fun z hz hzx=>hall z (hr.1 z hz) hzx
 ·have h4:=he.neg (hc x hx).1 h3
  by_cases e:y=x
  ·exact absurd (e ▸ h4) (e ▸ hne)
  ·exact absurd (hall y (hr.1 y hy) e) hne
theorem aBk {n:Nat} {K c:List Int} (hc:aL n c) {y:Int} (hy:y∈c) (e:kn K y=y):oR K c:=by
 have hy0:=(hc y hy).1
 refine ⟨⟨y,hy,by omega⟩,fun x hx hall=> ?_⟩
 by_cases e2:y=x
 ·rw [← e2];exact e
 ·have:=hall y hy e2;omega
structure WSt (n:Nat) (C:List (List Int)) (W:List (List Nat)):Prop where
 len:W.length=2*n+1
 two : ∀ c∈C,Two n c
 nodup : ∀ i,(W.getD i []).Nodup
 iff : ∀ z,Lit n z->∀ p,p∈W.getD ((n:Int)+z).toNat [] ↔ ∃ c,C[p]? = some c/\(w0 c=z∨w1 c=z)
def aIt (L:List Int) (k:Nat) (z:Int):Prop:= ∃ j,k<=j/\L[j]? = some (-z)
theorem aIt.more {L:List Int} {k:Nat} {z:Int} (h:aIt L k z) (K:List Int) (x:Int):aIt (tkL K L x) k z:=by
 obtain ⟨j,hj,e⟩:=h
 refine ⟨j,hj,?_⟩
 have hjl:j<L.length:=(List.getElem?_eq_some_iff.1 e).1
 unfold tkL;split
 ·rw [List.getElem?_append_left hjl];exact e
 ·exact e
theorem aDa {K L:List Int} {k:Nat} {x:Int} (hk:k<=L.length) (h:kn K x=0):aIt (tkL K L x) k (-x):=by
 unfold tkL;rw [if_pos h]
 exact ⟨L.length,hk,by simp⟩
theorem aIm (K L:List Int) (x:Int):L.length<=(tkL K L x).length:=by
 unfold tkL;split<;>simp
theorem dL (W:List (List Nat)) (i j:Nat) (r:List Nat) (hi:i<W.length):(W.set i r).getD j []=if j=i then r else W.getD j []:=by
 by_cases h:j=i
 ·subst h;simp [List.getD_eq_getElem?_getD,hi]
 ·simp [List.getD_eq_getElem?_getD,h,Ne.symm h]
def cD (n:Nat) (W:List (List Nat)) (z:Int) (p:Nat):List (List Nat):=W.set ((n:Int)+z).toNat (W.getD ((n:Int)+z).toNat [] ++ [p])
def gK (K:List Int) (C:List (List Int)):Prop:= ∀ c∈C,Wok K c (fun _=>False)
theorem gK.set {K:List Int} {C:List (List Int)} {p:Nat} {c':List Int} (h:gK K C) (h':Wok K c' (fun _=>False)):gK K (C.set p c'):=by
 intro d hd
 rcases List.mem_or_eq_of_mem_set hd with hd | rfl
 ·exact h d hd
 ·exact h'
structure oP (n:Nat) (F G:List (List Int)) (A K0 K L:List Int) (k:Nat) (lit:Int) (kept rest:List Nat) (C:List (List Int)) (W:List (List Nat)):Prop where
 sk:SK n G A K0 K L
 kl:k<=L.length
 hl:Lit n lit
 no:kn K lit = -lit
 wl:W.length=2*n+1
 ws:WSt n C (W.set ((n:Int)+lit).toNat (kept++rest))
 base:gK K0 C
 rep:Rep F G K0 C
 watch : ∀ p c,C[p]? = some c->Wok K c (fun z=>aIt L k z∨(z=lit/\p∈rest))
structure aIq (n:Nat) (F G:List (List Int)) (A K0 K L:List Int) (lit:Int) (row:List Nat) (C:List (List Int)) (W:List (List Nat)):Prop where
 fails:bJ G A
 sk:SK n G A K0 K L
 hl:Lit n lit
 wl:W.length=2*n+1
 ws:WSt n C (W.set ((n:Int)+lit).toNat row)
 base:gK K0 C
 rep:Rep F G K0 C
def swp (c:List Int) (i j:Nat):List Int:=(c.set i (c.getD j 0)).set j (c.getD i 0)
theorem kJ (c:List Int) (i j:Nat):(swp c i j).length=c.length:=by simp [swp]
theorem eJ (c:List Int) {i j:Nat} (hi:i<c.length) (hj:j<c.length) (k:Nat):(swp c i j).getD k 0=if k=j then c.getD i 0 else if k=i then c.getD j 0 else c.getD k 0:=by
 unfold swp
 by_cases h1:k=j
 ·subst h1;simp [List.getD_eq_getElem?_getD,hj]
 ·by_cases h2:k=i
  ·subst h2;simp [List.getD_eq_getElem?_getD,h1,Ne.symm h1,hi]
  ·simp [List.getD_eq_getElem?_getD,h1,h2,Ne.symm h1,Ne.symm h2]
theorem mW {c:List Int} {y:Int}:y∈c ↔ ∃ k,k<c.length/\c.getD k 0=y:=by
 constructor
 ·intro h
  obtain ⟨k,hk,e⟩:=List.getElem_of_mem h
  exact ⟨k,hk,by rw [List.getD_eq_getElem?_getD,List.getElem?_eq_getElem hk];exact e⟩
 ·rintro ⟨k,hk,e⟩
  rw [List.getD_eq_getElem?_getD,List.getElem?_eq_getElem hk] at e
  exact e ▸ List.getElem_mem hk
theorem aAc (c:List Int) {i j:Nat} (hi:i<c.length) (hj:j<c.length) (y:Int):y∈swp c i j↔y∈c:=by
 rw [mW,mW,kJ]
 constructor
 ·rintro ⟨k,hk,e⟩
  rw [eJ c hi hj] at e
  split at e
  ·exact ⟨i,hi,e⟩
  ·split at e
   ·exact ⟨j,hj,e⟩
   ·exact ⟨k,hk,e⟩
 ·rintro ⟨k,hk,e⟩
  by_cases h1:k=i
  ·subst h1;exact ⟨j,hj,by rw [eJ c hi hj,if_pos rfl];exact e⟩
  ·by_cases h2:k=j
   ·subst h2
    refine ⟨i,hi,?_⟩
    rw [eJ c hi hj,if_neg (Ne.symm h1),if_pos rfl];exact e
   ·exact ⟨k,hk,by rw [eJ c hi hj,if_neg h2,if_neg h1];exact e⟩
theorem wP {c:List Int} (h : ∀ i j,i<c.length->j<c.length->c.getD i 0=c.getD j 0->i=j):c.Nodup:=by
 rw [List.nodup_iff_pairwise_ne,List.pairwise_iff_getElem]
 intro i j hi hj hij e
 have:=h i j hi hj (by rw [List.getD_eq_getElem?_getD,List.getElem?_eq_getElem hi,List.getD_eq_getElem?_getD,List.getElem?_eq_getElem hj];exact e)
 omega
theorem aLa {c:List Int} (h:c.Nodup) {i j:Nat} (hi:i<c.length) (hj:j<c.length):(swp c i j).Nodup:=by
 refine wP fun a b ha hb e=> ?_
 rw [kJ] at ha hb
 rw [eJ c hi hj,eJ c hi hj] at e
 have inj : ∀ x y,x<c.length->y<c.length->c.getD x 0=c.getD y 0->x=y:=fun x y hx hy e=>Decidable.byContradiction fun hne=>lU h hx hy hne e
 by_cases a1:a=j<;>by_cases b1:b=j
 ·omega
 ·rw [if_pos a1,if_neg b1] at e
  by_cases b2:b=i
  ·rw [if_pos b2] at e;have:=inj _ _ hi hj e;omega
  ·rw [if_neg b2] at e;have:=inj _ _ hi hb e;omega
 ·rw [if_neg a1,if_pos b1] at e
  by_cases a2:a=i
  ·rw [if_pos a2] at e;have:=inj _ _ hj hi e;omega
  ·rw [if_neg a2] at e;have:=inj _ _ ha hi e;omega
 ·rw [if_neg a1,if_neg b1] at e
  by_cases a2:a=i<;>by_cases b2:b=i
  ·omega
  ·rw [if_pos a2,if_neg b2] at e;have:=inj _ _ hj hb e;omega
  ·rw [if_neg a2,if_pos b2] at e;have:=inj _ _ ha hj e;omega
  ·rw [if_neg a2,if_neg b2] at e;exact inj _ _ ha hb e
theorem aIl {n:Nat} {c:List Int} (h:Two n c) {i j:Nat} (hi:i<c.length) (hj:j<c.length):Two n (swp c i j):=
 ⟨by rw [kJ];exact h.len,fun y hy=>h.lits y ((aAc c hi hj y).1 hy),aLa h.nodup hi hj⟩
def mv0 (lit:Int) (c:List Int):List Int:=if c.getD 0 0=lit then swp c 0 1 else c
theorem zG (lit:Int) (c:List Int):(mv0 lit c).length=c.length:=by unfold mv0;split<;>simp [kJ]
theorem qJ {n:Nat} {c:List Int} {lit:Int} (h:Two n c) (hw:w0 c=lit∨w1 c=lit) :
  Two n (mv0 lit c)/\(∀ y,y∈mv0 lit c↔y∈c)/\w1 (mv0 lit c)=lit/\((w0 c=lit/\w0 (mv0 lit c)=w1 c)∨(w1 c=lit/\w0 (mv0 lit c)=w0 c)):=by
 have hl:=h.len
 unfold mv0
 by_cases e:c.getD 0 0=lit
 ·rw [if_pos e]
  refine ⟨aIl h (by omega) (by omega),aAc c (by omega) (by omega),?_,.inl ⟨e,?_⟩⟩
  ·unfold w1;rw [eJ c (by omega) (by omega),if_pos rfl];exact e
  ·unfold w0 w1;rw [eJ c (by omega) (by omega),if_neg (by omega),if_pos rfl]
 ·rw [if_neg e]
  have:w1 c=lit:=hw.resolve_left e
  exact ⟨h,fun _=>Iff.rfl,this,.inr ⟨this,rfl⟩⟩
theorem Wok.of_mv0 {n:Nat} {c K:List Int} {lit:Int} {Q:Int->Prop} (h:Two n c) (hw:w0 c=lit∨w1 c=lit):Wok K (mv0 lit c) Q↔Wok K c Q:=by
 obtain ⟨-,-,h1,h2⟩:=qJ h hw
 unfold Wok
 rw [h1]
 rcases h2 with ⟨a,b⟩ | ⟨a,b⟩
 ·rw [b,a];exact And.comm
 ·rw [b,a]
theorem aAm {n:Nat} {W:List (List Nat)} {lit:Int} {row:List Nat} (hl:Lit n lit) (hW:W.length=2*n+1):(W.set ((n:Int)+lit).toNat row).getD ((n:Int)+lit).toNat []=row:=by
 rw [dL _ _ _ _ (by have:=hl.2;omega),if_pos rfl]
theorem rR {n:Nat} {W:List (List Nat)} {lit z:Int} {row:List Nat} (hl:Lit n lit) (hz:Lit n z) (hW:W.length=2*n+1) (hne:z≠lit):(W.set ((n:Int)+lit).toNat row).getD ((n:Int)+z).toNat []=W.getD ((n:Int)+z).toNat []:=by
 rw [dL _ _ _ _ (by have:=hl.2;omega),if_neg (by have:=hl.2;have:=hz.2;omega)]
theorem aPa {n:Nat} {C:List (List Int)} {W:List (List Nat)} {lit z o:Int} {kept rest:List Nat} {p:Nat} {c c':List Int} (hl:Lit n lit) (hW:W.length=2*n+1) (h:WSt n C (W.set ((n:Int)+lit).toNat (kept++p :: rest))) (hp:C[p]? = some c)
  (hc:(w0 c=lit/\w1 c=o)∨(w1 c=lit/\w0 c=o)) (h2:Two n c') (e0:w0 c'=o) (e1:w1 c'=z) (hzl:z≠lit) (hol:o≠lit) (hzc:z≠w0 c/\z≠w1 c) :
  WSt n (C.set p c') ((cD n W z p).set ((n:Int)+lit).toNat (kept++rest))/\(cD n W z p).length=2*n+1:=by
 have hpl:p<C.length:=(List.getElem?_eq_some_iff.1 hp).1
 have hz:Lit n z:=e1 ▸ h2.lits _ h2.mem1
 have hWp:(cD n W z p).length=2*n+1:=by simp [cD,hW]
 have hro : ∀ y,Lit n y->y≠lit->W.getD ((n:Int)+y).toNat []=(W.set ((n:Int)+lit).toNat (kept++p :: rest)).getD ((n:Int)+y).toNat []:=fun y hy hne=>(rR hl hy hW hne).symm
 have hrl:(W.set ((n:Int)+lit).toNat (kept++p :: rest)).getD ((n:Int)+lit).toNat []=kept++p :: rest:=aAm hl hW
 have hnl:=h.nodup ((n:Int)+lit).toNat
 rw [hrl] at hnl
 have hpk:p ∉ kept++rest:=by
  rw [List.nodup_append] at hnl
  obtain ⟨_,h4,h5⟩:=hnl
  rw [List.nodup_cons] at h4
  intro hm
  rcases List.mem_append.1 hm with hm | hm
  ·exact h5 p hm p List.mem_cons_self rfl
  ·exact h4.1 hm
 have hnkr:(kept++rest).Nodup:=by
  rw [List.nodup_append] at hnl ⊢
  obtain ⟨h3,h4,h5⟩:=hnl
  exact ⟨h3,(List.nodup_cons.1 h4).2,fun a ha b hb=>h5 a ha b (List.mem_cons_of_mem _ hb)⟩
 have hpz:p ∉ W.getD ((n:Int)+z).toNat []:=by
  rw [hro z hz hzl,h.iff z hz]
  rintro ⟨d,hd,he⟩
  rw [hp] at hd;cases hd
  rcases he with he | he
  ·exact hzc.1 he.symm
  ·exact hzc.2 he.symm
 have hzi:((n:Int)+z).toNat<W.length:=by have:=hz.2;omega
 have hrow : ∀ y,Lit n y->((cD n W z p).set ((n:Int)+lit).toNat (kept++rest)).getD ((n:Int)+y).toNat []=if y=lit then kept++rest else if y=z then W.getD ((n:Int)+z).toNat [] ++ [p] else W.getD ((n:Int)+y).toNat []:=by
  intro y hy
  by_cases e:y=lit
  ·rw [if_pos e,e];exact aAm hl hWp
  ·rw [if_neg e,rR hl hy hWp e]
   unfold cD
   rw [dL _ _ _ _ hzi]
   by_cases e2:y=z
   ·rw [if_pos e2,if_pos (by rw [e2])]
   ·rw [if_neg e2,if_neg (by have:=hy.2;have:=hz.2;omega)]
 refine ⟨⟨by simp [hWp],fun d hd=> ?_,fun i=> ?_,fun y hy q=> ?_⟩,hWp⟩
 ·rcases List.mem_or_eq_of_mem_set hd with hd | rfl
  ·exact h.two d hd
  ·exact h2
 ·rw [dL _ _ _ _ (by rw [hWp];have:=hl.2;omega)]
  split
  ·exact hnkr
  ·rename_i hil
   unfold cD
   rw [dL _ _ _ _ hzi]
   have hi:=h.nodup i
   rw [dL _ _ _ _ (by rw [hW];have:=hl.2;omega),if_neg hil] at hi
   split
   ·rename_i hiz
    rw [← hiz]
    rw [List.nodup_append]
    refine ⟨hi,by simp,fun a ha b hb e=> ?_⟩
    rw [List.mem_singleton.1 hb] at e
    rw [e,hiz] at ha
    exact hpz ha
   ·exact hi
 ·rw [hrow y hy]
  have old:=h.iff y hy q
  by_cases hqp:p=q
  ·subst hqp
   rw [List.getElem?_set_self hpl]
   have hex:(∃ d,some c'=some d/\(w0 d=y∨w1 d=y))↔(o=y∨z=y):=by
    constructor
    ·rintro ⟨d,hd,he⟩
     cases hd
     rwa [e0,e1] at he
    ·intro he
     exact ⟨c',rfl,by rwa [e0,e1]⟩
   rw [hex]
   by_cases e:y=lit
   ·rw [if_pos e]
    constructor
    ·intro hm;exact absurd hm hpk
    ·rintro (he | he)
     ·exact absurd (he.trans e) hol
     ·exact absurd (he.trans e) hzl
   ·rw [if_neg e]
    by_cases e2:y=z
    ·rw [if_pos e2]
     exact ⟨fun _=> .inr e2.symm,fun _=>List.mem_append_right _ (by simp)⟩
    ·rw [if_neg e2,hro y hy e,old]
     constructor
     ·rintro ⟨d,hd,he⟩
      rw [hp] at hd;cases hd
      rcases hc with ⟨a,b⟩ | ⟨a,b⟩
      ·rw [a,b] at he;exact .inl (he.resolve_left fun e3=>e e3.symm)
      ·rw [a,b] at he;exact .inl (he.resolve_right fun e3=>e e3.symm)
     ·rintro (he | he)
      ·refine ⟨c,hp,?_⟩
       rcases hc with ⟨a,b⟩ | ⟨a,b⟩
       ·exact .inr (b.trans he)
       ·exact .inl (b.trans he)
      ·exact absurd he.symm e2
  ·rw [List.getElem?_set_ne hqp]
   by_cases e:y=lit
   ·subst e
    rw [if_pos rfl,← old,hrl]
    constructor
    ·intro hm
     rcases List.mem_append.1 hm with hm | hm
     ·exact List.mem_append_left _ hm
     ·exact List.mem_append_right _ (List.mem_cons_of_mem _ hm)
    ·intro hm
     rcases List.mem_append.1 hm with hm | hm
     ·exact List.mem_append_left _ hm
     ·rcases List.mem_cons.1 hm with hm | hm
      ·exact absurd hm.symm hqp
      ·exact List.mem_append_right _ hm
   ·rw [if_neg e,← old,← hro y hy e]
    by_cases e2:y=z
    ·rw [if_pos e2,List.mem_append,List.mem_singleton,e2]
     exact ⟨fun h3=>h3.resolve_right fun e3=>hqp e3.symm,.inl⟩
    ·rw [if_neg e2]
theorem aPb {n:Nat} {C:List (List Int)} {W:List (List Nat)} {p:Nat} {c c':List Int} (h:WSt n C W) (hp:C[p]? = some c) (h2:Two n c') (hs : ∀ z,(w0 c'=z∨w1 c'=z)↔(w0 c=z∨w1 c=z)):WSt n (C.set p c') W:=by
 have hpl:p<C.length:=(List.getElem?_eq_some_iff.1 hp).1
 refine ⟨h.len,fun d hd=> ?_,h.nodup,fun z hz q=> ?_⟩
 ·rcases List.mem_or_eq_of_mem_set hd with hd | rfl
  ·exact h.two d hd
  ·exact h2
 ·rw [h.iff z hz q]
  by_cases hqp:p=q
  ·subst hqp
   rw [List.getElem?_set_self hpl,hp]
   constructor
   ·rintro ⟨d,hd,he⟩;cases hd;exact ⟨c',rfl,(hs z).2 he⟩
   ·rintro ⟨d,hd,he⟩;cases hd;exact ⟨c,rfl,(hs z).1 he⟩
  ·rw [List.getElem?_set_ne hqp]
inductive Mv (K:List Int) (lit:Int) (c:List Int):List Int->Bool->Prop
 | stay:(kn K (w0 (mv0 lit c))=w0 (mv0 lit c)∨∀ k,2<=k->k<c.length->kn K ((mv0 lit c).getD k 0) = -((mv0 lit c).getD k 0))->Mv K lit c (mv0 lit c) false
 | gone {k:Nat}:2<=k->k<c.length->kn K ((mv0 lit c).getD k 0) ≠ -((mv0 lit c).getD k 0)->Mv K lit c (swp (mv0 lit c) 1 k) true
theorem oP.at {n:Nat} {F G:List (List Int)} {A K0 K L:List Int} {k:Nat} {lit:Int} {kept rest:List Nat} {p:Nat} {C:List (List Int)} {W:List (List Nat)} (h:oP n F G A K0 K L k lit kept (p :: rest) C W) : ∃ c,C[p]? = some c/\Two n c/\(w0 c=lit∨w1 c=lit):=by
 have h1:p∈(W.set ((n:Int)+lit).toNat (kept++p :: rest)).getD ((n:Int)+lit).toNat []:=by
  rw [aAm h.hl h.wl];exact List.mem_append_right _ List.mem_cons_self
 obtain ⟨c,hc,hw⟩:=(h.ws.iff lit h.hl p).1 h1
 exact ⟨c,hc,h.ws.two c (gP hc),hw⟩
theorem oP.move {n:Nat} {F G:List (List Int)} {A K0 K L:List Int} {k:Nat} {lit:Int} {kept rest:List Nat} {p:Nat} {C:List (List Int)} {W:List (List Nat)} {c c':List Int} (h:oP n F G A K0 K L k lit kept (p :: rest) C W) (hp:C[p]? = some c) (hm:Mv K lit c c' true) :
  oP n F G A K0 K L k lit kept rest (C.set p c') (cD n W (w1 c') p)/\Lit n (w1 c')/\w1 c'≠lit:=by
 obtain ⟨d,hd,h2,hw⟩:=h.at
 rw [hp] at hd;cases hd
 obtain ⟨m2,mm,m1,mo⟩:=qJ h2 hw
 cases hm with
 | @gone j hj hjl hne=>
  have hml:(mv0 lit c).length=c.length:=zG lit c
  have h2l:=h2.len
  have e0:w0 (swp (mv0 lit c) 1 j)=w0 (mv0 lit c):=by
   unfold w0;rw [eJ _ (by omega) (by omega),if_neg (by omega),if_neg (by omega)]
  have e1:w1 (swp (mv0 lit c) 1 j)=(mv0 lit c).getD j 0:=by
   unfold w1;rw [eJ _ (by omega) (by omega),if_neg (by omega),if_pos rfl]
  have hz0:(mv0 lit c).getD j 0≠w0 (mv0 lit c):=lU m2.nodup (by omega) (by omega) (by omega)
  have hz1:(mv0 lit c).getD j 0≠w1 (mv0 lit c):=lU m2.nodup (by omega) (by omega) (by omega)
  have s2:Two n (swp (mv0 lit c) 1 j):=aIl m2 (by omega) (by omega)
  have sm : ∀ y,y∈swp (mv0 lit c) 1 j↔y∈c:=fun y=>(aAc _ (by omega) (by omega) y).trans (mm y)
  have hol:w0 (mv0 lit c)≠lit:=by have:=m2.ne;rwa [m1] at this
  have hzl:(mv0 lit c).getD j 0≠lit:=by rwa [m1] at hz1
  rw [e1]
  generalize hz:(mv0 lit c).getD j 0=z at *
  generalize ho:w0 (mv0 lit c)=o at *
  have hzL:Lit n z:=e1 ▸ s2.lits _ s2.mem1
  have hoL:Lit n o:=e0 ▸ s2.lits _ s2.mem0
  have hcc:(w0 c=lit/\w1 c=o)∨(w1 c=lit/\w0 c=o):=by
   rcases mo with ⟨a,b⟩ | ⟨a,b⟩
   ·exact .inl ⟨a,b.symm⟩
   ·exact .inr ⟨a,b.symm⟩
  have hzc:z≠w0 c/\z≠w1 c:=by
   rcases hcc with ⟨a,b⟩ | ⟨a,b⟩
   ·rw [a,b];exact ⟨hzl,hz0⟩
   ·rw [a,b];exact ⟨hz0,hzl⟩
  obtain ⟨ws,wl⟩:=aPa h.hl h.wl h.ws hp hcc s2 e0 e1 hzl hol hzc
  have hl0:=h.hl.1
  have hno:=h.no
  -- what the clause watched before
  have half : ∀ (K':List Int) (Q:Int->Prop),Wok K' c Q->kn K' o = -o->kn K' lit=lit∨Q o:=by
   intro K' Q hq e
   rcases hcc with ⟨a,b⟩ | ⟨a,b⟩
   ·have:=hq.2;rw [a,b] at this;exact this e
   ·have:=hq.1;rw [a,b] at this;exact this e
  refine ⟨⟨h.sk,h.kl,h.hl,h.no,wl,ws,h.base.set ?_,h.rep.set hp sm,fun q d hq=> ?_⟩,hzL,hzl⟩
  ·refine ⟨fun e=> ?_,fun e=> ?_⟩
   ·rw [e0] at e
    have:=(half K0 _ (h.base c (gP hp)) e).resolve_right id
    have:=h.sk.ext.pos hl0 this
    omega
   ·rw [e1] at e
    exact absurd (h.sk.ext.neg hzL.1 e) hne
  ·by_cases hqp:p=q
   ·subst hqp
    rw [List.getElem?_set_self (List.getElem?_eq_some_iff.1 hp).1] at hq
    cases hq
    refine ⟨fun e=> ?_,fun e=> ?_⟩
    ·rw [e0] at e ⊢
     rcases half K _ (h.watch p c hp) e with h3 | h3 | h3
     ·omega
     ·exact .inr (.inl h3)
     ·exact absurd h3.1 hol
    ·rw [e1] at e
     exact absurd e hne
   ·rw [List.getElem?_set_ne hqp] at hq
    refine (h.watch q d hq).mono fun z _ hz=>hz.imp id ?_
    rintro ⟨a,b⟩
    exact ⟨a,(List.mem_cons.1 b).resolve_left fun e=>hqp e.symm⟩
theorem oP.stay {n:Nat} {F G:List (List Int)} {A K0 K L:List Int} {k:Nat} {lit:Int} {kept rest:List Nat} {p:Nat} {C:List (List Int)} {W:List (List Nat)} {c c':List Int} (hG : ∀ c∈G,aL n c) (h:oP n F G A K0 K L k lit kept (p :: rest) C W) (hp:C[p]? = some c) (hm:Mv K lit c c' false) :
  Lit n (w0 c')/\Two n c'/\(kn (tkK K (w0 c')) (w0 c')=w0 c'->oP n F G A K0 (tkK K (w0 c')) (tkL K L (w0 c')) k lit (kept ++ [p]) rest (C.set p c') W)/\
   (kn (tkK K (w0 c')) (w0 c')≠w0 c'->aIq n F G A K0 (tkK K (w0 c')) (tkL K L (w0 c')) lit (kept ++ [p]++rest) (C.set p c') W):=by
 obtain ⟨d,hd,h2,hw⟩:=h.at
 rw [hp] at hd;cases hd
 obtain ⟨m2,mm,m1,mo⟩:=qJ h2 hw
 have hpl:=(List.getElem?_eq_some_iff.1 hp).1
 cases hm with
 | stay hst=>
  have hwk : ∀ K' Q,Wok K' (mv0 lit c) Q↔Wok K' c Q:=fun K' Q=>Wok.of_mv0 h2 hw
  have hws : ∀ z,(w0 (mv0 lit c)=z∨w1 (mv0 lit c)=z)↔(w0 c=z∨w1 c=z):=by
   intro z
   rw [m1]
   rcases mo with ⟨a,b⟩ | ⟨a,b⟩
   ·rw [b,a];exact Or.comm
   ·rw [b,a]
  have hoL:Lit n (w0 (mv0 lit c)):=m2.lits _ m2.mem0
  have hrep:=h.rep.set hp mm
  have hder:Der G A (w0 (mv0 lit c)):=by
   rcases hst with e | hall
   ·exact h.sk.der _ hoL.1 e
   ·refine hrep.unit hG h.sk (List.mem_of_getElem? (List.getElem?_set_self hpl)) m2.mem0 fun y hy hne=> ?_
    obtain ⟨j,hj,e⟩:=mW.1 hy
    by_cases j0:j=0
    ·exact absurd (by rw [← e,j0];rfl) hne
    ·by_cases j1:j=1
     ·have:y=lit:=by rw [← e,j1];exact m1
      rw [this];exact h.no
     ·rw [zG] at hj
      have:=hall j (by omega) hj
      rwa [e] at this
  obtain ⟨sk,hf⟩:=h.sk.take hoL hder
  have hbase:gK K0 (C.set p (mv0 lit c)):=h.base.set ((hwk K0 _).2 (h.base c (gP hp)))
  have hws2:WSt n (C.set p (mv0 lit c)) (W.set ((n:Int)+lit).toNat (kept ++ [p]++rest)):=by
   rw [show kept ++ [p]++rest=kept++p :: rest by simp]
   exact aPb h.ws hp m2 hws
  have hE:=qX h.sk.tb hoL
  refine ⟨hoL,m2,fun e=>⟨sk,Nat.le_trans h.kl (aIm _ _ _),h.hl,hE.neg h.hl.1 h.no,h.wl,hws2,hbase,hrep,fun q d hq=> ?_⟩,fun e=>⟨hf e,sk,h.hl,h.wl,hws2,hbase,hrep⟩⟩
  by_cases hqp:p=q
  ·subst hqp
   rw [List.getElem?_set_self hpl] at hq
   cases hq
   have ho0:=hoL.1
   refine ⟨fun e2=> ?_,fun _=> .inl e⟩
   rw [e] at e2;omega
  ·rw [List.getElem?_set_ne hqp] at hq
   refine Wok.take h.sk.tb hoL (h.ws.two d (gP hq)) (h.watch q d hq) (fun z hz=> ?_) fun e0=> .inl (aDa h.kl e0)
   rcases hz with hz | ⟨a,b⟩
   ·exact .inl (hz.more _ _)
   ·exact .inr ⟨a,(List.mem_cons.1 b).resolve_left fun e=>hqp e.symm⟩
structure iX (n:Nat) (F G:List (List Int)) (A K0 K L:List Int) (k:Nat) (C:List (List Int)) (W:List (List Nat)):Prop where
 sk:SK n G A K0 K L
 kl:k<=L.length
 ws:WSt n C W
 base:gK K0 C
 rep:Rep F G K0 C
 watch : ∀ c∈C,Wok K c (aIt L k)
structure aAq (n:Nat) (F G:List (List Int)) (A K0 K L:List Int) (C:List (List Int)) (W:List (List Nat)):Prop where
 fails:bJ G A
 sk:SK n G A K0 K L
 ws:WSt n C W
 base:gK K0 C
 rep:Rep F G K0 C
theorem iX.ask {n:Nat} {F G:List (List Int)} {A K0 K L:List Int} {k:Nat} {C:List (List Int)} {W:List (List Nat)} {x:Int} (h:iX n F G A K0 K L k C W) (hx:L[k]? = some x) :
  Lit n (-x)/\oP n F G A K0 K L (k+1) (-x) [] (W.getD ((n:Int) + -x).toNat []) C W:=by
 have hxL:=h.sk.fd x (List.mem_of_getElem? hx)
 have hkl:=(List.getElem?_eq_some_iff.1 hx).1
 have hl:Lit n (-x):=hxL.1.neg
 have hi:((n:Int) + -x).toNat<W.length:=by rw [h.ws.len];have:=hl.2;omega
 have hset:W.set ((n:Int) + -x).toNat ([]++W.getD ((n:Int) + -x).toNat [])=W:=by
  rw [List.nil_append,List.getD_eq_getElem?_getD,List.getElem?_eq_getElem hi,Option.getD_some,List.set_getElem_self]
 refine ⟨hl,h.sk,hkl,hl,by rw [zD,Int.neg_neg];exact hxL.2,h.ws.len,by rw [hset];exact h.ws,h.base,h.rep,fun p c hp=> ?_⟩
 refine (h.watch c (gP hp)).mono fun z hz hpd=> ?_
 obtain ⟨j,hj,e⟩:=hpd
 by_cases hjk:j=k
 ·subst hjk
  rw [hx] at e
  have hzx:z = -x:=by have:=Option.some.inj e;omega
  refine .inr ⟨hzx,?_⟩
  rw [h.ws.iff _ hl]
  exact ⟨c,hp,by rcases hz with hz | hz<;>rw [← hzx,hz]<;>simp⟩
 ·exact .inl ⟨j,by omega,e⟩
theorem oP.done {n:Nat} {F G:List (List Int)} {A K0 K L:List Int} {k:Nat} {lit:Int} {kept:List Nat} {C:List (List Int)} {W:List (List Nat)} (h:oP n F G A K0 K L k lit kept [] C W):iX n F G A K0 K L k C (W.set ((n:Int)+lit).toNat kept):=by
 refine ⟨h.sk,h.kl,by have:=h.ws;rwa [List.append_nil] at this,h.base,h.rep,fun c hc=> ?_⟩
 obtain ⟨p,hp⟩:=List.getElem?_of_mem hc
 exact (h.watch p c hp).mono fun z _ hz=>hz.elim id fun e=>by simp at e
theorem aIq.done {n:Nat} {F G:List (List Int)} {A K0 K L:List Int} {lit:Int} {row:List Nat} {C:List (List Int)} {W:List (List Nat)} (h:aIq n F G A K0 K L lit row C W):aAq n F G A K0 K L C (W.set ((n:Int)+lit).toNat row):=
 ⟨h.fails,h.sk,h.ws,h.base,h.rep⟩
theorem iX.take {n:Nat} {F G:List (List Int)} {A K0 K L:List Int} {k:Nat} {C:List (List Int)} {W:List (List Nat)} {x:Int} (h:iX n F G A K0 K L k C W) (hx:Lit n x) (hd:Der G A x) :
  (kn (tkK K x) x=x->iX n F G A K0 (tkK K x) (tkL K L x) k C W)/\(kn (tkK K x) x≠x->aAq n F G A K0 (tkK K x) (tkL K L x) C W):=by
 obtain ⟨sk,hf⟩:=h.sk.take hx hd
 refine ⟨fun _=>⟨sk,Nat.le_trans h.kl (aIm _ _ _),h.ws,h.base,h.rep,fun c hc=> ?_⟩,fun e=>⟨hf e,sk,h.ws,h.base,h.rep⟩⟩
 exact Wok.take h.sk.tb hx (h.ws.two c hc) (h.watch c hc) (fun z hz=>hz.more _ _) fun e0=>aDa h.kl e0
theorem iX.done {n:Nat} {F G:List (List Int)} {A K0 K L:List Int} {C:List (List Int)} {W:List (List Nat)} (h:iX n F G A K0 K L L.length C W):gK K C:=
 fun c hc=>(h.watch c hc).mono fun z _ hz=>by
  obtain ⟨j,hj,e⟩:=hz
  rw [List.getElem?_eq_none hj] at e;cases e
structure XI (n:Nat) (F:List (List Int)) (fl:Bool) (K:List Int) (C:List (List Int)) (W:List (List Nat)):Prop where
 tb:Tb n K
 ws:WSt n C W
 ok:fl=false->(∀ x,x≠0->kn K x=x->Der F [] x)/\gK K C/\Rep F F K C
 no:fl=true->bJ F []
theorem aRa (n:Nat):XI n [] false (List.replicate (n+1) 0) [] (List.replicate (2*n+1) []):=by
 have hg : ∀ i,(List.replicate (2*n+1) ([]:List Nat)).getD i [] = []:=fun i=>by
  simp [List.getD_eq_getElem?_getD,List.getElem?_replicate];split<;>simp
 refine ⟨aQx n,⟨by simp,by simp,fun i=>by rw [hg];simp,fun z _ p=>by rw [hg];simp⟩,fun _=>⟨fun x hx e=> ?_,by simp [gK],by simp,by simp⟩,by simp⟩
 rw [aQd] at e;exact absurd e.symm hx
theorem aDt {n:Nat} {K:List Int} (h:Tb n K):K.count 0<=n+1:=by have:=List.count_le_length (a:=(0:Int)) (l:=K);have:=h.len;omega
theorem XI.start {n:Nat} {F:List (List Int)} {K:List Int} {C:List (List Int)} {W:List (List Nat)} (h:XI n F false K C W) (A:List Int):iX n F F A K K [] 0 C W:=by
 obtain ⟨h1,h2,h3⟩:=h.ok rfl
 refine ⟨⟨h.tb,fun x hx e=>(h1 x hx e).more (fun _ h=>h) (by simp),Ext.refl K,by simp,by simpa using aDt h.tb⟩,Nat.zero_le _,h.ws,h2,h3,fun c hc=>(h2 c hc).mono fun _ _ e=>e.elim⟩
theorem XI.again {n:Nat} {F:List (List Int)} {K:List Int} {C C':List (List Int)} {W W':List (List Nat)} (h:XI n F false K C W) (hw:WSt n C' W') (hb:gK K C') (hr:Rep F F K C'):XI n F false K C' W':=
 ⟨h.tb,hw,fun _=>⟨(h.ok rfl).1,hb,hr⟩,by simp⟩
theorem nS {n:Nat} {K:List Int} (h:Tb n K) (x:Int):x∈dW K↔(x≠0/\kn K x=x):=by
 unfold dW
 rw [List.mem_filter]
 constructor
 ·rintro ⟨hm,hx⟩
  have hx:x≠0:=by simpa using hx
  refine ⟨hx,?_⟩
  obtain ⟨i,hi,e⟩:=List.getElem_of_mem hm
  have h1:K.getD i 0=x:=by simp [List.getD_eq_getElem?_getD,hi,e]
  rcases h.own i hi with h2 | h2
  ·rw [h1] at h2;exact absurd h2 hx
  ·rw [h1] at h2;unfold kn;rw [h2,h1]
 ·rintro ⟨hx,hk⟩
  refine ⟨?_,by simpa using hx⟩
  have hlt:x.natAbs<K.length:=by
   rcases Nat.lt_or_ge x.natAbs K.length with h2 | h2
   ·exact h2
   ·simp [kn,List.getD_eq_getElem?_getD,List.getElem?_eq_none h2] at hk;exact absurd hk.symm hx
  have h1:K[x.natAbs]=x:=by simpa [kn,List.getD_eq_getElem?_getD,hlt] using hk
  exact h1 ▸ List.getElem_mem hlt
theorem aJu (K:List Int):(dW K).length+K.count 0=K.length:=by
 induction K with
 | nil=>rfl
 | cons a K ih=>
  unfold dW at ih ⊢
  by_cases e:a=0
  ·subst e;simp at ih ⊢;omega
  ·simp [e] at ih ⊢;omega
theorem iX.good {n:Nat} {F G:List (List Int)} {A K0 K L:List Int} {k:Nat} {C:List (List Int)} {W:List (List Nat)} (h:iX n F G A K0 K L k C W):aAp n G A K (dW K):=
 ⟨h.sk.tb.len,h.sk.tb.own,nS h.sk.tb,by rw [aJu,h.sk.tb.len],fun x hx=>h.sk.der x ((nS h.sk.tb x).1 hx).1 ((nS h.sk.tb x).1 hx).2⟩
theorem aFx {n:Nat} {F G:List (List Int)} {K0 K:List Int} {C:List (List Int)} (hF : ∀ c∈F,aL n c) (h2 : ∀ c∈C,Two n c) (hb:gK K C) (hr:Rep F G K0 C) (he:Ext K0 K) : ∀ c∈F,oR K c:=by
 intro c hc
 rcases hr.fwd c hc with ⟨y,hy,e⟩ | ⟨d,hd,hrc⟩
 ·exact aBk (hF c hc) hy (he.pos (hF c hc y hy).1 e)
 ·exact aEq (hF c hc) hrc he (Wok.closed (h2 d hd) (hb d hd))
theorem iX.end {n:Nat} {F:List (List Int)} {A K0 K L:List Int} {C:List (List Int)} {W:List (List Nat)} (hF : ∀ c∈F,aL n c) (h:iX n F F A K0 K L L.length C W) (ha : ∀ a∈A,a≠0/\kn K a=a) :
  aAp n F A K (dW K)/\(∀ x,x∈dW K↔Der F A x)/\¬ bJ F A:=by
 have g:=h.good
 have hcl:=aFx hF h.ws.two h.done h.rep h.sk.ext
 exact ⟨g,aJp hF g (fun a hm=>(nS h.sk.tb a).2 (ha a hm)) fun c hc=> .inr (.inl (hcl c hc))⟩
def lft (K:List Int):List Int->List Int->Option (List Int)
 | acc,[]=>some acc
 | acc,x :: c=>if kn K x=x then none else if kn K x=0/\x ∉ acc then lft K (acc ++ [x]) c else lft K acc c
theorem qD {n:Nat} {K:List Int} (hK:Tb n K) : ∀ {c acc:List Int},aL n c->acc.Nodup->(∀ y∈acc,kn K y=0)->
  (lft K acc c=none->∃ y∈c,kn K y=y)/\∀ l,lft K acc c=some l->l.Nodup/\(∀ y∈acc,y∈l)/\(∀ y∈l,kn K y=0/\(y∈acc∨y∈c))/\(∀ y∈c,y∈l∨kn K y = -y)/\l.length<=acc.length+c.length
 | [],acc,_,hn,ha=>⟨by simp [lft],fun l hl=>by
   simp only [lft,Option.some.injEq] at hl
   subst hl
   exact ⟨hn,fun _ h=>h,fun y hy=>⟨ha y hy,.inl hy⟩,by simp,by simp⟩⟩
 | x :: c,acc,hc,hn,ha=>by
  have hx:=hc x List.mem_cons_self
  have hc':aL n c:=fun y hy=>hc y (List.mem_cons_of_mem _ hy)
  unfold lft
  by_cases e:kn K x=x
  ·rw [if_pos e]
   exact ⟨fun _=>⟨x,List.mem_cons_self,e⟩,by simp⟩
  ·rw [if_neg e]
   by_cases e2:kn K x=0/\x ∉ acc
   ·rw [if_pos e2]
    have hn':(acc ++ [x]).Nodup:=by
     rw [List.nodup_append]
     refine ⟨hn,by simp,fun a ha b hb e3=> ?_⟩
     rw [List.mem_singleton.1 hb] at e3
     exact e2.2 (e3 ▸ ha)
    obtain ⟨i1,i2⟩:=qD hK hc' hn' (fun y hy=>by
     rcases List.mem_append.1 hy with hy | hy
     ·exact ha y hy
     ·rw [List.mem_singleton.1 hy];exact e2.1)
    refine ⟨fun h=> ?_,fun l hl=> ?_⟩
    ·obtain ⟨y,hy,h3⟩:=i1 h;exact ⟨y,List.mem_cons_of_mem _ hy,h3⟩
    ·obtain ⟨a,b,d,f,g⟩:=i2 l hl
     refine ⟨a,fun y hy=>b y (List.mem_append_left _ hy),fun y hy=>⟨(d y hy).1,?_⟩,fun y hy=> ?_,by simp at g ⊢;omega⟩
     ·rcases (d y hy).2 with h3 | h3
      ·rcases List.mem_append.1 h3 with h3 | h3
       ·exact .inl h3
       ·rw [List.mem_singleton.1 h3];exact .inr List.mem_cons_self
      ·exact .inr (List.mem_cons_of_mem _ h3)
     ·rcases List.mem_cons.1 hy with rfl | hy
      ·exact .inl (b _ (List.mem_append_right _ (by simp)))
      ·exact f y hy
   ·rw [if_neg e2]
    obtain ⟨i1,i2⟩:=qD hK hc' hn ha
    refine ⟨fun h=> ?_,fun l hl=> ?_⟩
    ·obtain ⟨y,hy,h3⟩:=i1 h;exact ⟨y,List.mem_cons_of_mem _ hy,h3⟩
    ·obtain ⟨a,b,d,f,g⟩:=i2 l hl
     refine ⟨a,b,fun y hy=>⟨(d y hy).1,(d y hy).2.imp id (List.mem_cons_of_mem _)⟩,fun y hy=> ?_,by simp at g ⊢;omega⟩
     rcases List.mem_cons.1 hy with rfl | hy
     ·rcases hK.cases y with h3 | h3 | h3
      ·exact .inl (b y (Decidable.byContradiction fun h4=>e2 ⟨h3,h4⟩))
      ·exact absurd h3 e
      ·exact .inr h3
     ·exact f y hy
theorem aNd {n:Nat} {K c:List Int} (hK:Tb n K) (hc:aL n c) (h:lft K [] c=none) : ∃ y∈c,kn K y=y:=(qD hK hc (by simp) (by simp)).1 h
theorem mT {n:Nat} {K c l:List Int} (hK:Tb n K) (hc:aL n c) (h:lft K [] c=some l):l.Nodup/\(∀ y∈l,kn K y=0/\y∈c)/\(∀ y∈c,y∈l∨kn K y = -y)/\l.length<=c.length:=by
 obtain ⟨a,-,d,f,g⟩:=(qD hK hc (by simp) (by simp)).2 l h
 exact ⟨a,fun y hy=>⟨(d y hy).1,(d y hy).2.resolve_left (by simp)⟩,f,by simpa using g⟩
theorem jJ {F:List (List Int)} {c:List Int} : ∀ d∈F,d∈F ++ [c]:=fun _ h=>List.mem_append_left _ h
theorem Rep.more {F G:List (List Int)} {K:List Int} {C:List (List Int)} {c:List Int} (h:Rep F G K C):Rep F (G ++ [c]) K C:=
 ⟨h.fwd,fun d hd=>by obtain ⟨e,he,hr⟩:=h.back d hd;exact ⟨e,jJ e he,hr⟩⟩
theorem Rep.also {F G:List (List Int)} {K:List Int} {C:List (List Int)} {c:List Int} (h:Rep F G K C) {y:Int} (hy:y∈c) (e:kn K y=y):Rep (F ++ [c]) G K C:=
 ⟨fun d hd=>by
  rcases List.mem_append.1 hd with hd | hd
  ·exact h.fwd d hd
  ·rw [List.mem_singleton.1 hd];exact .inl ⟨y,hy,e⟩,h.back⟩
theorem Rep.ext {n:Nat} {F G:List (List Int)} {K K':List Int} {C:List (List Int)} (hF : ∀ c∈F,aL n c) (hG : ∀ c∈G,aL n c) (h:Rep F G K C) (he:Ext K K'):Rep F G K' C:=
 ⟨fun c hc=>(h.fwd c hc).imp (fun ⟨y,hy,e⟩=>⟨y,hy,he.pos (hF c hc y hy).1 e⟩) (fun ⟨d,hd,hr⟩=>⟨d,hd,hr.ext (hF c hc) he⟩),fun d hd=>by
  obtain ⟨c,hc,hr⟩:=h.back d hd
  exact ⟨c,hc,hr.ext (hG c hc) he⟩⟩
theorem lP {F:List (List Int)} {c:List Int} (h:bJ F []):bJ (F ++ [c]) []:=h.more jJ (by simp)
theorem XI.skip {n:Nat} {F:List (List Int)} {fl:Bool} {K c:List Int} {C:List (List Int)} {W:List (List Nat)} (h:XI n F fl K C W) (hc:aL n c) (hl:lft K [] c=none):XI n (F ++ [c]) fl K C W:=by
 obtain ⟨y,hy,e⟩:=aNd h.tb hc hl
 refine ⟨h.tb,h.ws,fun hf=> ?_,fun hf=>lP (h.no hf)⟩
 obtain ⟨h1,h2,h3⟩:=h.ok hf
 exact ⟨fun x hx e=>(h1 x hx e).more jJ (by simp),h2,h3.more.also hy e⟩
theorem XI.empty {n:Nat} {F:List (List Int)} {fl:Bool} {K c:List Int} {C:List (List Int)} {W:List (List Nat)} (h:XI n F fl K C W) (hc:aL n c) (hl:lft K [] c=some []):XI n (F ++ [c]) true K C W:=by
 refine ⟨h.tb,h.ws,by simp,fun _=> ?_⟩
 cases fl with
 | true=>exact lP (h.no rfl)
 | false=>
  obtain ⟨-,-,h3,-⟩:=mT h.tb hc hl
  refine .inr ⟨c,by simp,fun y hy=> ?_⟩
  have e:=(h3 y hy).resolve_left (by simp)
  have hy0:=(hc y hy).1
  exact ((h.ok rfl).1 (-y) (by omega) (by rw [zD];exact e)).more jJ (by simp)
theorem XI.failed {n:Nat} {F:List (List Int)} {K c:List Int} {C:List (List Int)} {W:List (List Nat)} (h:XI n F true K C W):XI n (F ++ [c]) true K C W:=
 ⟨h.tb,h.ws,by simp,fun _=>lP (h.no rfl)⟩
theorem XI.one {n:Nat} {F:List (List Int)} {K c:List Int} {C:List (List Int)} {W:List (List Nat)} {x:Int} (h:XI n F false K C W) (hc:aL n c) (hl:lft K [] c=some [x]) :
  iX n F (F ++ [c]) [] K K [] 0 C W/\Lit n x/\Der (F ++ [c]) [] x:=by
 obtain ⟨h1,h2,h3⟩:=h.ok rfl
 obtain ⟨-,l2,l3,-⟩:=mT h.tb hc hl
 have hxc:=(l2 x (by simp)).2
 have hd : ∀ y,y≠0->kn K y=y->Der (F ++ [c]) [] y:=fun y hy e=>(h1 y hy e).more jJ (by simp)
 refine ⟨⟨⟨h.tb,hd,Ext.refl K,by simp,by simpa using aDt h.tb⟩,Nat.zero_le _,h.ws,h2,h3.more,fun c hc=>(h2 c hc).mono fun _ _ e=>e.elim⟩,hc x hxc,.unit (by simp) hxc fun y hy hne=> ?_⟩
 have e:=(l3 y hy).resolve_left (by simpa using hne)
 have hy0:=(hc y hy).1
 exact hd (-y) (by omega) (by rw [zD];exact e)
theorem XI.oneDone {n:Nat} {F:List (List Int)} {K K' L c:List Int} {C C':List (List Int)} {W W':List (List Nat)} {x:Int} (h:XI n F false K C W) (hF : ∀ c∈F,aL n c) (hc:aL n c) (hl:lft K [] c=some [x]) (hd:iX n F (F ++ [c]) [] K K' L L.length C' W') (hx:kn K' x=x):XI n (F ++ [c]) false K' C' W':=by
 obtain ⟨-,l2,-,-⟩:=mT h.tb hc hl
 have hG : ∀ d∈F ++ [c],aL n d:=fun d hd=>by
  rcases List.mem_append.1 hd with hd | hd
  ·exact hF d hd
  ·rw [List.mem_singleton.1 hd];exact hc
 exact ⟨hd.sk.tb,hd.ws,fun _=>⟨hd.sk.der,hd.done,(hd.rep.ext hF hG hd.sk.ext).also (l2 x (by simp)).2 hx⟩,by simp⟩
theorem XI.oneFails {n:Nat} {F:List (List Int)} {K K' L c:List Int} {C':List (List Int)} {W':List (List Nat)} (hd:aAq n F (F ++ [c]) [] K K' L C' W'):XI n (F ++ [c]) true K' C' W':=
 ⟨hd.sk.tb,hd.ws,by simp,fun _=>hd.fails⟩
theorem XI.lay {n:Nat} {F:List (List Int)} {fl:Bool} {K c l:List Int} {C:List (List Int)} {W:List (List Nat)} (h:XI n F fl K C W) (hc:aL n c) (hl:lft K [] c=some l) (h2:2<=l.length) :
  XI n (F ++ [c]) fl K (C ++ [l]) (cD n (cD n W (w0 l) C.length) (w1 l) C.length):=by
 obtain ⟨l1,l2,l3,-⟩:=mT h.tb hc hl
 have ht:Two n l:=⟨h2,fun y hy=>hc y (l2 y hy).2,l1⟩
 have z0:=ht.lits _ ht.mem0
 have z1:=ht.lits _ ht.mem1
 have hne:=ht.ne
 have hi0:((n:Int)+w0 l).toNat<W.length:=by rw [h.ws.len];have:=z0.2;omega
 have hW1:(cD n W (w0 l) C.length).length=2*n+1:=by simp [cD,h.ws.len]
 have hi1:((n:Int)+w1 l).toNat<(cD n W (w0 l) C.length).length:=by rw [hW1];have:=z1.2;omega
 have hd01:((n:Int)+w0 l).toNat≠((n:Int)+w1 l).toNat:=by have:=z0.2;have:=z1.2;omega
 have hrow : ∀ i,(cD n (cD n W (w0 l) C.length) (w1 l) C.length).getD i []=if i=((n:Int)+w1 l).toNat∨i=((n:Int)+w0 l).toNat then W.getD i [] ++ [C.length] else W.getD i []:=by
  intro i
  unfold cD at hi1 ⊢
  rw [dL _ _ _ _ hi1]
  by_cases e1:i=((n:Int)+w1 l).toNat
  ·rw [if_pos e1,if_pos (.inl e1),dL _ _ _ _ hi0,if_neg (Ne.symm hd01),e1]
  ·rw [if_neg e1,dL _ _ _ _ hi0]
   by_cases e0:i=((n:Int)+w0 l).toNat
   ·rw [if_pos e0,if_pos (.inr e0),e0]
   ·rw [if_neg e0,if_neg (by rintro (h | h)<;>contradiction)]
 have hlt : ∀ i,∀ p∈W.getD i [],(∃ z,Lit n z/\i=((n:Int)+z).toNat)->p<C.length:=by
  rintro i p hp ⟨z,hz,rfl⟩
  obtain ⟨d,hd,-⟩:=(h.ws.iff z hz p).1 hp
  exact (List.getElem?_eq_some_iff.1 hd).1
 refine ⟨h.tb,⟨by simp [cD,h.ws.len],fun d hd=> ?_,fun i=> ?_,fun z hz p=> ?_⟩,fun hf=> ?_,fun hf=>lP (h.no hf)⟩
 ·rcases List.mem_append.1 hd with hd | hd
  ·exact h.ws.two d hd
  ·rw [List.mem_singleton.1 hd];exact ht
 ·rw [hrow]
  split
  ·rename_i hi
   rw [List.nodup_append]
   refine ⟨h.ws.nodup i,by simp,fun a ha b hb e=> ?_⟩
   rw [List.mem_singleton.1 hb] at e
   have:=hlt i a ha (hi.elim (fun hi=>⟨_,z1,hi⟩) fun hi=>⟨_,z0,hi⟩)
   omega
  ·exact h.ws.nodup i
 ·rw [hrow]
  have hzi:(((n:Int)+z).toNat=((n:Int)+w1 l).toNat∨((n:Int)+z).toNat=((n:Int)+w0 l).toNat)↔(w0 l=z∨w1 l=z):=by
   have:=hz.2;have:=z0.2;have:=z1.2
   constructor
   ·rintro (e | e)
    ·right;omega
    ·left;omega
   ·rintro (e | e)
    ·right;rw [e]
    ·left;rw [e]
  have old:=h.ws.iff z hz p
  have new:(∃ c,(C ++ [l])[p]? = some c/\(w0 c=z∨w1 c=z))↔(∃ c,C[p]? = some c/\(w0 c=z∨w1 c=z))∨(p=C.length/\(w0 l=z∨w1 l=z)):=by
   constructor
   ·rintro ⟨d,hd,he⟩
    by_cases hpl:p<C.length
    ·rw [List.getElem?_append_left hpl] at hd
     exact .inl ⟨d,hd,he⟩
    ·have hp2:p=C.length:=by
      have:=(List.getElem?_eq_some_iff.1 hd).1
      simp at this;omega
     rw [hp2,List.getElem?_append_right (Nat.le_refl _),Nat.sub_self] at hd
     cases hd
     exact .inr ⟨hp2,he⟩
   ·rintro (⟨d,hd,he⟩ | ⟨rfl,he⟩)
    ·exact ⟨d,by rw [List.getElem?_append_left (List.getElem?_eq_some_iff.1 hd).1];exact hd,he⟩
    ·exact ⟨l,by simp,he⟩
  rw [new,← old]
  by_cases e:w0 l=z∨w1 l=z
  ·rw [if_pos (hzi.2 e),List.mem_append,List.mem_singleton]
   constructor
   ·rintro (h3 | h3)
    ·exact .inl h3
    ·exact .inr ⟨h3,e⟩
   ·rintro (h3 | h3)
    ·exact .inl h3
    ·exact .inr h3.1
  ·rw [if_neg (fun h3=>e (hzi.1 h3))]
   exact ⟨.inl,fun h3=>h3.resolve_right fun h4=>e h4.2⟩
 ·obtain ⟨h1,h2',h3⟩:=h.ok hf
  refine ⟨fun x hx e=>(h1 x hx e).more jJ (by simp),fun d hd=> ?_,fun d hd=> ?_,fun d hd=> ?_⟩
  ·rcases List.mem_append.1 hd with hd | hd
   ·exact h2' d hd
   ·rw [List.mem_singleton.1 hd]
    refine ⟨fun e=> ?_,fun e=> ?_⟩
    ·rw [(l2 _ ht.mem0).1] at e;have:=z0.1;omega
    ·rw [(l2 _ ht.mem1).1] at e;have:=z1.1;omega
  ·rcases List.mem_append.1 hd with hd | hd
   ·exact (h3.fwd d hd).imp id fun ⟨e,he,hr⟩=>⟨e,List.mem_append_left _ he,hr⟩
   ·rw [List.mem_singleton.1 hd]
    exact .inr ⟨l,by simp,fun y hy=>(l2 y hy).2,l3⟩
  ·rcases List.mem_append.1 hd with hd | hd
   ·obtain ⟨e,he,hr⟩:=h3.back d hd
    exact ⟨e,jJ e he,hr⟩
   ·rw [List.mem_singleton.1 hd]
    exact ⟨c,by simp,fun y hy=>(l2 y hy).2,l3⟩
end Go.Proofs.YthaaaecmeafofaaGreatDoor.Cn
namespace Go.Proofs.YthaaaecmeafofaaGreatDoor.Cn
open Go.RowKit
def eE (S:Nat->Prop) (w:World) (F:List (List Int)) (v:Value):Prop:=
 (F = []/\∃ p cap,v=.slice p 0 cap)∨∃ (b off cap:Nat),v=.slice (some ⟨b,off,none⟩) F.length cap/\(S b/\F.length<=cap)/\F.length<=9223372036854775807/\
  ∀ (j:Nat) (c:List Int),F[j]? = some c->∃ cv:Value,w.cell? ⟨b,off+j,none⟩=some cv/\aH S w c cv
theorem eE.mono {S S':Nat->Prop} {w w':World} (hw : ∀ p:Addr,S p.block->w'.cell? p=w.cell? p) (hS : ∀ b,S b->S' b) {F:List (List Int)} {v:Value} (h:eE S w F v):eE S' w' F v:=by
 rcases h with h | ⟨b,off,cap,h1,h2,h3,h4⟩
 ·exact Or.inl h
 ·refine Or.inr ⟨b,off,cap,h1,⟨hS _ h2.1,h2.2⟩,h3,fun j c hc=> ?_⟩
  obtain ⟨cv,h5,h6⟩:=h4 j c hc
  exact ⟨cv,(hw ⟨b,off+j,none⟩ h2.1).trans h5,h6.mono hw hS⟩
theorem eE.keep {S:Nat->Prop} {B:Nat} {w w':World} (hS : ∀ b,S b->b<B) (k:Below B w w') {F:List (List Int)} {v:Value} (h:eE S w F v):eE S w' F v:=h.mono (bG hS k) fun _ h=>h
theorem eE.len {S:Nat->Prop} {w:World} {F:List (List Int)} {v:Value} (h:eE S w F v) : ∃ p cap,v=.slice p F.length cap/\F.length<=9223372036854775807:=by
 rcases h with ⟨rfl,p,cap,rfl⟩ | ⟨b,off,cap,rfl,-,h,-⟩
 ·exact ⟨p,cap,rfl,by simp⟩
 ·exact ⟨_,cap,rfl,h⟩
theorem aH.shape {S:Nat->Prop} {w:World} {zs:List Int} {v:Value} (h:aH S w zs v) : ∃ p cap,v=.slice p zs.length cap/\zs.length<=9223372036854775807:=by
 obtain ⟨p,cap,h1,h2,-⟩:=h
 exact ⟨p,cap,h1,h2⟩
theorem eE.get {S:Nat->Prop} {w:World} {F:List (List Int)} {v:Value} (h:eE S w F v) {k:Nat} (hk:k<F.length) : ∃ b off cap cp cc,v=.slice (some ⟨b,off,none⟩) F.length cap/\S b/\F.length<=9223372036854775807/\
  w.cell? ⟨b,off+k,none⟩=some (.slice cp F[k].length cc)/\aH S w F[k] (.slice cp F[k].length cc)/\F[k].length<=9223372036854775807:=by
 rcases h with ⟨rfl,-⟩ | ⟨b,off,cap,rfl,h2,h3,h4⟩
 ·simp at hk
 ·obtain ⟨cv,h5,h6⟩:=h4 k _ (List.getElem?_eq_getElem hk)
  obtain ⟨cp,cc,rfl,h7⟩:=h6.shape
  exact ⟨b,off,cap,cp,cc,rfl,h2.1,h3,h5,h6,h7⟩
def oQ (B:Nat) (S:Nat->Prop) (v:Value) (cs:List (List Int)) (w:World):Prop:=
 ∃ vs:List Value,vs.length=cs.length/\w.ownsRow B 153 1 v cs.length vs/\∀ (i:Nat) c x,cs[i]? = some c->vs[i]? = some x->aH S w c x
theorem oQ.nil (B:Nat) (S:Nat->Prop) (w:World):oQ B S (.slice none 0 0) [] w:=⟨[],rfl,World.ownsRow_nil _ _ _ _,by simp⟩
theorem oQ.mono {B:Nat} {S S':Nat->Prop} {v:Value} {cs:List (List Int)} {w w':World} (h:oQ B S v cs w) (hv : ∀ g,v.ownBlock=some g->w'.heap[g]? = w.heap[g]?) (hS : ∀ b,S b->w'.heap[b]? = w.heap[b]? /\S' b):oQ B S' v cs w':=by
 obtain ⟨vs,h1,h2,h3⟩:=h
 exact ⟨vs,h1,cM h2 hv,fun i c x hi hx=>(h3 i c x hi hx).mono (fun p hp=>World.cell?_of_block (w:=w) (hS _ hp).1) (fun b hb=>(hS b hb).2)⟩
theorem oQ.in {B:Nat} {S:Nat->Prop} {v:Value} {cs:List (List Int)} {w:World} (h:oQ B S v cs w) {g:Nat} (hg:v.ownBlock=some g):B<=g/\g<w.heap.size:=by
 obtain ⟨vs,h1,h2,h3⟩:=h;exact bQ h2 hg
theorem oQ.cls {B:Nat} {S:Nat->Prop} {v:Value} {cs:List (List Int)} {w:World} (h:oQ B S v cs w):eE (fun b=>S b∨v.ownBlock=some b) w cs v:=by
 obtain ⟨vs,h1,⟨h2,⟨rfl,h0⟩ | ⟨g,cap,cur,rfl,e2,e3,e4,e5,e6,e7⟩⟩,h3⟩:=h
 ·exact Or.inl ⟨List.length_eq_zero_iff.1 h0,none,0,rfl⟩
 ·refine Or.inr ⟨g,0,cap,rfl,⟨Or.inr rfl,e4⟩,by unfold maxLen at e5;omega,fun j c hc=> ?_⟩
  have hj:j<cs.length:=(List.getElem?_eq_some_iff.1 hc).1
  refine ⟨vs[j],?_,(h3 j c _ hc (List.getElem?_eq_getElem (by omega))).mono (fun _ _=>rfl) fun b hb=>Or.inl hb⟩
  have hf : ∃ x,x=vs[j]/\vs[j]? = some x:=⟨_,rfl,List.getElem?_eq_getElem (by omega)⟩
  obtain ⟨x,hx,hf⟩:=hf
  rw [← hx]
  clear hx
  rw [← e7,List.getElem?_take,if_pos (by omega)] at hf
  simp only [World.cell?,e3,Nat.zero_add]
  simpa using hf
theorem oQ.shape {B:Nat} {S:Nat->Prop} {v:Value} {cs:List (List Int)} {w:World} (h:oQ B S v cs w) : ∃ p cap,v=.slice p cs.length cap:=by
 obtain ⟨p,cap,h,-⟩:=h.cls.len;exact ⟨p,cap,h⟩
end Go.Proofs.YthaaaecmeafofaaGreatDoor.Cn
