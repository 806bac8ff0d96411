/- Steps of the proof: EncVal, EncDraft, EncLits, EncRowsP, MapP, EncMem, EncClause, EncSome. -/
import Derived.Test.YthaaaecmeafofaaGreatDoorSt17
import Derived.Test.YthaaaecmeafofaaGreatDoorSt11
import Derived.Test.YthaaaecmeafofaaGreatDoorSt13
import Derived.Maps.Own
import Derived.Maps.OwnSet
import Derived.WideKeyPair
import Derived.Test.YthaaaecmeafofaaGreatDoorSt16
import Derived.Deep.RegionLaw
import Derived.Laws.AppendOwnNone
import Derived.Laws.OwnMore
import Derived.Deep.LoopGhost
set_option maxHeartbeats 16000000
set_option maxRecDepth 100000
namespace Go.Proofs.YthaaaecmeafofaaGreatDoor.Cn
def aEk (k:Nat) (b:Bool):Int:=if b then (k:Int) else -(k:Int)
structure kH (n:Nat) (F:List (List Int)) (A:List Int) (val:List Bool):Prop where
 len:val.length=n
 der : ∀ k,1<=k->k<=n->Der F A (aEk k (val.getD (k-1) false))
theorem kH.more {n:Nat} {F F':List (List Int)} {A:List Int} {val:List Bool} (h:kH n F A val) (hF : ∀ c∈F,c∈F'):kH n F' A val:=⟨h.len,fun k h1 h2=>(h.der k h1 h2).more hF fun _ h=> .told h⟩
theorem kH.lit {n:Nat} {F:List (List Int)} {A:List Int} {val:List Bool} (h:kH n F A val) {x:Int} (hx:Lit n x):(inM val x=true->Der F A x)/\(inM val x=false->Der F A (-x)):=by
 obtain ⟨h0,hn⟩:=hx
 rcases Int.lt_or_gt_of_ne h0 with hs | hs
 ·obtain ⟨k,rfl⟩ : ∃ k:Nat,x = -(k:Int):=⟨x.natAbs,by omega⟩
  have hd:=h.der k (by omega) (by omega)
  rw [aAb (by omega)]
  unfold aEk at hd
  cases hv:val.getD (k-1) false with
  | true=>rw [hv] at hd;exact ⟨fun e=>(by cases e),fun _=>by rw [Int.neg_neg];simpa using hd⟩
  | false=>rw [hv] at hd;exact ⟨fun _=>by simpa using hd,fun e=>by cases e⟩
 ·obtain ⟨k,rfl⟩ : ∃ k:Nat,x=(k:Int):=⟨x.natAbs,by omega⟩
  have hd:=h.der k (by omega) (by omega)
  rw [oR (by omega)]
  unfold aEk at hd
  cases hv:val.getD (k-1) false with
  | true=>rw [hv] at hd;exact ⟨fun _=>by simpa using hd,fun e=>by cases e⟩
  | false=>rw [hv] at hd;exact ⟨fun e=>(by cases e),fun _=>by simpa using hd⟩
theorem kH.start (F:List (List Int)) (m:List Bool):kH m.length F (chL m) m:=⟨rfl,fun k h1 h2=> .told (by
 have:=List.mem_of_getElem? (rL (m:=m) (v:=k-1) (by omega))
 unfold aEk
 cases hv:m.getD (k-1) false with
 | true=>rw [hv] at this;simp only [if_true] at this ⊢;rwa [show ((k-1:Nat):Int)+1=(k:Int) by omega] at this
 | false=>rw [hv] at this;simp only [Bool.false_eq_true,if_false] at this ⊢;rwa [show -((k-1:Nat):Int)-1 = -(k:Int) by omega] at this)⟩
theorem kH.push {n:Nat} {F:List (List Int)} {A:List Int} {val:List Bool} (h:kH n F A val) {b:Bool} (hd:Der F A (aEk (n+1) b)):kH (n+1) F A (val ++ [b]):=by
 refine ⟨by simp [h.len],fun k h1 h2=> ?_⟩
 by_cases hk:k<=n
 ·have:=h.der k h1 hk
  rwa [show (val ++ [b]).getD (k-1) false=val.getD (k-1) false by rw [List.getD_eq_getElem?_getD,List.getElem?_append_left (by rw [h.len];omega),← List.getD_eq_getElem?_getD]]
 ·obtain rfl:k=n+1:=by omega
  rwa [show (val ++ [b]).getD (n+1-1) false=b by rw [Nat.add_sub_cancel,← h.len];simp [List.getD_eq_getElem?_getD]]
theorem kH.or {n:Nat} {F:List (List Int)} {A:List Int} {val:List Bool} {l:List Int} (h:kH n F A val) (hl:aN n l) (hlong : ∃ c∈F,∀ y,y∈c↔y = -((n:Int)+1)∨y∈l) (hshort : ∀ x∈l,∃ c∈F,∀ y,y∈c↔y=(n:Int)+1∨y = -x):kH (n+1) F A (val ++ [l.any (inM val)]):=by
 refine h.push ?_
 unfold aEk
 cases ha:l.any (inM val) with
 | true=>
  obtain ⟨x,hx,hxm⟩:=List.any_eq_true.1 ha
  obtain ⟨c,hc,hcy⟩:=hshort x hx
  have hd:=(h.lit (hl x hx)).1 hxm
  simp only [if_true]
  rw [show ((n+1:Nat):Int)=(n:Int)+1 by omega]
  refine .unit hc ((hcy _).2 (.inl rfl)) fun y hy hne=> ?_
  have:=((hcy y).1 hy).resolve_left hne
  rw [this,Int.neg_neg];exact hd
 | false=>
  have hall:=List.any_eq_false.1 ha
  obtain ⟨c,hc,hcy⟩:=hlong
  simp only [Bool.false_eq_true,if_false]
  rw [show -((n+1:Nat):Int) = -((n:Int)+1) by omega]
  refine .unit hc ((hcy _).2 (.inl rfl)) fun y hy hne=> ?_
  have hyl:=((hcy y).1 hy).resolve_left hne
  exact (h.lit (hl y hyl)).2 (by simpa using hall y hyl)
theorem kH.done {n:Nat} {F:List (List Int)} {A:List Int} {val:List Bool} (h:kH n F A val) (hF : ∀ c∈F,aN n c) (hA:aN n A) (hAv : ∀ x∈A,inM val x=true) (hM : ∀ c∈F,∃ x∈c,inM val x=true) : ¬ bO F A/\jI n F A=none:=by
 refine ⟨aCt hF hA hM hAv,tE fun k h1 h2=> ?_⟩
 have:=h.der k h1 h2
 unfold aEk at this
 split at this
 ·exact .inl this
 ·exact .inr this
theorem kH.bad {n:Nat} {F:List (List Int)} {A:List Int} {val:List Bool} (h:kH n F A val) {c:List Int} (hc:c∈F) (hl:aN n c) (hno : ∀ x∈c,inM val x=false):bO F A:=
 .inr ⟨c,hc,fun y hy=>(h.lit (hl y hy)).2 (hno y hy)⟩
theorem aOm {m val:List Bool} (hv : ∀ v<m.length,val.getD v false=m.getD v false) : ∀ x∈chL m,inM val x=true:=by
 intro x hx
 obtain ⟨v,hv',rfl⟩:=List.mem_map.1 hx
 have hv':=List.mem_range.1 hv'
 have e:=hv v hv'
 cases hm:m.getD v false with
 | true=>
  simp only [if_true]
  rw [show (v:Int)+1=((v+1:Nat):Int) by omega,oR (by omega),Nat.add_sub_cancel,e,hm]
 | false=>
  simp only [Bool.false_eq_true,if_false]
  rw [show -(v:Int)-1 = -((v+1:Nat):Int) by omega,aAb (by omega),Nat.add_sub_cancel,e,hm];rfl
structure DS where
 n:Nat
 cl:List (List Int)
 pr:Int->Int->Int
def DS.clause (s:DS) (l:List Int):DS:=⟨s.n,s.cl ++ [l],s.pr⟩
def DS.someS (s:DS) (l:List Int):DS:=if l.length=1 then s else ⟨s.n+1,s.cl++l.map (fun x=> [(s.n:Int)+1,-x]) ++ [-((s.n:Int)+1) :: l],s.pr⟩
def DS.someL (s:DS) (l:List Int):Int:=if l.length=1 then l.getD 0 0 else (s.n:Int)+1
def DS.allS (s:DS) (l:List Int):DS:=s.someS (l.map fun x=> -x)
def DS.allL (s:DS) (l:List Int):Int:= -s.someL (l.map fun x=> -x)
def fA (f:Int->Int->Int) (a b x:Int):Int->Int->Int:=fun p q=>if p=a/\q=b then x else f p q
def DS.bothS (s:DS) (a b:Int):DS:=if s.pr a b=0 then ⟨(s.allS [a,b]).n,(s.allS [a,b]).cl,fA s.pr a b (s.allL [a,b])⟩ else s
def DS.bothL (s:DS) (a b:Int):Int:=if s.pr a b=0 then s.allL [a,b] else s.pr a b
def gD (but:Int) (nof:Bool) (tk fg:Int->Int) (x:DS × List Int) (z:Int):DS × List Int:=
 if z=but then x else if nof=true then (x.1,x.2 ++ [tk z]) else (x.1.bothS (tk z) (fg z),x.2 ++ [x.1.bothL (tk z) (fg z)])
def aCa (but:Int) (nof:Bool) (tk fg:Int->Int) (m:List Bool) (zs:List Int):Bool:=zs.any fun z=>decide (z≠but)&&inM m (tk z)&&(nof||inM m (fg z))
structure Sem (c:Nat) (K:List (Int × Int)) (s:DS) (V:List Bool->List Bool) (P:List Bool->Bool) (v q:Nat):Prop where
 le:c<=s.n
 pre : ∀ m,m.length=c->∀ j<c,(V m).getD j false=m.getD j false
 der : ∀ m,m.length=c->kH s.n s.cl (chL m) (V m)
 lits : ∀ x∈s.cl,aN s.n x/\x.length<=60
 may : ∀ m,m.length=c->((∀ x∈s.cl,∃ y∈x,inM (V m) y=true)↔P m=true)
 prs : ∃ ks:List (Int × Int),ks.Nodup/\(∀ k∈ks,k∈K)/\(∀ a b,s.pr a b≠0↔(a,b)∈ks)/\s.n<=v+ks.length/\s.cl.length<=q+3*ks.length
 pv : ∀ a b,s.pr a b≠0->Lit s.n (s.pr a b)/\Lit s.n a/\Lit s.n b/\∀ m,m.length=c->inM (V m) (s.pr a b)=(inM (V m) a&&inM (V m) b)
structure Gr (c:Nat) (s s':DS) (V V':List Bool->List Bool):Prop where
 n:s.n<=s'.n
 v : ∀ m,m.length=c->∀ x,Lit s.n x->inM (V' m) x=inM (V m) x
theorem Gr.refl (c:Nat) (s:DS) (V:List Bool->List Bool):Gr c s s V V:=⟨Nat.le_refl _,fun _ _ _ _=>rfl⟩
theorem Lit.le {n n':Nat} {x:Int} (h:Lit n x) (hn:n<=n'):Lit n' x:=⟨h.1,Nat.le_trans h.2 hn⟩
theorem aN.le {n n':Nat} {l:List Int} (h:aN n l) (hn:n<=n'):aN n' l:=fun x hx=>(h x hx).le hn
theorem Gr.trans {c:Nat} {s s' s'':DS} {V V' V'':List Bool->List Bool} (h:Gr c s s' V V') (h':Gr c s' s'' V' V''):Gr c s s'' V V'':=
 ⟨Nat.le_trans h.n h'.n,fun m hm x hx=>(h'.v m hm x (hx.le h.n)).trans (h.v m hm x hx)⟩
theorem Gr.any {c:Nat} {s s':DS} {V V':List Bool->List Bool} (h:Gr c s s' V V') {l:List Int} (hl:aN s.n l) {m:List Bool} (hm:m.length=c):l.any (inM (V' m))=l.any (inM (V m)):=by
 induction l with
 | nil=>rfl
 | cons x l ih=>rw [List.any_cons,List.any_cons,h.v m hm x (hl x List.mem_cons_self),ih fun y hy=>hl y (List.mem_cons_of_mem _ hy)]
theorem aFc {m m':List Bool} {n:Nat} (h : ∀ j<n,m'.getD j false=m.getD j false) {x:Int} (hx:Lit n x):inM m' x=inM m x:=by
 unfold inM
 obtain ⟨h0,hn⟩:=hx
 rw [h _ (by omega)]
theorem Sem.ch {c:Nat} {K:List (Int × Int)} {s:DS} {V:List Bool->List Bool} {P:List Bool->Bool} {v q:Nat} (h:Sem c K s V P v q) {m:List Bool} (hm:m.length=c) {x:Int} (hx:Lit c x):inM (V m) x=inM m x:=aFc (h.pre m hm) hx
theorem Sem.mono {c:Nat} {K:List (Int × Int)} {s:DS} {V:List Bool->List Bool} {P:List Bool->Bool} {v q v' q':Nat} (h:Sem c K s V P v q) (hv:v<=v') (hq:q<=q'):Sem c K s V P v' q':=by
 obtain ⟨ks,h1,h2,h3,h4,h5⟩:=h.prs
 exact ⟨h.le,h.pre,h.der,h.lits,h.may,⟨ks,h1,h2,h3,by omega,by omega⟩,h.pv⟩
theorem aNd {m:List Bool} {b:Bool} {n:Nat} (hl:m.length=n) {x:Int} (hx:Lit n x):inM (m ++ [b]) x=inM m x:=aFc (n:=n) (fun j hj=>by
 rw [List.getD_eq_getElem?_getD,List.getElem?_append_left (by omega),← List.getD_eq_getElem?_getD]) hx
theorem sP {m:List Bool} {b:Bool} {n:Nat} (hl:m.length=n):inM (m ++ [b]) ((n:Int)+1)=b:=by
 rw [show (n:Int)+1=((n+1:Nat):Int) by omega,oR (by omega),Nat.add_sub_cancel,← hl]
 simp [List.getD_eq_getElem?_getD]
theorem tD (n:Nat):Lit (n+1) ((n:Int)+1):=by unfold Lit;omega
theorem aIe (c:Nat) (K:List (Int × Int)):Sem c K ⟨c,[],fun _ _=>0⟩ id (fun _=>true) c 0:=
 ⟨Nat.le_refl _,fun _ _ _ _=>rfl,fun m hm=>by have:=kH.start [] m;rw [hm] at this;exact this,fun x hx=>by simp at hx,fun m _=>by simp,⟨[],by simp,by simp,by simp,by simp,by simp⟩,fun a b h=>absurd rfl h⟩
theorem kY {c:Nat} {K:List (Int × Int)} {s:DS} {V:List Bool->List Bool} {P:List Bool->Bool} {v q:Nat} (h:Sem c K s V P v q) {l:List Int} (hl:aN s.n l) (h60:l.length<=60) {P':List Bool->Bool} (hP : ∀ m,m.length=c->P' m=(P m&&l.any (inM (V m)))):Sem c K (s.clause l) V P' v (q+1):=by
 obtain ⟨ks,h1,h2,h3,h4,h5⟩:=h.prs
 refine ⟨h.le,h.pre,fun m hm=>(h.der m hm).more fun x hx=>List.mem_append_left _ hx,fun x hx=> ?_,fun m hm=> ?_,⟨ks,h1,h2,h3,h4,by show (s.cl ++ [l]).length<=_;simp;omega⟩,h.pv⟩
 ·rcases List.mem_append.1 hx with hx | hx
  ·exact h.lits x hx
  ·rw [List.mem_singleton.1 hx];exact ⟨hl,h60⟩
 ·rw [hP m hm,Bool.and_eq_true,← h.may m hm,List.any_eq_true]
  constructor
  ·intro H
   exact ⟨fun x hx=>H x (List.mem_append_left _ hx),H l (List.mem_append_right _ List.mem_cons_self)⟩
  ·rintro ⟨H1,H2⟩ x hx
   rcases List.mem_append.1 hx with hx | hx
   ·exact H1 x hx
   ·rw [List.mem_singleton.1 hx];exact H2
theorem mA {c:Nat} {K:List (Int × Int)} {s:DS} {V:List Bool->List Bool} {P:List Bool->Bool} {v q:Nat} (h:Sem c K s V P v q) {l:List Int} (hl:aN s.n l) (h59:l.length<=59) :
  ∃ V',Sem c K (s.someS l) V' P (v+1) (q+l.length+1)/\Gr c s (s.someS l) V V'/\Lit (s.someS l).n (s.someL l)/\∀ m,m.length=c->inM (V' m) (s.someL l)=l.any (inM (V m)):=by
 by_cases h1:l.length=1
 ·obtain ⟨x,rfl⟩ : ∃ x,l = [x]:=List.length_eq_one_iff.1 h1
  have eS:s.someS [x]=s:=by simp [DS.someS]
  have eL:s.someL [x]=x:=by simp [DS.someL]
  rw [eS,eL]
  exact ⟨V,h.mono (by omega) (by omega),Gr.refl ..,hl x List.mem_cons_self,fun m _=>by simp⟩
 ·have eS:s.someS l=⟨s.n+1,s.cl++l.map (fun x=> [(s.n:Int)+1,-x]) ++ [-((s.n:Int)+1) :: l],s.pr⟩:=by simp [DS.someS,h1]
  have eL:s.someL l=(s.n:Int)+1:=by simp [DS.someL,h1]
  rw [eS,eL]
  have hlen : ∀ m,m.length=c->(V m).length=s.n:=fun m hm=>(h.der m hm).len
  have happ : ∀ m,m.length=c->∀ x,Lit s.n x->inM (V m ++ [l.any (inM (V m))]) x=inM (V m) x:=fun m hm x hx=>aNd (hlen m hm) hx
  refine ⟨fun m=>V m ++ [l.any (inM (V m))],⟨Nat.le_succ_of_le h.le,fun m hm j hj=> ?_,fun m hm=> ?_,fun x hx=> ?_,fun m hm=> ?_,?_,fun a b hab=> ?_⟩,⟨Nat.le_succ _,happ⟩,tD _,fun m hm=>sP (hlen m hm)⟩
  ·rw [← h.pre m hm j hj,List.getD_eq_getElem?_getD,List.getElem?_append_left (by rw [hlen m hm];have:=h.le;omega),← List.getD_eq_getElem?_getD]
  ·refine ((h.der m hm).more fun x hx=>List.mem_append_left _ (List.mem_append_left _ hx)).or hl ⟨_,List.mem_append_right _ List.mem_cons_self,fun y=>by simp⟩ fun x hx=>⟨[(s.n:Int)+1,-x],List.mem_append_left _ (List.mem_append_right _ (List.mem_map.2 ⟨x,hx,rfl⟩)),fun y=>by simp⟩
  ·rcases List.mem_append.1 hx with hx | hx
   ·rcases List.mem_append.1 hx with hx | hx
    ·exact ⟨(h.lits x hx).1.le (Nat.le_succ _),(h.lits x hx).2⟩
    ·obtain ⟨z,hz,rfl⟩:=List.mem_map.1 hx
     refine ⟨fun y hy=> ?_,by simp⟩
     rcases List.mem_cons.1 hy with rfl | hy
     ·exact tD _
     ·rw [List.mem_singleton.1 hy];exact ((hl z hz).le (Nat.le_succ _)).neg
   ·rw [List.mem_singleton.1 hx]
    refine ⟨fun y hy=> ?_,by simp;omega⟩
    rcases List.mem_cons.1 hy with rfl | hy
    ·exact (tD _).neg
    ·exact (hl y hy).le (Nat.le_succ _)
  ·rw [← h.may m hm]
   constructor
   ·intro H x hx
    obtain ⟨y,hy,e⟩:=H x (List.mem_append_left _ (List.mem_append_left _ hx))
    exact ⟨y,hy,by rw [← happ m hm y ((h.lits x hx).1 y hy)];exact e⟩
   ·intro H x hx
    rcases List.mem_append.1 hx with hx | hx
    ·rcases List.mem_append.1 hx with hx | hx
     ·obtain ⟨y,hy,e⟩:=H x hx
      exact ⟨y,hy,(happ m hm y ((h.lits x hx).1 y hy)).trans e⟩
     ·obtain ⟨z,hz,rfl⟩:=List.mem_map.1 hx
      cases hb:inM (V m) z with
      | true=>exact ⟨_,List.mem_cons_self,(sP (hlen m hm)).trans (List.any_eq_true.2 ⟨z,hz,hb⟩)⟩
      | false=>exact ⟨-z,by simp,by rw [happ m hm _ (hl z hz).neg,eA _ (hl z hz).1,hb];rfl⟩
    ·rw [List.mem_singleton.1 hx]
     cases hb:l.any (inM (V m)) with
     | true=>
      obtain ⟨z,hz,e⟩:=List.any_eq_true.1 hb
      exact ⟨z,List.mem_cons_of_mem _ hz,by have:=happ m hm z (hl z hz);rw [hb] at this;exact this.trans e⟩
     | false=>exact ⟨_,List.mem_cons_self,by rw [eA _ (by omega),sP (hlen m hm)];rfl⟩
  ·obtain ⟨ks,h1,h2,h3,h4,h5⟩:=h.prs
   exact ⟨ks,h1,h2,h3,by show s.n+1<=_;omega,by simp;omega⟩
  ·obtain ⟨g1,g2,g3,g4⟩:=h.pv a b hab
   exact ⟨g1.le (Nat.le_succ _),g2.le (Nat.le_succ _),g3.le (Nat.le_succ _),fun m hm=>by rw [happ m hm _ g1,happ m hm _ g2,happ m hm _ g3];exact g4 m hm⟩
theorem aEu {m:List Bool} : ∀ {l:List Int},(∀ x∈l,x≠0)->(l.map fun x=> -x).any (inM m) = !l.all (inM m)
 | [],_=>rfl
 | x :: l,h=>by
  rw [List.map_cons,List.any_cons,List.all_cons,aEu fun y hy=>h y (List.mem_cons_of_mem _ hy),eA _ (h x List.mem_cons_self),Bool.not_and]
theorem aKp {n:Nat} {l:List Int} (h:aN n l):aN n (l.map fun x=> -x):=fun x hx=>by
 obtain ⟨y,hy,rfl⟩:=List.mem_map.1 hx;exact (h y hy).neg
theorem aFv {c:Nat} {K:List (Int × Int)} {s:DS} {V:List Bool->List Bool} {P:List Bool->Bool} {v q:Nat} (h:Sem c K s V P v q) {l:List Int} (hl:aN s.n l) (h59:l.length<=59) :
  ∃ V',Sem c K (s.allS l) V' P (v+1) (q+l.length+1)/\Gr c s (s.allS l) V V'/\Lit (s.allS l).n (s.allL l)/\∀ m,m.length=c->inM (V' m) (s.allL l)=l.all (inM (V m)):=by
 obtain ⟨V',h1,h2,h3,h4⟩:=mA h (aKp hl) (by simpa using h59)
 rw [List.length_map] at h1
 refine ⟨V',h1,h2,h3.neg,fun m hm=> ?_⟩
 show inM (V' m) (-s.someL _)=_
 rw [eA _ h3.1,h4 m hm,aEu fun x hx=>(hl x hx).1,Bool.not_not]
theorem aLl {c:Nat} {K:List (Int × Int)} {s:DS} {V:List Bool->List Bool} {P:List Bool->Bool} {v q:Nat} (h:Sem c K s V P v q) {a b:Int} (ha:Lit s.n a) (hb:Lit s.n b) (hK:(a,b)∈K) :
  ∃ V',Sem c K (s.bothS a b) V' P v q/\Gr c s (s.bothS a b) V V'/\Lit (s.bothS a b).n (s.bothL a b)/\∀ m,m.length=c->inM (V' m) (s.bothL a b)=(inM (V m) a&&inM (V m) b):=by
 by_cases h0:s.pr a b=0
 ·have hl:aN s.n [a,b]:=fun x hx=>by
   rcases List.mem_cons.1 hx with rfl | hx
   ·exact ha
   ·rw [List.mem_singleton.1 hx];exact hb
  obtain ⟨V',h1,h2,h3,h4⟩:=aFv h hl (by simp)
  have e4 : ∀ m,m.length=c->inM (V' m) (s.allL [a,b])=(inM (V m) a&&inM (V m) b):=fun m hm=>by rw [h4 m hm];simp
  have eS:s.bothS a b=⟨(s.allS [a,b]).n,(s.allS [a,b]).cl,fA s.pr a b (s.allL [a,b])⟩:=by simp [DS.bothS,h0]
  have eL:s.bothL a b=s.allL [a,b]:=by simp [DS.bothL,h0]
  have epr:(s.allS [a,b]).pr=s.pr:=by simp [DS.allS,DS.someS]
  rw [eS,eL]
  obtain ⟨ks,g1,g2,g3,g4,g5⟩:=h1.prs
  rw [epr] at g3
  have hnot:(a,b) ∉ ks:=fun hin=>(g3 a b).2 hin h0
  refine ⟨V',⟨h1.le,h1.pre,h1.der,h1.lits,h1.may,⟨(a,b) :: ks,List.nodup_cons.2 ⟨hnot,g1⟩,fun k hk=> ?_,fun p r=> ?_,by simp only [List.length_cons] at *;omega,by simp only [List.length_cons,List.length_nil] at *;omega⟩,fun p r hpr=> ?_⟩,⟨h2.n,h2.v⟩,h3,e4⟩
  ·rcases List.mem_cons.1 hk with rfl | hk
   ·exact hK
   ·exact g2 k hk
  ·show fA s.pr a b (s.allL [a,b]) p r≠0↔_
   unfold fA
   rw [List.mem_cons,Prod.mk.injEq]
   by_cases e:p=a/\r=b
   ·rw [if_pos e];exact ⟨fun _=> .inl e,fun _=>h3.1⟩
   ·rw [if_neg e,g3 p r];exact ⟨.inr,fun hh=>hh.resolve_left e⟩
  ·show Lit _ (fA s.pr a b (s.allL [a,b]) p r)/\_/\_/\∀ m,_->inM (V' m) (fA s.pr a b (s.allL [a,b]) p r)=_
   have hpr:fA s.pr a b (s.allL [a,b]) p r≠0:=hpr
   unfold fA at hpr ⊢
   by_cases e:p=a/\r=b
   ·rw [if_pos e]
    obtain ⟨rfl,rfl⟩:=e
    exact ⟨h3,ha.le h2.n,hb.le h2.n,fun m hm=>by rw [e4 m hm,h2.v m hm _ ha,h2.v m hm _ hb]⟩
   ·rw [if_neg e] at hpr ⊢
    have:=h1.pv p r (by rw [epr];exact hpr)
    rw [epr] at this
    exact this
 ·have eS:s.bothS a b=s:=by simp [DS.bothS,h0]
  have eL:s.bothL a b=s.pr a b:=by simp [DS.bothL,h0]
  rw [eS,eL]
  obtain ⟨g1,-,-,g4⟩:=h.pv a b h0
  exact ⟨V,h,Gr.refl ..,g1,g4⟩
theorem rU {c:Nat} {K:List (Int × Int)} {P:List Bool->Bool} {v q:Nat} {but:Int} {nof:Bool} {tk fg:Int->Int} : ∀ {zs:List Int} {s:DS} {acc:List Int} {V:List Bool->List Bool},Sem c K s V P v q->aN s.n acc->(∀ z∈zs,Lit c (tk z)/\(nof=false->Lit c (fg z)/\(tk z,fg z)∈K))->
  ∃ V',Sem c K (zs.foldl (gD but nof tk fg) (s,acc)).1 V' P v q/\Gr c s (zs.foldl (gD but nof tk fg) (s,acc)).1 V V'/\aN (zs.foldl (gD but nof tk fg) (s,acc)).1.n (zs.foldl (gD but nof tk fg) (s,acc)).2/\(zs.foldl (gD but nof tk fg) (s,acc)).2.length<=acc.length+zs.length/\
   ∀ m,m.length=c->(zs.foldl (gD but nof tk fg) (s,acc)).2.any (inM (V' m))=(acc.any (inM (V m))||aCa but nof tk fg m zs)
 | [],s,acc,V,h,hacc,_=>⟨V,h,Gr.refl ..,hacc,by simp,fun m _=>by simp [aCa]⟩
 | z :: zs,s,acc,V,h,hacc,hz=>by
  have hz' : ∀ y∈zs,Lit c (tk y)/\(nof=false->Lit c (fg y)/\(tk y,fg y)∈K):=fun y hy=>hz y (List.mem_cons_of_mem _ hy)
  obtain ⟨k1,k2⟩:=hz z List.mem_cons_self
  rw [List.foldl_cons]
  have hB : ∀ m,aCa but nof tk fg m (z :: zs)=((decide (z≠but)&&inM m (tk z)&&(nof||inM m (fg z)))||aCa but nof tk fg m zs):=fun m=>by unfold aCa;rw [List.any_cons]
  by_cases e:z=but
  ·have eF:gD but nof tk fg (s,acc) z=(s,acc):=by simp [gD,e]
   rw [eF]
   obtain ⟨V',i1,i2,i3,i4,i5⟩:=rU h hacc hz'
   refine ⟨V',i1,i2,i3,by simp;omega,fun m hm=> ?_⟩
   rw [i5 m hm,hB]
   simp [e]
  ·by_cases en:nof=true
   ·have eF:gD but nof tk fg (s,acc) z=(s,acc ++ [tk z]):=by simp [gD,e,en]
    rw [eF]
    have hacc':aN s.n (acc ++ [tk z]):=fun x hx=>by
     rcases List.mem_append.1 hx with hx | hx
     ·exact hacc x hx
     ·rw [List.mem_singleton.1 hx];exact k1.le h.le
    obtain ⟨V',i1,i2,i3,i4,i5⟩:=rU h hacc' hz'
    refine ⟨V',i1,i2,i3,by simp at i4 ⊢;omega,fun m hm=> ?_⟩
    rw [i5 m hm,hB,List.any_append,List.any_cons,List.any_nil,h.ch hm k1]
    simp [e,en,Bool.or_assoc]
   ·have en:nof=false:=by simpa using en
    obtain ⟨k3,k4⟩:=k2 en
    have eF:gD but nof tk fg (s,acc) z=(s.bothS (tk z) (fg z),acc ++ [s.bothL (tk z) (fg z)]):=by simp [gD,e,en]
    rw [eF]
    obtain ⟨V1,j1,j2,j3,j4⟩:=aLl h (k1.le h.le) (k3.le h.le) k4
    have hacc':aN (s.bothS (tk z) (fg z)).n (acc ++ [s.bothL (tk z) (fg z)]):=fun x hx=>by
     rcases List.mem_append.1 hx with hx | hx
     ·exact (hacc x hx).le j2.n
     ·rw [List.mem_singleton.1 hx];exact j3
    obtain ⟨V',i1,i2,i3,i4,i5⟩:=rU j1 hacc' hz'
    refine ⟨V',i1,j2.trans i2,i3,by simp at i4 ⊢;omega,fun m hm=> ?_⟩
    rw [i5 m hm,hB,List.any_append,List.any_cons,List.any_nil,j2.any hacc hm,j4 m hm,h.ch hm k1,h.ch hm k3]
    simp [e,en,Bool.or_assoc]
theorem vW : ∀ {ks K:List (Int × Int)},ks.Nodup->(∀ k∈ks,k∈K)->ks.length<=K.length
 | [],_,_,_=>by simp
 | k :: ks,K,hn,h=>by
  obtain ⟨h1,h2⟩:=List.nodup_cons.1 hn
  have hk:=h k List.mem_cons_self
  have:=vW (K:=K.erase k) h2 fun x hx=>(List.mem_erase_of_ne (fun e=>h1 (by rw [← e];exact hx))).2 (h x (List.mem_cons_of_mem _ hx))
  rw [List.length_erase_of_mem hk] at this
  have:0<K.length:=List.length_pos_of_mem hk
  simp
  omega
theorem Sem.size {c:Nat} {K:List (Int × Int)} {s:DS} {V:List Bool->List Bool} {P:List Bool->Bool} {v q:Nat} (h:Sem c K s V P v q):s.n<=v+K.length/\s.cl.length<=q+3*K.length:=by
 obtain ⟨ks,h1,h2,-,h4,h5⟩:=h.prs
 have:=vW h1 h2
 omega
theorem Sem.ok {c:Nat} {K:List (Int × Int)} {s:DS} {V:List Bool->List Bool} {P:List Bool->Bool} {v q:Nat} (h:Sem c K s V P v q):yN s.n c s.cl P:=by
 intro m hm
 have hA:aN s.n (chL m):=fun x hx=>(aJs m x hx).le (by rw [hm];exact h.le)
 have hAv : ∀ x∈chL m,inM (V m) x=true:=aOm fun v hv=>h.pre m hm v (by omega)
 refine ⟨fun hp=>(h.der m hm).done (fun x hx=>(h.lits x hx).1) hA hAv ((h.may m hm).2 hp),fun hp=> ?_⟩
 have hnot : ¬ ∀ x∈s.cl,∃ y∈x,inM (V m) y=true:=fun H=>by
  have:=(h.may m hm).1 H
  rw [hp] at this;cases this
 obtain ⟨x,hx⟩:=Classical.not_forall.1 hnot
 obtain ⟨hx,hno⟩:=Classical.not_imp.1 hx
 refine (h.der m hm).bad hx (h.lits x hx).1 fun y hy=> ?_
 cases hb:inM (V m) y with
 | false=>rfl
 | true=>exact absurd ⟨y,hy,hb⟩ hno
def sg (x:Int) (b:Bool):Int:=if b=true then x else -x
theorem nU {n:Nat} {x:Int} (h:Lit n x) (b:Bool):Lit n (sg x b):=by
 unfold sg
 split
 ·exact h
 ·exact h.neg
theorem xE {m:List Bool} {x:Int} (h:x≠0) (b:Bool):inM m (sg x b)=(inM m x==b):=by
 unfold sg
 cases b with
 | true=>simp
 | false=>simp [eA m h]
theorem aFd (m:List Bool) (v:Nat):inM m ((v:Int)+1)=m.getD v false:=by
 rw [show (v:Int)+1=((v+1:Nat):Int) by omega,oR (by omega),Nat.add_sub_cancel]
def CT.tkL (c:CT) (i:Nat):Int:=sg ((c.order.idxOf i:Int)+1) (!c.ins.contains i)
def CT.fgL (c:CT) (i k:Nat):Int:=sg (((c.base i+k:Nat):Int)+1) (!c.on i k)
theorem CT.tk_in (c:CT) (m:List Bool) (i:Nat):inM m (c.tkL i)=c.takes m i:=by
 unfold CT.tkL CT.takes
 rw [xE (by omega),aFd]
 cases m.getD (c.order.idxOf i) false<;>cases c.ins.contains i<;>rfl
theorem CT.fg_in (c:CT) (m:List Bool) (i k:Nat):inM m (c.fgL i k)=(m.getD (c.base i+k) false != c.on i k):=by
 unfold CT.fgL
 rw [xE (by omega),aFd]
 cases m.getD (c.base i+k) false<;>cases c.on i k<;>rfl
theorem CT.tk_lit {c:CT} (h:c.Ok) {i:Nat} (hi:i<c.nf.length):Lit c.many (c.tkL i):=by
 have h1:=List.idxOf_lt_length_iff.2 ((CT.order_mem h i).2 hi)
 rw [CT.order_len h] at h1
 refine nU ?_ _
 unfold Lit CT.many
 omega
theorem mC : ∀ (l:List Nat) (i k:Nat),i<l.length->k<l.getD i 0->(l.take i).sum+k<l.sum
 | [],i,k,h,_=>by simp at h
 | a :: l,0,k,_,hk=>by simp at hk ⊢;omega
 | a :: l,i+1,k,h,hk=>by
  have:=mC l i k (by simpa using h) (by simpa using hk)
  simp
  omega
theorem CT.fg_lit (c:CT) {i k:Nat} (hi:i<c.nf.length) (hk:k<c.nf.getD i 0):Lit c.many (c.fgL i k):=by
 have:=mC c.nf i k hi hk
 refine nU ?_ _
 unfold Lit CT.many CT.base
 omega
def CT.keys (c:CT):List (Int × Int):=(List.range c.nf.length).flatMap fun i=>(List.range (c.nf.getD i 0)).flatMap fun k=> [(c.tkL i,c.fgL i k),(c.tkL i,-c.fgL i k)]
theorem CT.keys_mem (c:CT) {i k:Nat} (hi:i<c.nf.length) (hk:k<c.nf.getD i 0) (b:Bool):(c.tkL i,sg (c.fgL i k) b)∈c.keys:=by
 unfold CT.keys
 refine List.mem_flatMap.2 ⟨i,List.mem_range.2 hi,List.mem_flatMap.2 ⟨k,List.mem_range.2 hk,?_⟩⟩
 unfold sg
 cases b<;>simp
theorem aMc (n:Nat) (f:Nat->Int × Int) (g:Nat->Int × Int):((List.range n).flatMap fun k=> [f k,g k]).length=2*n:=by
 induction n with
 | zero=>simp
 | succ n ih=>rw [List.range_succ,List.flatMap_append,List.length_append,ih];simp;omega
theorem aFj (c:CT) : ∀ i,i<=c.nf.length->((List.range i).flatMap fun i=>(List.range (c.nf.getD i 0)).flatMap fun k=> [(c.tkL i,c.fgL i k),(c.tkL i,-c.fgL i k)]).length=2*(c.nf.take i).sum
 | 0,_=>by simp
 | i+1,h=>by
  rw [List.range_succ,List.flatMap_append,List.length_append,aFj c i (by omega),List.take_succ_eq_append_getElem (by omega),List.sum_append,List.flatMap_cons,List.flatMap_nil,List.append_nil,aMc]
  simp [List.getD_eq_getElem?_getD,List.getElem?_eq_getElem (show i<c.nf.length by omega)]
  omega
theorem CT.keys_len (c:CT):c.keys.length=2*c.nf.sum:=by
 have:=aFj c c.nf.length (Nat.le_refl _)
 rw [List.take_length] at this
 exact this
def CT.t1 (c:CT):Nat->List Int
 | 0=>List.replicate c.nf.length 0
 | j+1=>(c.t1 j).set (c.ins.getD j 0) (-((j:Int)+1))
theorem CT.t1_len (c:CT) : ∀ j,(c.t1 j).length=c.nf.length
 | 0=>by simp [CT.t1]
 | j+1=>by rw [CT.t1,List.length_set,CT.t1_len c j]
theorem CT.t1_get {c:CT} (h:c.Ok) : ∀ j,j<=c.ins.length->∀ i,(c.t1 j).getD i 0=if (c.ins.take j).contains i=true then -((c.ins.idxOf i:Int)+1) else 0
 | 0,_,i=>by
  rw [CT.t1,List.getD_eq_getElem?_getD,List.getElem?_replicate]
  split<;>simp
 | j+1,hj,i=>by
  have hin:c.ins[j]? = some c.ins[j]:=List.getElem?_eq_getElem (by omega)
  have hg:c.ins.getD j 0=c.ins[j]:=by rw [List.getD_eq_getElem?_getD,hin];rfl
  rw [CT.t1,hg,List.take_succ_eq_append_getElem (by omega)]
  have hlt:=h.lt c.ins[j] (List.getElem_mem _)
  by_cases e:c.ins[j]=i
  ·subst e
   rw [List.getD_eq_getElem?_getD,List.getElem?_set_self (by rw [CT.t1_len];exact hlt),pT (tJ h.up) hin,if_pos (by rw [List.contains_eq_mem,decide_eq_true_eq];exact List.mem_append_right _ List.mem_cons_self)]
   rfl
  ·have e2:(c.ins.take j ++ [c.ins[j]]).contains i=(c.ins.take j).contains i:=by
    rw [Bool.eq_iff_iff]
    simp only [List.contains_eq_mem,List.mem_append,List.mem_singleton,decide_eq_true_eq]
    constructor
    ·rintro (h | h)
     ·exact h
     ·exact absurd h.symm e
    ·exact .inl
   rw [List.getD_eq_getElem?_getD,List.getElem?_set_ne e,← List.getD_eq_getElem?_getD,CT.t1_get h j (by omega) i,e2]
def CT.t2 (c:CT):Nat->List Int × Int
 | 0=>(c.t1 c.ins.length,(c.ins.length:Int))
 | k+1=>if (c.t2 k).1.getD k 0=0 then ((c.t2 k).1.set k ((c.t2 k).2+1),(c.t2 k).2+1) else c.t2 k
theorem CT.t2_len (c:CT) : ∀ k,(c.t2 k).1.length=c.nf.length
 | 0=>CT.t1_len c _
 | k+1=>by
  rw [CT.t2]
  split
  ·rw [List.length_set,CT.t2_len c k]
  ·exact CT.t2_len c k
theorem aCu (p:Nat->Bool) {n k:Nat} (hk:k<n) (hp:p k=true):((List.range n).filter p).idxOf k=((List.range k).filter p).length:=by
 have hsp:List.range n=List.range k++(k :: List.range' (k+1) (n-k-1)):=by
  rw [List.range_eq_range',List.range_eq_range',← List.range'_succ,show n-k-1+1=n-k by omega]
  have:= @List.range'_append_1 0 k (n-k)
  rw [Nat.zero_add,show k+(n-k)=n by omega] at this
  exact this.symm
 rw [hsp,List.filter_append,List.filter_cons_of_pos hp,List.idxOf_append,if_neg (fun h=>by have:=List.mem_range.1 (List.mem_filter.1 h).1;omega),List.idxOf_cons_self]
 omega
theorem CT.tk_other {c:CT} {k:Nat} (hk:k<c.nf.length) (hn:c.ins.contains k=false):c.tkL k=((c.ins.length+((List.range k).filter fun i=> !c.ins.contains i).length:Nat):Int)+1:=by
 unfold CT.tkL CT.order sg
 have h1:k ∉ c.ins:=by simpa using hn
 rw [hn,Bool.not_false,if_pos rfl,List.idxOf_append,if_neg h1,aCu (fun i=> !c.ins.contains i) hk (by rw [hn];rfl)]
 omega
theorem CT.tk_ins {c:CT} {k:Nat} (hn:c.ins.contains k=true):c.tkL k = -((c.ins.idxOf k:Int)+1):=by
 unfold CT.tkL CT.order sg
 have h1:k∈c.ins:=by simpa using hn
 rw [hn,Bool.not_true,if_neg (by decide),List.idxOf_append,if_pos h1]
theorem CT.t2_get {c:CT} (h:c.Ok) : ∀ k,k<=c.nf.length->(c.t2 k).2=((c.ins.length+((List.range k).filter fun i=> !c.ins.contains i).length:Nat):Int)/\∀ i,i<c.nf.length->(c.t2 k).1.getD i 0=if i<k∨c.ins.contains i=true then c.tkL i else 0
 | 0,_=>⟨by simp [CT.t2],fun i hi=>by
   rw [CT.t2]
   show (c.t1 c.ins.length).getD i 0=_
   rw [CT.t1_get h _ (Nat.le_refl _),List.take_length]
   by_cases e:c.ins.contains i=true
   ·rw [if_pos e,if_pos (.inr e),CT.tk_ins e]
   ·rw [if_neg e,if_neg (fun h=>h.elim (by omega) e)]⟩
 | k+1,hk=>by
  obtain ⟨h1,h2⟩:=CT.t2_get h k (by omega)
  have hgk:=h2 k (by omega)
  rw [CT.t2,List.range_succ,List.filter_append]
  cases e:c.ins.contains k with
  | true=>
   rw [e,if_pos (.inr rfl)] at hgk
   have hne:c.tkL k≠0:=(CT.tk_lit h (by omega)).1
   rw [if_neg (by rw [hgk];exact hne)]
   refine ⟨by rw [h1,List.filter_cons_of_neg (by simpa using e)];simp,fun i hi=> ?_⟩
   rw [h2 i hi]
   by_cases hik:i=k
   ·subst hik;rw [if_pos (.inr e),if_pos (.inr e)]
   ·by_cases h3:i<k∨c.ins.contains i=true
    ·rw [if_pos h3,if_pos (h3.imp (by omega) id)]
    ·rw [if_neg h3,if_neg (fun h=>h3 (h.imp (by omega) id))]
  | false=>
   rw [e,if_neg (by simp)] at hgk
   rw [if_pos hgk]
   have h5:=CT.tk_other (c:=c) (k:=k) (by omega) e
   refine ⟨by rw [h1,List.filter_cons_of_pos (by simp only [e,Bool.not_false])];simp;omega,fun i hi=> ?_⟩
   show ((c.t2 k).1.set k ((c.t2 k).2+1)).getD i 0=_
   by_cases hik:k=i
   ·subst hik
    rw [List.getD_eq_getElem?_getD,List.getElem?_set_self (by rw [CT.t2_len];omega),h1,if_pos (.inl (by omega)),h5]
    rfl
   ·rw [List.getD_eq_getElem?_getD,List.getElem?_set_ne hik,← List.getD_eq_getElem?_getD,h2 i hi]
    by_cases h3:i<k∨c.ins.contains i=true
    ·rw [if_pos h3,if_pos (h3.imp (by omega) id)]
    ·rw [if_neg h3,if_neg (fun h=>h3 (h.imp (by omega) id))]
def CT.tks (c:CT):List Int:=(List.range c.nf.length).map c.tkL
theorem CT.tks_get (c:CT) {i:Nat} (hi:i<c.nf.length):c.tks[i]? = some (c.tkL i):=by
 unfold CT.tks
 rw [List.getElem?_map,List.getElem?_range hi];rfl
theorem CT.tks_len (c:CT):c.tks.length=c.nf.length:=by simp [CT.tks]
theorem CT.t2_done {c:CT} (h:c.Ok):c.t2 c.nf.length=(c.tks,(c.nf.length:Int)):=by
 obtain ⟨h1,h2⟩:=CT.t2_get h c.nf.length (Nat.le_refl _)
 refine Prod.ext ?_ ?_
 ·refine List.ext_getElem? fun i=> ?_
  by_cases hi:i<c.nf.length
  ·have:=h2 i hi
   rw [if_pos (.inl hi),List.getD_eq_getElem?_getD,List.getElem?_eq_getElem (by rw [CT.t2_len];exact hi)] at this
   rw [CT.tks_get c hi,List.getElem?_eq_getElem (by rw [CT.t2_len];exact hi)]
   exact congrArg some this
  ·rw [List.getElem?_eq_none (by rw [CT.t2_len];omega),List.getElem?_eq_none (by rw [CT.tks_len];omega)]
 ·rw [h1]
  have:=CT.order_len h
  unfold CT.order at this
  rw [List.length_append] at this
  show _=(c.nf.length:Int)
  omega
theorem CT.t2_le {c:CT} (h:c.Ok) {k:Nat} (hk:k<=c.nf.length):0<=(c.t2 k).2/\(c.t2 k).2<=2*c.nf.length:=by
 obtain ⟨h1,-⟩:=CT.t2_get h k hk
 have h2:=List.length_filter_le (fun i=> !c.ins.contains i) (List.range k)
 rw [List.length_range] at h2
 have h3:=CT.order_len h
 unfold CT.order at h3
 rw [List.length_append] at h3
 omega
def CT.f3 (c:CT) (i k:Nat) (x y:Int):Int:=if 0<=x/\0<=y/\y<c.nf.getD x.toNat 0/\(x<i∨x=i/\y<k) then ((c.base x.toNat+y.toNat:Nat):Int)+1 else 0
theorem CT.f3_zero (c:CT):c.f3 0 0=fun _ _=>0:=by
 funext x y
 unfold CT.f3
 rw [if_neg (by omega)]
theorem CT.f3_put (c:CT) {i k:Nat} (hk:k<c.nf.getD i 0):fA (c.f3 i k) (i:Int) (k:Int) (((c.base i+k:Nat):Int)+1)=c.f3 i (k+1):=by
 funext x y
 unfold fA
 by_cases e:x=(i:Int)/\y=(k:Int)
 ·obtain ⟨rfl,rfl⟩:=e
  rw [if_pos ⟨rfl,rfl⟩,CT.f3,if_pos ⟨by omega,by omega,by rw [Int.toNat_natCast];omega,by omega⟩,Int.toNat_natCast,Int.toNat_natCast]
 ·rw [if_neg e]
  unfold CT.f3
  by_cases h:0<=x/\0<=y/\y<c.nf.getD x.toNat 0/\(x<i∨x=i/\y<k)
  ·rw [if_pos h,if_pos ⟨h.1,h.2.1,h.2.2.1,by omega⟩]
  ·rw [if_neg h,if_neg (fun g=>h ⟨g.1,g.2.1,g.2.2.1,by omega⟩)]
theorem CT.f3_next (c:CT) {i k:Nat} (hk:k=c.nf.getD i 0):c.f3 i k=c.f3 (i+1) 0:=by
 subst hk
 funext x y
 unfold CT.f3
 by_cases h:0<=x/\0<=y/\y<c.nf.getD x.toNat 0/\(x<i∨x=i/\y<c.nf.getD i 0)
 ·rw [if_pos h,if_pos ⟨h.1,h.2.1,h.2.2.1,by omega⟩]
 ·rw [if_neg h,if_neg (fun g=>h ⟨g.1,g.2.1,g.2.2.1,by
   by_cases hx:x=i
   ·right
    have:=g.2.2.1
    rw [hx,Int.toNat_natCast] at this
    exact ⟨hx,this⟩
   ·left;omega⟩)]
def CT.f4 (c:CT) (on:List (Int × Int)) (j:Nat) (x y:Int):Int:=if (on.take j).contains (x,y)=true then -(c.f3 c.nf.length 0 x y) else c.f3 c.nf.length 0 x y
theorem CT.f4_zero (c:CT) (on:List (Int × Int)):c.f4 on 0=c.f3 c.nf.length 0:=by
 funext x y
 simp [CT.f4]
theorem CT.f4_put (c:CT) {on:List (Int × Int)} (hn:on.Nodup) {j:Nat} (hj:j<on.length):fA (c.f4 on j) on[j].1 on[j].2 (-(c.f4 on j on[j].1 on[j].2))=c.f4 on (j+1):=by
 have hnot:(on.take j).contains on[j]=false:=by
  have:on[j] ∉ on.take j:=fun hm=>by
   obtain ⟨i,hi,e⟩:=List.getElem_of_mem hm
   rw [List.getElem_take] at e
   rw [List.length_take] at hi
   rw [List.nodup_iff_pairwise_ne,List.pairwise_iff_getElem] at hn
   exact hn i j (by omega) hj (by omega) e
  simpa using this
 funext x y
 unfold fA
 by_cases e:x=on[j].1/\y=on[j].2
 ·rw [if_pos e]
  obtain ⟨rfl,rfl⟩:=e
  have h2:(on.take (j+1)).contains (on[j].1,on[j].2)=true:=by rw [List.take_succ_eq_append_getElem hj,List.contains_eq_mem,decide_eq_true_eq];exact List.mem_append_right _ List.mem_cons_self
  unfold CT.f4
  rw [if_pos h2,if_neg (by rw [show (on[j].1,on[j].2)=on[j] from rfl,hnot];decide)]
 ·rw [if_neg e]
  unfold CT.f4
  have h2:(on.take (j+1)).contains (x,y)=(on.take j).contains (x,y):=by
   rw [List.take_succ_eq_append_getElem hj,Bool.eq_iff_iff]
   simp only [List.contains_eq_mem,List.mem_append,List.mem_singleton,decide_eq_true_eq]
   constructor
   ·rintro (h | h)
    ·exact h
    ·exact absurd ⟨congrArg Prod.fst h,congrArg Prod.snd h⟩ e
   ·exact .inl
  rw [h2]
def CT.fgs (c:CT) (on:List (Int × Int)):Int->Int->Int:=c.f4 on on.length
theorem CT.fgs_get {c:CT} {on:List (Int × Int)} (hc : ∀ i k:Nat,c.on i k=on.contains ((i:Int),(k:Int))) {i k:Nat} (hi:i<c.nf.length) (hk:k<c.nf.getD i 0):c.fgs on (i:Int) (k:Int)=c.fgL i k:=by
 unfold CT.fgs CT.f4 CT.fgL sg
 rw [List.take_length,hc i k]
 have h3:c.f3 c.nf.length 0 (i:Int) (k:Int)=((c.base i+k:Nat):Int)+1:=by
  rw [CT.f3,if_pos ⟨by omega,by omega,by rw [Int.toNat_natCast];omega,by omega⟩,Int.toNat_natCast,Int.toNat_natCast]
 rw [h3]
 cases on.contains ((i:Int),(k:Int))<;>simp
theorem CT.f3_le (c:CT) (i k:Nat) (x y:Int) (hi:i<=c.nf.length) (hk:0<k->i<c.nf.length):0<=c.f3 i k x y/\c.f3 i k x y<=c.many:=by
 unfold CT.f3
 by_cases h:0<=x/\0<=y/\y<c.nf.getD x.toNat 0/\(x<i∨x=i/\y<k)
 ·rw [if_pos h]
  have:=CT.fg_lit c (i:=x.toNat) (k:=y.toNat) (by omega) (by omega)
  unfold CT.fgL sg Lit at this
  have h2:(((c.base x.toNat+y.toNat:Nat):Int)+1).natAbs<=c.many:=by
   split at this
   ·exact this.2
   ·have:=this.2;omega
  omega
 ·rw [if_neg h];omega
theorem CT.f4_le (c:CT) (on:List (Int × Int)) (j:Nat) (x y:Int):(c.f4 on j x y).natAbs<=c.many:=by
 have:=CT.f3_le c c.nf.length 0 x y (Nat.le_refl _) (by omega)
 unfold CT.f4
 split<;>omega
def tS (row:List Int) (x:Int):List Int:=row.set (x.natAbs-1) x
theorem xX {m:List Bool} {x:Int} (hx:Lit m.length x):tS (chL m) x=chL (m.set (x.natAbs-1) (decide (0<x))):=by
 obtain ⟨h0,h1⟩:=hx
 unfold tS
 refine List.ext_getElem? fun v=> ?_
 by_cases hv:v<m.length
 ·rw [rL (by simpa using hv)]
  by_cases e:x.natAbs-1=v
  ·subst e
   rw [List.getElem?_set_self (by rw [kL];omega)]
   have h2:(m.set (x.natAbs-1) (decide (0<x))).getD (x.natAbs-1) false=decide (0<x):=by simp [List.getD_eq_getElem?_getD,hv]
   rw [h2]
   by_cases hp:0<x
   ·simp only [hp,decide_true,if_true];congr 1;omega
   ·simp only [hp,decide_false,Bool.false_eq_true,if_false];congr 1;omega
  ·rw [List.getElem?_set_ne e,rL hv]
   have h2:(m.set (x.natAbs-1) (decide (0<x))).getD v false=m.getD v false:=by simp [List.getD_eq_getElem?_getD,List.getElem?_set_ne e]
   rw [h2]
 ·rw [List.getElem?_eq_none (by rw [List.length_set,kL];omega),List.getElem?_eq_none (by rw [kL,List.length_set];omega)]
def tP (n:Nat):Nat->List Int
 | 0=>List.replicate n 0
 | k+1=>tS (tP n k) (-((k:Int)+1))
theorem pF (n:Nat) : ∀ k,(tP n k).length=n
 | 0=>by simp [tP]
 | k+1=>by rw [tP,tS,List.length_set,pF n k]
theorem aBg (n:Nat) : ∀ k,k<=n->∀ v,v<k->(tP n k)[v]? = some (-(v:Int)-1)
 | 0,_,v,h=>by omega
 | k+1,hk,v,h=>by
  rw [tP,tS,show (-((k:Int)+1)).natAbs-1=k by omega]
  by_cases e:k=v
  ·subst e
   rw [List.getElem?_set_self (by rw [pF];omega)];congr 1;omega
  ·rw [List.getElem?_set_ne e,aBg n k (by omega) v (by omega)]
theorem aIc (n:Nat):tP n n=chL (List.replicate n false):=by
 refine List.ext_getElem? fun v=> ?_
 by_cases hv:v<n
 ·rw [aBg n n (Nat.le_refl _) v hv,rL (by simpa using hv)]
  simp [List.getD_eq_getElem?_getD,hv]
 ·rw [List.getElem?_eq_none (by rw [pF];omega),List.getElem?_eq_none (by rw [kL];simp;omega)]
end Go.Proofs.YthaaaecmeafofaaGreatDoor.Cn
namespace Go.Proofs.YthaaaecmeafofaaGreatDoor.Cn
open Go.RowKit Go.Lib
def SmP (x:Int):Prop:=x.natAbs<=1000000
theorem aDz {x:Int} (h:SmP x):(Go.Lit.int .i64 x).wf=true:=by
 unfold SmP at h
 have e1:IntKind.i64.min = -9223372036854775808:=by decide
 have e2:IntKind.i64.max=9223372036854775807:=by decide
 simp [Go.Lit.wf]
 omega
theorem aPq:WideMaps.ArrKey Tryz.prog 65 3 2:=⟨Tryz.underlying65,by kernel_rfl,by kernel_rfl,by kernel_rfl⟩
theorem oT:Maps.Keyed Tryz.prog 65:=Maps.Keyed.of_law aPq.law
theorem aIs : ∃ m,Tryz.prog.types.size=m+1:=⟨Tryz.prog.types.size-1,by kernel_rfl⟩
def aNh (x y:Int):Go.Lit:= .string (keyBytes [.int .i64 x,.int .i64 y])
theorem lO {x y:Int} (hx:SmP x) (hy:SmP y):keyOf Tryz.prog 65 (.agg #[.int .i64 x,.int .i64 y])=some (aNh x y):=WideMaps.keyOf_pair aPq Tryz.underlying3 aIs (aDz hx) (aDz hy)
theorem aKl {x y x' y':Int} (hx:SmP x) (hy:SmP y) (hx':SmP x') (hy':SmP y') (h:aNh x y=aNh x' y'):x=x'/\y=y':=by
 have h1:=lO hx hy
 have h2:=lO hx' hy'
 rw [h] at h1
 have:=oT.inj h1 h2
 simp only [Value.agg.injEq,Array.mk.injEq,List.cons.injEq,Value.int.injEq,true_and,and_true] at this
 exact this
theorem qF:Tryz.prog.underlying 132=some (.map 65 3):=Tryz.underlying132
def fO (g n:Nat) (f:Int->Int->Int) (w:World):Prop:= ∃ D:DataW Unit,w.ownsMap Tryz.prog 65 (plainElem Tryz.prog 3) g n D/\∀ x y,SmP x->SmP y->D.atKey (aNh x y) (.lit (.int .i64 0))=.lit (.int .i64 (f x y))
theorem fO.lt {g n:Nat} {f:Int->Int->Int} {w:World} (h:fO g n f w):g<w.heap.size:=by obtain ⟨D,h,-⟩:=h;exact h.lt
theorem fO.mono {g n n':Nat} {f:Int->Int->Int} {w:World} (h:fO g n f w) (hn:n<=n'):fO g n' f w:=by obtain ⟨D,h,h2⟩:=h;exact ⟨D,h.mono hn,h2⟩
theorem fO.at {g n:Nat} {f:Int->Int->Int} {w w':World} (h:fO g n f w) (hb:w'.heap[g]? = w.heap[g]?):fO g n f w':=by
 obtain ⟨D,⟨es,clock,hm,hr⟩,h2⟩:=h
 exact ⟨D,⟨es,clock,hb.trans hm,hr⟩,h2⟩
theorem fO.keep {g n:Nat} {f:Int->Int->Int} {w w':World} (h:fO g n f w) (k:aA w w'):fO g n f w':=h.at (k.block g h.lt)
theorem qA (w:World):fO w.heap.size 0 (fun _ _=>0) (w.alloc (.map #[] 0)):=⟨.map [],World.ownsMap_made w _ _ _,fun x y _ _=>by simp [DataW.atKey]⟩
theorem fO.look {g n:Nat} {f:Int->Int->Int} {w:World} {t:TypeId} (h:fO g n f w) (ht:Tryz.prog.underlying t=some (.map 65 3)) {x y:Int} (hx:SmP x) (hy:SmP y):(Instr.lookup t (.map (some g)) (.agg #[.int .i64 x,.int .i64 y]) false).run Tryz.prog w=.ok (.int .i64 (f x y)) w:=by
 obtain ⟨D,h1,h2⟩:=h
 obtain ⟨c,hrun,hv,-⟩:=h1.lookup_int oT ht Tryz.underlying3 (by kernel_rfl) (lO hx hy)
 rw [h2 x y hx hy] at hv
 have e:f x y=c:=by simpa using hv
 rw [hrun,e]
theorem fO.put {g n:Nat} {f:Int->Int->Int} {w:World} {t:TypeId} (h:fO g n f w) (ht:Tryz.prog.underlying t=some (.map 65 3)) {x y v:Int} (hx:SmP x) (hy:SmP y) (hv:SmP v) (hl:n<1000000) : ∃ w',(Instr.mapUpdate t (.map (some g)) (.agg #[.int .i64 x,.int .i64 y]) (.int .i64 v)).run Tryz.prog w=.ok () w'/\fO g (n+1) (fA f x y v) w'/\w.grownBy w' (some g):=by
 obtain ⟨D,h1,h2⟩:=h
 obtain ⟨w',hrun,hown,hgr⟩:=h1.update oT ht (by unfold maxLen;omega) (lO hx hy) (plainElem_int Tryz.underlying3 (aDz hv))
 refine ⟨w',hrun,⟨_,hown,fun p q hp hq=> ?_⟩,hgr⟩
 unfold fA
 by_cases e:p=x/\q=y
 ·obtain ⟨rfl,rfl⟩:=e
  rw [Maps.atKey_put_same h1.isMap (oT.key (lO hx hy))];simp
 ·rw [Maps.atKey_put_other (fun hh=>e (aKl hp hq hx hy hh)),h2 p q hp hq,if_neg e]
structure DD where
 b:Nat
 many:Nat
 tv:Value
 g1:Nat
 pv:Value
 cv:Value
 g2:Nat
 np:Nat
 cs:Nat->Prop
 ro:Nat->Prop
def DD.box (x:DD) (n:Nat):Array Value:=#[.int .i64 x.many,x.tv,.map (some x.g1),x.pv,.int .i64 n,x.cv,.map (some x.g2)]
def DD.own (x:DD) (b:Nat):Prop:=b=x.b∨x.cv.ownBlock=some b∨b=x.g2∨x.cs b
def DD.to (x:DD) (v:Value) (k:Nat) (cs:Nat->Prop):DD:= { x with cv:=v,np:=k,cs:=cs }
structure DM (x:DD) (L:Nat) (s:DS) (w:World):Prop where
 low:L<=x.b/\L<=x.g2/\x.b≠x.g2
 np:x.np<=s.n
 ne:x.cv.ownBlock≠some x.b/\x.cv.ownBlock≠some x.g2
 box:aD x.b 148 (x.box s.n) w
 row:nG L x.cs x.cv s.cl w
 csl : ∀ c,x.cs c->L<=c/\c<w.heap.size/\c≠x.b/\c≠x.g2/\x.cv.ownBlock≠some c
 pr:fO x.g2 x.np s.pr w
theorem DM.lt {x:DD} {L:Nat} {s:DS} {w:World} (h:DM x L s w) {b:Nat} (hb:x.own b):L<=b/\b<w.heap.size:=by
 rcases hb with rfl | hb | rfl | hb
 ·exact ⟨h.low.1,h.box.facts.2.2⟩
 ·exact h.row.in hb
 ·exact ⟨h.low.2.1,h.pr.lt⟩
 ·exact ⟨(h.csl b hb).1,(h.csl b hb).2.1⟩
theorem DM.other {x:DD} {L:Nat} {s:DS} {w w':World} (h:DM x L s w) (hs:w.heap.size<=w'.heap.size) (hown : ∀ b,x.own b->w'.heap[b]? = w.heap[b]?):DM x L s w':=by
 refine ⟨h.low,h.np,h.ne,?_,h.row.mono (fun g hg=>hown g (.inr (.inl hg))) fun b hd=>⟨hown b (.inr (.inr (.inr hd))),hd⟩,fun c hc=> ?_,h.pr.at (hown _ (.inr (.inr (.inl rfl))))⟩
 ·have:=h.box;unfold aD at *;rw [hown _ (.inl rfl)];exact this
 ·have:=h.csl c hc
  exact ⟨this.1,Nat.lt_of_lt_of_le this.2.1 hs,this.2.2⟩
theorem DM.keep {x:DD} {L:Nat} {s:DS} {w w':World} (h:DM x L s w) (k:aA w w'):DM x L s w':=h.other k.size fun b ho=>k.block b (h.lt ho).2
theorem DM.L {x:DD} {L:Nat} {s:DS} {w:World} (h:DM x L s w):L<=w.heap.size:=by have:=h.lt (b:=x.b) (.inl rfl);omega
theorem DM.push {x:DD} {L:Nat} {s:DS} {w w5:World} {vs:List Value} {u v':Value} {l:List Int} {U:Nat->Prop} (h:DM x L s w) (hvl:vs.length=s.cl.length) (hvn : ∀ (i:Nat) c y,s.cl[i]? = some c->vs[i]? = some y->aK x.cs w c y)
  (hU : ∀ c,U c->L<=c/\c<w.heap.size/\¬ x.own c) (hu:aK U w l u) (hg:w.grownBy w5 x.cv.ownBlock) (ho:v'.ownBlock=x.cv.ownBlock∨∃ g,v'.ownBlock=some g/\w.heap.size<=g) (h5:w5.ownsRow L 153 1 v' (s.cl.length+1) (vs ++ [u])) :
  DM (x.to v' x.np (fun c=>x.cs c∨U c)) L (s.clause l) (w5.setCell ⟨x.b,5,none⟩ v')/\aF (fun b=>x.own b∨U b) (x.to v' x.np (fun c=>x.cs c∨U c)).own w (w5.setCell ⟨x.b,5,none⟩ v'):=by
 have hlow:=h.low
 have hne:=h.ne
 have hbl:=h.box.facts.2.2
 have hgl:=h.pr.lt
 have hso : ∀ c,c≠x.b->(w5.setCell ⟨x.b,5,none⟩ v').heap[c]? = w5.heap[c]? :=fun c hc=>dC _ _ _ _ hc
 have hsz:(w5.setCell ⟨x.b,5,none⟩ v').heap.size=w5.heap.size:=fB ..
 have hk : ∀ c,c<w.heap.size->x.cv.ownBlock≠some c->w5.heap[c]? = w.heap[c]? :=fun c hc hn=>hg.block c hc fun e=>hn e.symm
 have hvb:v'.ownBlock≠some x.b/\v'.ownBlock≠some x.g2:=by
  rcases ho with ho | ⟨g,ho,hge⟩
  ·rw [ho];exact hne
  ·rw [ho];exact ⟨fun e=>by have:=Option.some.inj e;omega,fun e=>by have:=Option.some.inj e;omega⟩
 have hcs : ∀ c,x.cs c∨U c->L<=c/\c<w.heap.size/\c≠x.b/\c≠x.g2/\x.cv.ownBlock≠some c:=fun c hc=>by
  rcases hc with hc | hc
  ·exact h.csl c hc
  ·have:=hU c hc
   exact ⟨this.1,this.2.1,fun e=>this.2.2 (.inl e),fun e=>this.2.2 (.inr (.inr (.inl e))),fun e=>this.2.2 (.inr (.inl e))⟩
 have hcv : ∀ c,x.cs c∨U c->v'.ownBlock≠some c:=fun c hc e=>by
  have h1:=hcs c hc
  rcases ho with ho | ⟨g,ho,hge⟩
  ·exact h1.2.2.2.2 (ho ▸ e)
  ·rw [ho] at e;have:=Option.some.inj e;omega
 have hnums : ∀ c y,aK (fun c=>x.cs c∨U c) w c y->aK (fun c=>x.cs c∨U c) (w5.setCell ⟨x.b,5,none⟩ v') c y:=fun c y hc=>hc.mono (fun p hp=>World.cell?_of_block (w:=w) (by
   have:=hcs _ hp
   rw [hso _ this.2.2.1,hk _ this.2.1 this.2.2.2.2])) fun b hb=>hb
 refine ⟨⟨hlow,h.np,hvb,?_,⟨vs ++ [u],?_,?_,fun i c y hc hy=> ?_⟩,fun c hc=> ?_,?_⟩,?_⟩
 ·have hB5:aD x.b 148 (x.box s.n) w5:=by have:=h.box;unfold aD at *;rw [hk _ hbl hne.1];exact this
  exact hB5.set 5 v'
 ·show (vs ++ [u]).length=(s.cl ++ [l]).length
  simp [hvl]
 ·show World.ownsRow _ L _ 1 v' (s.cl ++ [l]).length _
  rw [List.length_append]
  exact bY h5 fun g hgv=>hso g (fun e=>hvb.1 (e ▸ hgv))
 ·have hc:(s.cl ++ [l])[i]? = some c:=hc
  by_cases hi:i<s.cl.length
  ·rw [List.getElem?_append_left hi] at hc
   rw [List.getElem?_append_left (by omega)] at hy
   exact hnums _ _ ((hvn i c y hc hy).mono (fun _ _=>rfl) fun _ h=> .inl h)
  ·have hi2:i=s.cl.length:=by
    have:=(List.getElem?_eq_some_iff.1 hc).1
    simp at this;omega
   subst hi2
   rw [List.getElem?_append_right (Nat.le_refl _),Nat.sub_self] at hc
   rw [← hvl,List.getElem?_append_right (Nat.le_refl _),Nat.sub_self] at hy
   cases hc;cases hy
   exact hnums _ _ (hu.mono (fun _ _=>rfl) fun _ h=> .inr h)
 ·have:=hcs c hc
  exact ⟨this.1,by rw [hsz];exact Nat.lt_of_lt_of_le this.2.1 hg.size,this.2.2.1,this.2.2.2.1,hcv c hc⟩
 ·exact h.pr.at (by show (World.setCell _ _ _).heap[x.g2]? = _;rw [hso _ (Ne.symm hlow.2.2),hk _ hgl hne.2])
 ·have t1:=aF.grown (O:=fun b=>x.own b∨U b) hg (fun g hg=> .inl (.inr (.inl hg))) ho
  have t2:=t1.trans (aF.set _ w5 x.b 5 v' (.inl (.inl (.inl rfl))))
  refine t2.less fun b hb=> ?_
  rcases hb with hb | hb | hb | hb | hb
  ·exact .inl (.inl (.inl hb))
  ·exact .inr hb
  ·exact .inl (.inl (.inr (.inr (.inl hb))))
  ·exact .inl (.inl (.inr (.inr (.inr hb))))
  ·exact .inl (.inr hb)
theorem DM.vars {x:DD} {L:Nat} {s:DS} {w:World} (h:DM x L s w) {n:Nat} (hn:s.n<=n):DM x L ⟨n,s.cl,s.pr⟩ (w.setCell ⟨x.b,4,none⟩ (.int .i64 n))/\aF x.own x.own w (w.setCell ⟨x.b,4,none⟩ (.int .i64 n)):=by
 have hso : ∀ c,c≠x.b->(w.setCell ⟨x.b,4,none⟩ (.int .i64 n)).heap[c]? = w.heap[c]? :=fun c hc=>dC _ _ _ _ hc
 have hsz:(w.setCell ⟨x.b,4,none⟩ (.int .i64 n)).heap.size=w.heap.size:=fB ..
 refine ⟨⟨h.low,Nat.le_trans h.np hn,h.ne,h.box.set 4 (.int .i64 n),h.row.mono (fun g hg=>hso g (fun e=>h.ne.1 (e ▸ hg))) fun b hd=>⟨hso b (h.csl b hd).2.2.1,hd⟩,fun c hc=>by rw [hsz];exact h.csl c hc,h.pr.at (hso _ (Ne.symm h.low.2.2))⟩,aF.set _ _ _ _ _ (.inl rfl)⟩
theorem DM.put {x:DD} {L:Nat} {s:DS} {w w':World} (h:DM x L s w) {f:Int->Int->Int} (hm:fO x.g2 (x.np+1) f w') (hn:x.np+1<=s.n) (hg:w.grownBy w' (some x.g2)):DM (x.to x.cv (x.np+1) x.cs) L ⟨s.n,s.cl,f⟩ w'/\aF x.own (x.to x.cv (x.np+1) x.cs).own w w':=by
 have hk : ∀ c,c<w.heap.size->c≠x.g2->w'.heap[c]? = w.heap[c]? :=fun c hc hn=>hg.block c hc fun e=>hn (Option.some.inj e)
 refine ⟨⟨h.low,hn,h.ne,?_,h.row.mono (fun g hgv=>hk g (h.row.in hgv).2 (fun e=>h.ne.2 (e ▸ hgv))) fun b hd=>⟨hk b (h.csl b hd).2.1 (h.csl b hd).2.2.2.1,hd⟩,fun c hc=> ?_,hm⟩,⟨hg.os,hg.tape,hg.output,hg.size,fun b hb hn=>hk b hb (fun e=>hn (.inr (.inr (.inl e)))),fun _ h=> .inl h⟩⟩
 ·have h1:=h.box
  have h2:=hk _ h.box.facts.2.2 h.low.2.2
  unfold aD at h1
  exact h2.trans h1
 ·have:=h.csl c hc
  exact ⟨this.1,Nat.lt_of_lt_of_le this.2.1 hg.size,this.2.2⟩
theorem aX.nums {B:Nat} {v:Value} {zs:List Int} {w:World} (h:aX B v zs w) (hl:zs.length<=1000000):aK (fun b=>B<=b/\b<w.heap.size) w zs v:=by
 rcases h with ⟨h1,⟨rfl,h0⟩ | ⟨g,cap,cur,rfl,e2,e3,e4,e5,e6,e7⟩⟩
 ·exact ⟨none,0,by rw [h0],by omega,fun hh=>by omega⟩
 ·refine ⟨_,cap,rfl,by omega,fun hh=>⟨g,0,rfl,⟨e2,(Array.getElem?_eq_some_iff.1 e3).1⟩,fun j x hx=> ?_⟩⟩
  have hj:j<zs.length:=(List.getElem?_eq_some_iff.1 hx).1
  have hf:(zs.map (Value.int .i64))[j]? = some (.int .i64 x):=by rw [List.getElem?_map,hx];rfl
  rw [← e7,List.getElem?_take,if_pos (by omega)] at hf
  simp only [World.cell?,e3,Nat.zero_add]
  simpa using hf
theorem xG {w w':World} (k:aA w.drew w'):aA w w':=(aA.drew (aA.refl w)).trans k
theorem DM.cell {x:DD} {L:Nat} {s:DS} {w:World} (h:DM x L s w) (o:Nat):w.cell? ⟨x.b,o,none⟩=(x.box s.n)[o]? :=h.box.facts.1 o
theorem eO (x:DD) (L:Nat) (s:DS) (Q:Nat->Prop) (l:List Int) (p:Option Addr) (n cap:Nat) (w:World) (hln:l.length=n) (h:DM x L s w) (hQ : ∀ b,Q b->b<w.heap.size) (hl:aK Q w l (.slice p n cap)) (hlen:l.length<=1000) (hc:s.cl.length<=1000000) :
  Calls Tryz.prog 93 #[.pointer (some ⟨x.b,0,none⟩),.slice p n cap] w fun e w'=>e=.returned (.tuple #[])/\∃ v c,DM (x.to v x.np c) L (s.clause l) w'/\aF x.own (x.to v x.np c).own w w':=by
 subst hln
 obtain ⟨i0,hi,hz0,hz1,hz2⟩:=info_parts aDc
 have HD:=hid h
 have HLL:=hid h.L
 have HNE:=hid h.ne
 have HL:=hid hl
 obtain ⟨ap,ac,hav⟩:=h.row.shape
 have HAV:=hid hav
 have hb5:w.cell? ⟨x.b,5,none⟩=some (.slice ap s.cl.length ac):=(h.cell 5).trans (congrArg some hav)
 have hbl:=h.box.facts.2.2
 clear h hl hav
 go_enter Tryz.func93,Tryz.ntmps93
 go_region_law (first
  | (refine aW rfl _ _ 47 rfl L 153 i0 (.slice none 0 0) 1 24 Tryz.underlying47 hi hz0 hz1 hz2 rfl (by decide) (.slice ap s.cl.length ac) s.cl.length vs rfl (OW1.out.alloc _) ⟨w1.heap.size,0,none⟩ 1 1 [.slice qp l.length qc] rfl rfl cP eZ (by unfold maxLen;omega) (by omega) (by have:=aC w1 (.cells #[.slice qp l.length qc] 153);omega) ?_
     intro v5 w5 h1 h2 h4
     obtain ⟨g5,cap5,rfl⟩:=aT h1 (Nat.succ_pos _)
     have P5:=hid (D1.out.push VL.out VN.out HU1.out U1.out (HAV.out ▸ bB h2) (HAV.out ▸ jA h4) h1)
     have B5:aD x.b 148 (x.box s.n) w5:=(by
      have hk:w5.heap[x.b]? = w1.heap[x.b]? :=(bB h2).block x.b hbl1 (fun e=>HNE.out.1 (HAV.out ▸ e.symm))
      have:=D1.out.box
      unfold aD at *
      rw [hk];exact this)
     obtain ⟨hbc5,hbf5,hbl5⟩:=B5.facts
     have hc55:w5.cell? ⟨x.b,5,none⟩=some (.slice ap s.cl.length ac):=(hbc5 5).trans (congrArg some HAV.out)
     have hf55:=hbf5 5
     clear hbc5 hbf5 B5 h1 h2 h4)
  | (go_simp;go_at_call 74;refine (nQ Q l p cap _ (fun b hb=>by have:=hQ b hb;simpa using this) (HL.out.keep (B:=w.heap.size) hQ (aA.drew (aA.refl w))) (by omega)).mono ?_
     rintro e w1 ⟨u1,rfl,ho1,k1⟩
     obtain ⟨qp,qc,rfl⟩:=ho1.ints.len
     have K1:=hid (xG k1)
     have D1:=hid (HD.out.keep K1.out)
     have U1:=hid (ho1.nums (by omega))
     have HU1:=hid (show ∀ c,w.drew.heap.size<=c/\c<w1.heap.size->L<=c/\c<w1.heap.size/\¬ x.own c from fun b hb=>⟨by have:=HLL.out;have:=hb.1;simp at this;omega,hb.2,fun ho=>by have:=(HD.out.lt ho).2;have:=hb.1;simp at this;omega⟩)
     obtain ⟨vs,hvl,how,hvn⟩:=D1.out.row
     have VL:=hid hvl
     have OW1:=hid (HAV.out ▸ how)
     have VN:=hid hvn
     have hb51:w1.cell? ⟨x.b,5,none⟩=some (.slice ap s.cl.length ac):=(D1.out.cell 5).trans (congrArg some HAV.out)
     have hbl1:=D1.out.box.facts.2.2
     have hL1:L<=w1.heap.size:=D1.out.L
     clear ho1 k1 hvl how hvn
     go_simp))
 all_goals
  have HQ:=hid P5.out
  go_wp2_with fail
  refine bodyPost_end (results_none rfl _ _ _) rfl ?_
  refine ⟨rfl,_,_,HQ.out.1,?_⟩
  exact (show aF x.own (fun b=>x.own b∨(w.drew.heap.size<=b/\b<w1.heap.size)) w w1 from ⟨K1.out.os,K1.out.tape,K1.out.output,K1.out.size,fun b hb _=>K1.out.block b hb,fun b hb=>hb.imp id fun h=>h.1⟩).trans HQ.out.2
def gG (s:DS) (l:List Int) (j:Nat):DS:=⟨s.n+1,s.cl++(l.take j).map (fun x=> [(s.n:Int)+1,-x]),s.pr⟩
theorem aEd (s:DS) (l:List Int):gG s l 0=⟨s.n+1,s.cl,s.pr⟩:=by simp [gG]
theorem aEc {s:DS} {l:List Int} {j:Nat} {z:Int} (h:l[j]? = some z):(gG s l j).clause [(s.n:Int)+1,-z]=gG s l (j+1):=by
 obtain ⟨hj,rfl⟩:=List.getElem?_eq_some_iff.1 h
 unfold gG DS.clause
 simp only
 rw [List.take_succ_eq_append_getElem hj,List.map_append,List.append_assoc]
 rfl
theorem tU {s:DS} {l:List Int} (h:l.length≠1):(gG s l l.length).clause (-((s.n:Int)+1) :: l)=s.someS l:=by
 unfold gG DS.clause DS.someS
 rw [if_neg h,List.take_length]
theorem mF (w:World) (a b:Int):aK (fun c=>c=w.heap.size) (w.alloc (.cells #[.int .i64 a,.int .i64 b] 3)) [a,b] (.slice (some ⟨w.heap.size,0,none⟩) 2 2):=by
 refine ⟨_,2,rfl,by simp,fun _=>⟨w.heap.size,0,rfl,rfl,fun j x hx=> ?_⟩⟩
 have hb:=(aD.new w 3 #[.int .i64 a,.int .i64 b]).facts.1 (0+j)
 rw [hb]
 match j,hx with
 | 0,hx=>cases hx;rfl
 | 1,hx=>cases hx;rfl
theorem aAv (w:World) (a:Int):aK (fun c=>c=w.heap.size) (w.alloc (.cells #[.int .i64 a] 3)) [a] (.slice (some ⟨w.heap.size,0,none⟩) 1 1):=by
 refine ⟨_,1,rfl,by simp,fun _=>⟨w.heap.size,0,rfl,rfl,fun j x hx=> ?_⟩⟩
 have hb:=(aD.new w 3 #[.int .i64 a]).facts.1 (0+j)
 rw [hb]
 match j,hx with
 | 0,hx=>cases hx;rfl
theorem aBl (x:DD) (L:Nat) (s:DS) (Q:Nat->Prop) (l:List Int) (p:Option Addr) (n cap:Nat) (w:World) (hln:l.length=n) (hnil:p=none->cap=0) (h:DM x L s w) (hQ : ∀ b,Q b->b<w.heap.size/\¬ x.own b) (hl:aK Q w l (.slice p n cap)) (hlen:l.length<=900) (hc:s.cl.length<=500000) (hn:s.n<=500000) (hsm : ∀ y∈l,y.natAbs<=900000) :
  Calls Tryz.prog 140 #[.pointer (some ⟨x.b,0,none⟩),.slice p n cap] w fun e w'=>e=.returned (.int .i64 (s.someL l))/\∃ v c,DM (x.to v x.np c) L (s.someS l) w'/\aF x.own (x.to v x.np c).own w w':=by
 subst hln
 by_cases h1:l.length=1
 ·obtain ⟨y,rfl⟩:=List.length_eq_one_iff.1 h1
  have HD:=hid h
  obtain ⟨lb,lo,hp,hQb,hlc⟩:=hl.nth (k:=0) (by simp)
  subst hp
  have hc0:w.cell? ⟨lb,lo,none⟩=some (.int .i64 y):=hlc 0 y rfl
  have hlb:=(hQ lb hQb).1
  clear hl hlc h h1 hsm hlen
  go_enter Tryz.func140,Tryz.ntmps140
  go_wp2_with fail
  go_ret
  refine ⟨by simp [DS.someL],x.cv,x.cs,?_,aF.refl _ _⟩
  have:s.someS [y]=s:=by simp [DS.someS]
  rw [this];exact HD.out
 ·have HD:=hid h
  have HL:=hid hl
  have HQ:=hid hQ
  have HSM:=hid hsm
  have H1:=hid h1
  have he1:((l.length:Int)==1)=false:=by simpa using (show ¬ (l.length:Int)=1 by omega)
  have hb4:w.cell? ⟨x.b,4,none⟩=some (.int .i64 s.n):=h.cell 4
  have hf4:=h.box.facts.2.1 4
  have hbl:=h.box.facts.2.2
  have HV:=hid (h.vars (n:=s.n+1) (Nat.le_succ _))
  have hcast:((s.n+1:Nat):Int)=(s.n:Int)+1:=by omega
  rw [hcast] at HV
  clear h hl hsm h1 hQ hcast
  go_enter Tryz.func140,Tryz.ntmps140
  go_upto_region 4 with fail
  refine bJ (fun W'=>DM x L ⟨s.n+1,s.cl,s.pr⟩ W'/\aF x.own x.own w W') ?_ ?_
  ·exact HV.out
  rintro W1 ⟨d1,t1⟩
  have D1:=hid d1
  have T1:=hid t1
  have hb4:W1.cell? ⟨x.b,4,none⟩=some (.int .i64 ((s.n:Int)+1)):=(d1.cell 4).trans (by show some (Value.int .i64 ((s.n+1:Nat):Int))=_;rw [show ((s.n+1:Nat):Int)=(s.n:Int)+1 by omega])
  have hbl:=d1.box.facts.2.2
  clear d1 t1 HV hf4
  go_wp2_with fail
  go_loopg [30] l.length (fun gk iv wr=> ∃ (j:Nat) (v:Value) (cc:Nat->Prop),j+gk=l.length/\iv=.int .i64 j/\DM (x.to v x.np cc) L (gG s l j) wr/\aF x.own (x.to v x.np cc).own w wr)
  case atStart=>exact ⟨0,x.cv,x.cs,by omega,rfl,by rw [aEd];exact D1.out,T1.out⟩
  case round=>
   obtain ⟨j,v,cc,hj,rfl,hd,ht⟩:=hrel
   have D2:=hid hd
   have T2:=hid ht
   clear hd ht D1 T1 hb4 hbl
   have HL2:=hid (HL.out.turn T2.out HQ.out)
   by_cases hlt:j<l.length
   ·obtain ⟨lb,lo,rfl,hQb,hlc⟩:=HL2.out.nth hlt
    have hcj:=hlc j _ (List.getElem?_eq_getElem hlt)
    have HJ:=hid (List.getElem?_eq_getElem hlt)
    have hz:=HSM.out l[j] (List.getElem_mem hlt)
    have hlb:=Nat.lt_of_lt_of_le (HQ.out lb hQb).1 T2.out.size
    generalize l[j]=z at hcj HJ hz
    have hz1 : -900000<=z:=by omega
    have hz2:z<=900000:=by omega
    have hjI:(j:Int)<(l.length:Int):=by omega
    clear hlc hz
    go_wp2_with fail
    have HS:=hid (show (gG s l j).cl.length<=1000000 by simp [gG];omega)
    refine aV (fun W'=>DM (x.to v x.np cc) L (gG s l j) W'/\aF (x.to v x.np cc).own (x.to v x.np cc).own wr W'/\aK (fun c=>c=wr.heap.size) W' [(s.n:Int)+1,-z] (.slice (some ⟨wr.heap.size,0,none⟩) 2 2)/\wr.heap.size<W'.heap.size) ⟨D2.out.keep (aA.alloc _ _),aF.keep (aA.alloc _ _),mF _ _ _,by rw [aC];omega⟩ ?_
    rintro W3 ⟨d3,t3,n3,s3⟩
    refine (eO (x.to v x.np cc) L (gG s l j) (fun c=>c=wr.heap.size) [(s.n:Int)+1,-z] _ 2 2 W3 rfl d3 (fun b hb=>by omega) n3 (by simp) HS.out).mono ?_
    rintro e w4 ⟨rfl,v4,c4,d4,t4⟩
    rw [aEc HJ.out] at d4
    have D4:=hid d4
    have T4:=hid ((T2.out.trans t3).trans t4)
    clear d3 t3 n3 s3 d4 t4
    go_wp2_with fail
    go_roundg (l.length-(j+1))
    case rel=>exact ⟨j+1,v4,c4,by omega,by go_num,D4.out,T4.out⟩
    case measure=>omega
   ·obtain rfl:j=l.length:=by omega
    obtain ⟨i0,hi,hz0,hz1,hz2⟩:=info_parts cT
    have HS:=hid (show (gG s l l.length).cl.length<=1000000 by simp [gG];omega)
    have HL3:=hid (show ∀ ad,p=some ad->∀ j u,(l.map (Value.int .i64))[j]? = some u->(wr.alloc (.cells #[.int .i64 (-((s.n:Int)+1))] 3)).cell? (ad.add j)=some u from fun ad hp=>vX (hp ▸ HL2.out) _ (fun b hb=>Nat.lt_of_lt_of_le (HQ.out b hb).1 T2.out.size))
    have HONE:=hid (show ∀ u∈l.map (Value.int .i64),u.oneCell'=true by intro u hu;obtain ⟨z,-,rfl⟩:=List.mem_map.1 hu;rfl)
    have HLEN:=hid (show (l.map (Value.int .i64)).length=l.length*1 by simp)
    have OW:=hid (World.ownsRow_lit (base:=wr.heap.size) (e:=3) (size:=1) wr #[.int .i64 (-((s.n:Int)+1))] 1 (Nat.le_refl _) (by unfold maxLen;omega) rfl)
    obtain ⟨news,hnews⟩ : ∃ news,news=l.map (Value.int .i64):=⟨_,rfl⟩
    have HNEWS:=hid hnews
    rw [← hnews] at HL3 HONE HLEN
    clear hnews
    cases p with
    | none=>
     obtain rfl:l = []:=by
      rcases Nat.eq_zero_or_pos l.length with h0 | h0
      ·exact List.length_eq_zero_iff.1 h0
      ·obtain ⟨b,off,hp,-⟩:=HL2.out.nth (k:=0) h0
       cases hp
     obtain rfl:=hnil rfl
     go_wp2_with (at_builtin;refine wpList_append_own_none rfl _ _ 37 rfl wr.heap.size 3 i0 1 Tryz.underlying37 hi (.slice (some ⟨wr.heap.size,0,none⟩) 1 1) 1 _ rfl OW.out rfl ?_)
     refine aV (fun W'=>DM (x.to v x.np cc) L (gG s [] 0) W'/\aF (x.to v x.np cc).own (x.to v x.np cc).own wr W'/\aK (fun c=>c=wr.heap.size) W' [-((s.n:Int)+1)] (.slice (some ⟨wr.heap.size,0,none⟩) 1 1)/\wr.heap.size<W'.heap.size) ⟨D2.out.keep (aA.alloc _ _),aF.keep (aA.alloc _ _),aAv _ _,by rw [aC];omega⟩ ?_
     rintro W3 ⟨d3,t3,n3,s3⟩
     refine (eO (x.to v x.np cc) L (gG s [] 0) (fun c=>c=wr.heap.size) [-((s.n:Int)+1)] _ 1 1 W3 rfl d3 (fun b hb=>by omega) n3 (by simp) HS.out).mono ?_
     rintro e w4 ⟨rfl,v4,c4,d4,t4⟩
     have D4:=hid (tU H1.out ▸ d4)
     have T4:=hid ((T2.out.trans t3).trans t4)
     clear d3 t3 n3 s3 d4 t4
     go_wp2_with fail
     go_ret
     exact ⟨by simp [DS.someL],v4,c4,D4.out,T4.out⟩
    | some ad=>
     go_wp2_with (at_builtin;refine wpList_append_own_at _ rfl _ _ 37 rfl wr.heap.size 3 i0 (.int .i64 0) 1 8 Tryz.underlying37 hi hz0 hz1 hz2 rfl (by decide) (.slice (some ⟨wr.heap.size,0,none⟩) 1 1) 1 [.int .i64 (-((s.n:Int)+1))] rfl OW.out ad l.length cap news rfl HLEN.out (HL3.out ad rfl) HONE.out (by unfold maxLen;omega) (by omega) (by rw [aC];omega) ?_;intro v5 w5 h1 h2 _ h4)
     obtain ⟨g5,cap5,rfl⟩:=aT h1 (by omega)
     have k5:aA wr w5:=Below.grown ((Below.refl wr.heap.size wr).alloc (Nat.le_refl _) _) h2 (by rw [aC];omega) (fun g hg=>by cases hg;exact Nat.le_refl _)
     have HO:Hid (aX wr.heap.size (.slice (some ⟨g5,0,none⟩) (1+l.length) cap5) (-((s.n:Int)+1) :: l) w5):=by
      show World.ownsRow _ _ _ _ _ _ _
      rw [List.length_cons,List.map_cons,show l.length+1=1+l.length by omega,← HNEWS.out]
      exact h1
     clear h1 h2 h4
     refine (eO (x.to v x.np cc) L (gG s l l.length) (fun b=>wr.heap.size<=b/\b<w5.heap.size) (-((s.n:Int)+1) :: l) _ _ _ w5 (by rw [List.length_cons];omega) (D2.out.keep k5) (fun b hb=>hb.2) (HO.out.nums (by rw [List.length_cons];omega)) (by rw [List.length_cons];omega) HS.out).mono ?_
     rintro e w4 ⟨rfl,v4,c4,d4,t4⟩
     have D4:=hid (tU H1.out ▸ d4)
     have T4:=hid ((T2.out.trans (aF.keep k5)).trans t4)
     clear d4 t4 k5
     go_wp2_with fail
     go_ret
     exact ⟨by simp [DS.someL,H1.out],v4,c4,D4.out,T4.out⟩
end Go.Proofs.YthaaaecmeafofaaGreatDoor.Cn
