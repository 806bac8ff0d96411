/- Steps of the proof: EncDraft, EncLits, EncRowsP, EncLitsP, SatKnown, MapP, EncMem. -/
import Derived.Test.YtonlloiemgdfkaaGreatDoorRe18
import Derived.Test.YtonlloiemgdfkaaGreatDoorRe11
import Derived.Test.YtonlloiemgdfkaaGreatDoorRe13
import Derived.Maps.Own
import Derived.Maps.OwnSet
import Derived.WideKeyPair
import Derived.Test.YtonlloiemgdfkaaGreatDoorRe17
set_option maxHeartbeats 16000000
set_option maxRecDepth 100000
namespace Go.Proofs.YtonlloiemgdfkaaGreatDoor.Cn
structure DS where
 n:Nat
 cl:List (List Int)
 pr:Int->Int->Int
def DS.clause (s:DS) (l:List Int):DS:=⟨s.n,s.cl ++ [l],s.pr⟩
def DS.someS (s:DS) (l:List Int):DS:=if l.length=1 then s else ⟨s.n+1,s.cl++l.map (fun x=> [(s.n:Int)+1,-x]) ++ [-((s.n:Int)+1) :: l],s.pr⟩
def DS.someL (s:DS) (l:List Int):Int:=if l.length=1 then l.getD 0 0 else (s.n:Int)+1
def DS.allS (s:DS) (l:List Int):DS:=s.someS (l.map fun x=> -x)
def DS.allL (s:DS) (l:List Int):Int:= -s.someL (l.map fun x=> -x)
def gO (f:Int->Int->Int) (a b x:Int):Int->Int->Int:=fun p q=>if p=a/\q=b then x else f p q
def DS.bothS (s:DS) (a b:Int):DS:=if s.pr a b=0 then ⟨(s.allS [a,b]).n,(s.allS [a,b]).cl,gO s.pr a b (s.allL [a,b])⟩ else s
def DS.bothL (s:DS) (a b:Int):Int:=if s.pr a b=0 then s.allL [a,b] else s.pr a b
def iS (but:Int) (nof:Bool) (tk fg:Int->Int) (x:DS × List Int) (z:Int):DS × List Int:=
 if z=but then x else if nof=true then (x.1,x.2 ++ [tk z]) else (x.1.bothS (tk z) (fg z),x.2 ++ [x.1.bothL (tk z) (fg z)])
def aHg (but:Int) (nof:Bool) (tk fg:Int->Int) (m:List Bool) (zs:List Int):Bool:=zs.any fun z=>decide (z≠but)&&inM m (tk z)&&(nof||inM m (fg z))
structure Sem (c:Nat) (K:List (Int × Int)) (s:DS) (V:List Bool->List Bool) (P:List Bool->Bool) (v q:Nat):Prop where
 le:c<=s.n
 pre : ∀ m,m.length=c->∀ j<c,(V m).getD j false=m.getD j false
 der : ∀ m,m.length=c->mN s.n s.cl (chL m) (V m)
 lits : ∀ x∈s.cl,aL s.n x/\x.length<=60
 may : ∀ m,m.length=c->((∀ x∈s.cl,∃ y∈x,inM (V m) y=true)↔P m=true)
 prs : ∃ ks:List (Int × Int),ks.Nodup/\(∀ k∈ks,k∈K)/\(∀ a b,s.pr a b≠0↔(a,b)∈ks)/\s.n<=v+ks.length/\s.cl.length<=q+3*ks.length
 pv : ∀ a b,s.pr a b≠0->Lit s.n (s.pr a b)/\Lit s.n a/\Lit s.n b/\∀ m,m.length=c->inM (V m) (s.pr a b)=(inM (V m) a&&inM (V m) b)
structure Gr (c:Nat) (s s':DS) (V V':List Bool->List Bool):Prop where
 n:s.n<=s'.n
 v : ∀ m,m.length=c->∀ x,Lit s.n x->inM (V' m) x=inM (V m) x
theorem Gr.refl (c:Nat) (s:DS) (V:List Bool->List Bool):Gr c s s V V:=⟨Nat.le_refl _,fun _ _ _ _=>rfl⟩
theorem Lit.le {n n':Nat} {x:Int} (h:Lit n x) (hn:n<=n'):Lit n' x:=⟨h.1,Nat.le_trans h.2 hn⟩
theorem aL.le {n n':Nat} {l:List Int} (h:aL n l) (hn:n<=n'):aL n' l:=fun x hx=>(h x hx).le hn
theorem Gr.trans {c:Nat} {s s' s'':DS} {V V' V'':List Bool->List Bool} (h:Gr c s s' V V') (h':Gr c s' s'' V' V''):Gr c s s'' V V'':=
 ⟨Nat.le_trans h.n h'.n,fun m hm x hx=>(h'.v m hm x (hx.le h.n)).trans (h.v m hm x hx)⟩
theorem Gr.any {c:Nat} {s s':DS} {V V':List Bool->List Bool} (h:Gr c s s' V V') {l:List Int} (hl:aL s.n l) {m:List Bool} (hm:m.length=c):l.any (inM (V' m))=l.any (inM (V m)):=by
 induction l with
 | nil=>rfl
 | cons x l ih=>rw [List.any_cons,List.any_cons,h.v m hm x (hl x List.mem_cons_self),ih fun y hy=>hl y (List.mem_cons_of_mem _ hy)]
theorem aKo {m m':List Bool} {n:Nat} (h : ∀ j<n,m'.getD j false=m.getD j false) {x:Int} (hx:Lit n x):inM m' x=inM m x:=by
 unfold inM
 obtain ⟨h0,hn⟩:=hx
 rw [h _ (by omega)]
theorem Sem.ch {c:Nat} {K:List (Int × Int)} {s:DS} {V:List Bool->List Bool} {P:List Bool->Bool} {v q:Nat} (h:Sem c K s V P v q) {m:List Bool} (hm:m.length=c) {x:Int} (hx:Lit c x):inM (V m) x=inM m x:=aKo (h.pre m hm) hx
theorem Sem.mono {c:Nat} {K:List (Int × Int)} {s:DS} {V:List Bool->List Bool} {P:List Bool->Bool} {v q v' q':Nat} (h:Sem c K s V P v q) (hv:v<=v') (hq:q<=q'):Sem c K s V P v' q':=by
 obtain ⟨ks,h1,h2,h3,h4,h5⟩:=h.prs
 exact ⟨h.le,h.pre,h.der,h.lits,h.may,⟨ks,h1,h2,h3,by omega,by omega⟩,h.pv⟩
theorem aTf {m:List Bool} {b:Bool} {n:Nat} (hl:m.length=n) {x:Int} (hx:Lit n x):inM (m ++ [b]) x=inM m x:=aKo (n:=n) (fun j hj=>by
 rw [List.getD_eq_getElem?_getD,List.getElem?_append_left (by omega),← List.getD_eq_getElem?_getD]) hx
theorem wY {m:List Bool} {b:Bool} {n:Nat} (hl:m.length=n):inM (m ++ [b]) ((n:Int)+1)=b:=by
 rw [show (n:Int)+1=((n+1:Nat):Int) by omega,lE (by omega),Nat.add_sub_cancel,← hl]
 simp [List.getD_eq_getElem?_getD]
theorem xM (n:Nat):Lit (n+1) ((n:Int)+1):=by unfold Lit;omega
theorem aNw (c:Nat) (K:List (Int × Int)):Sem c K ⟨c,[],fun _ _=>0⟩ id (fun _=>true) c 0:=
 ⟨Nat.le_refl _,fun _ _ _ _=>rfl,fun m hm=>by have:=mN.start [] m;rw [hm] at this;exact this,fun x hx=>by simp at hx,fun m _=>by simp,⟨[],by simp,by simp,by simp,by simp,by simp⟩,fun a b h=>absurd rfl h⟩
theorem nI {c:Nat} {K:List (Int × Int)} {s:DS} {V:List Bool->List Bool} {P:List Bool->Bool} {v q:Nat} (h:Sem c K s V P v q) {l:List Int} (hl:aL s.n l) (h60:l.length<=60) {P':List Bool->Bool} (hP : ∀ m,m.length=c->P' m=(P m&&l.any (inM (V m)))):Sem c K (s.clause l) V P' v (q+1):=by
 obtain ⟨ks,h1,h2,h3,h4,h5⟩:=h.prs
 refine ⟨h.le,h.pre,fun m hm=>(h.der m hm).more fun x hx=>List.mem_append_left _ hx,fun x hx=> ?_,fun m hm=> ?_,⟨ks,h1,h2,h3,h4,by show (s.cl ++ [l]).length<=_;simp;omega⟩,h.pv⟩
 ·rcases List.mem_append.1 hx with hx | hx
  ·exact h.lits x hx
  ·rw [List.mem_singleton.1 hx];exact ⟨hl,h60⟩
 ·rw [hP m hm,Bool.and_eq_true,← h.may m hm,List.any_eq_true]
  constructor
  ·intro H
   exact ⟨fun x hx=>H x (List.mem_append_left _ hx),H l (List.mem_append_right _ List.mem_cons_self)⟩
  ·rintro ⟨H1,H2⟩ x hx
   rcases List.mem_append.1 hx with hx | hx
   ·exact H1 x hx
   ·rw [List.mem_singleton.1 hx];exact H2
theorem oU {c:Nat} {K:List (Int × Int)} {s:DS} {V:List Bool->List Bool} {P:List Bool->Bool} {v q:Nat} (h:Sem c K s V P v q) {l:List Int} (hl:aL s.n l) (h59:l.length<=59) :
  ∃ V',Sem c K (s.someS l) V' P (v+1) (q+l.length+1)/\Gr c s (s.someS l) V V'/\Lit (s.someS l).n (s.someL l)/\∀ m,m.length=c->inM (V' m) (s.someL l)=l.any (inM (V m)):=by
 by_cases h1:l.length=1
 ·obtain ⟨x,rfl⟩ : ∃ x,l = [x]:=List.length_eq_one_iff.1 h1
  have eS:s.someS [x]=s:=by simp [DS.someS]
  have eL:s.someL [x]=x:=by simp [DS.someL]
  rw [eS,eL]
  exact ⟨V,h.mono (by omega) (by omega),Gr.refl ..,hl x List.mem_cons_self,fun m _=>by simp⟩
 ·have eS:s.someS l=⟨s.n+1,s.cl++l.map (fun x=> [(s.n:Int)+1,-x]) ++ [-((s.n:Int)+1) :: l],s.pr⟩:=by simp [DS.someS,h1]
  have eL:s.someL l=(s.n:Int)+1:=by simp [DS.someL,h1]
  rw [eS,eL]
  have hlen : ∀ m,m.length=c->(V m).length=s.n:=fun m hm=>(h.der m hm).len
  have happ : ∀ m,m.length=c->∀ x,Lit s.n x->inM (V m ++ [l.any (inM (V m))]) x=inM (V m) x:=fun m hm x hx=>aTf (hlen m hm) hx
  refine ⟨fun m=>V m ++ [l.any (inM (V m))],⟨Nat.le_succ_of_le h.le,fun m hm j hj=> ?_,fun m hm=> ?_,fun x hx=> ?_,fun m hm=> ?_,?_,fun a b hab=> ?_⟩,⟨Nat.le_succ _,happ⟩,xM _,fun m hm=>wY (hlen m hm)⟩
  ·rw [← h.pre m hm j hj,List.getD_eq_getElem?_getD,List.getElem?_append_left (by rw [hlen m hm];have:=h.le;omega),← List.getD_eq_getElem?_getD]
  ·refine ((h.der m hm).more fun x hx=>List.mem_append_left _ (List.mem_append_left _ hx)).or hl ⟨_,List.mem_append_right _ List.mem_cons_self,fun y=>by simp⟩ fun x hx=>⟨[(s.n:Int)+1,-x],List.mem_append_left _ (List.mem_append_right _ (List.mem_map.2 ⟨x,hx,rfl⟩)),fun y=>by simp⟩
  ·rcases List.mem_append.1 hx with hx | hx
   ·rcases List.mem_append.1 hx with hx | hx
    ·exact ⟨(h.lits x hx).1.le (Nat.le_succ _),(h.lits x hx).2⟩
    ·obtain ⟨z,hz,rfl⟩:=List.mem_map.1 hx
     refine ⟨fun y hy=> ?_,by simp⟩
     rcases List.mem_cons.1 hy with rfl | hy
     ·exact xM _
     ·rw [List.mem_singleton.1 hy];exact ((hl z hz).le (Nat.le_succ _)).neg
   ·rw [List.mem_singleton.1 hx]
    refine ⟨fun y hy=> ?_,by simp;omega⟩
    rcases List.mem_cons.1 hy with rfl | hy
    ·exact (xM _).neg
    ·exact (hl y hy).le (Nat.le_succ _)
  ·rw [← h.may m hm]
   constructor
   ·intro H x hx
    obtain ⟨y,hy,e⟩:=H x (List.mem_append_left _ (List.mem_append_left _ hx))
    exact ⟨y,hy,by rw [← happ m hm y ((h.lits x hx).1 y hy)];exact e⟩
   ·intro H x hx
    rcases List.mem_append.1 hx with hx | hx
    ·rcases List.mem_append.1 hx with hx | hx
     ·obtain ⟨y,hy,e⟩:=H x hx
      exact ⟨y,hy,(happ m hm y ((h.lits x hx).1 y hy)).trans e⟩
     ·obtain ⟨z,hz,rfl⟩:=List.mem_map.1 hx
      cases hb:inM (V m) z with
      | true=>exact ⟨_,List.mem_cons_self,(wY (hlen m hm)).trans (List.any_eq_true.2 ⟨z,hz,hb⟩)⟩
      | false=>exact ⟨-z,by simp,by rw [happ m hm _ (hl z hz).neg,dM _ (hl z hz).1,hb];rfl⟩
    ·rw [List.mem_singleton.1 hx]
     cases hb:l.any (inM (V m)) with
     | true=>
      obtain ⟨z,hz,e⟩:=List.any_eq_true.1 hb
      exact ⟨z,List.mem_cons_of_mem _ hz,by have:=happ m hm z (hl z hz);rw [hb] at this;exact this.trans e⟩
     | false=>exact ⟨_,List.mem_cons_self,by rw [dM _ (by omega),wY (hlen m hm)];rfl⟩
  ·obtain ⟨ks,h1,h2,h3,h4,h5⟩:=h.prs
   exact ⟨ks,h1,h2,h3,by show s.n+1<=_;omega,by simp;omega⟩
  ·obtain ⟨g1,g2,g3,g4⟩:=h.pv a b hab
   exact ⟨g1.le (Nat.le_succ _),g2.le (Nat.le_succ _),g3.le (Nat.le_succ _),fun m hm=>by rw [happ m hm _ g1,happ m hm _ g2,happ m hm _ g3];exact g4 m hm⟩
theorem aKd {m:List Bool} : ∀ {l:List Int},(∀ x∈l,x≠0)->(l.map fun x=> -x).any (inM m) = !l.all (inM m)
 | [],_=>rfl
 | x :: l,h=>by
  rw [List.map_cons,List.any_cons,List.all_cons,aKd fun y hy=>h y (List.mem_cons_of_mem _ hy),dM _ (h x List.mem_cons_self),Bool.not_and]
theorem aQl {n:Nat} {l:List Int} (h:aL n l):aL n (l.map fun x=> -x):=fun x hx=>by
 obtain ⟨y,hy,rfl⟩:=List.mem_map.1 hx;exact (h y hy).neg
theorem aLm {c:Nat} {K:List (Int × Int)} {s:DS} {V:List Bool->List Bool} {P:List Bool->Bool} {v q:Nat} (h:Sem c K s V P v q) {l:List Int} (hl:aL s.n l) (h59:l.length<=59) :
  ∃ V',Sem c K (s.allS l) V' P (v+1) (q+l.length+1)/\Gr c s (s.allS l) V V'/\Lit (s.allS l).n (s.allL l)/\∀ m,m.length=c->inM (V' m) (s.allL l)=l.all (inM (V m)):=by
 obtain ⟨V',h1,h2,h3,h4⟩:=oU h (aQl hl) (by simpa using h59)
 rw [List.length_map] at h1
 refine ⟨V',h1,h2,h3.neg,fun m hm=> ?_⟩
 show inM (V' m) (-s.someL _)=_
 rw [dM _ h3.1,h4 m hm,aKd fun x hx=>(hl x hx).1,Bool.not_not]
theorem aRl {c:Nat} {K:List (Int × Int)} {s:DS} {V:List Bool->List Bool} {P:List Bool->Bool} {v q:Nat} (h:Sem c K s V P v q) {a b:Int} (ha:Lit s.n a) (hb:Lit s.n b) (hK:(a,b)∈K) :
  ∃ V',Sem c K (s.bothS a b) V' P v q/\Gr c s (s.bothS a b) V V'/\Lit (s.bothS a b).n (s.bothL a b)/\∀ m,m.length=c->inM (V' m) (s.bothL a b)=(inM (V m) a&&inM (V m) b):=by
 by_cases h0:s.pr a b=0
 ·have hl:aL s.n [a,b]:=fun x hx=>by
   rcases List.mem_cons.1 hx with rfl | hx
   ·exact ha
   ·rw [List.mem_singleton.1 hx];exact hb
  obtain ⟨V',h1,h2,h3,h4⟩:=aLm h hl (by simp)
  have e4 : ∀ m,m.length=c->inM (V' m) (s.allL [a,b])=(inM (V m) a&&inM (V m) b):=fun m hm=>by rw [h4 m hm];simp
  have eS:s.bothS a b=⟨(s.allS [a,b]).n,(s.allS [a,b]).cl,gO s.pr a b (s.allL [a,b])⟩:=by simp [DS.bothS,h0]
  have eL:s.bothL a b=s.allL [a,b]:=by simp [DS.bothL,h0]
  have epr:(s.allS [a,b]).pr=s.pr:=by simp [DS.allS,DS.someS]
  rw [eS,eL]
  obtain ⟨ks,g1,g2,g3,g4,g5⟩:=h1.prs
  rw [epr] at g3
  have hnot:(a,b) ∉ ks:=fun hin=>(g3 a b).2 hin h0
  refine ⟨V',⟨h1.le,h1.pre,h1.der,h1.lits,h1.may,⟨(a,b) :: ks,List.nodup_cons.2 ⟨hnot,g1⟩,fun k hk=> ?_,fun p r=> ?_,by simp only [List.length_cons] at *;omega,by simp only [List.length_cons,List.length_nil] at *;omega⟩,fun p r hpr=> ?_⟩,⟨h2.n,h2.v⟩,h3,e4⟩
  ·rcases List.mem_cons.1 hk with rfl | hk
   ·exact hK
   ·exact g2 k hk
  ·show gO s.pr a b (s.allL [a,b]) p r≠0↔_
   unfold gO
   rw [List.mem_cons,Prod.mk.injEq]
   by_cases e:p=a/\r=b
   ·rw [if_pos e];exact ⟨fun _=> .inl e,fun _=>h3.1⟩
   ·rw [if_neg e,g3 p r];exact ⟨.inr,fun hh=>hh.resolve_left e⟩
  ·show Lit _ (gO s.pr a b (s.allL [a,b]) p r)/\_/\_/\∀ m,_->inM (V' m) (gO s.pr a b (s.allL [a,b]) p r)=_
   have hpr:gO s.pr a b (s.allL [a,b]) p r≠0:=hpr
   unfold gO at hpr ⊢
   by_cases e:p=a/\r=b
   ·rw [if_pos e]
    obtain ⟨rfl,rfl⟩:=e
    exact ⟨h3,ha.le h2.n,hb.le h2.n,fun m hm=>by rw [e4 m hm,h2.v m hm _ ha,h2.v m hm _ hb]⟩
   ·rw [if_neg e] at hpr ⊢
    have:=h1.pv p r (by rw [epr];exact hpr)
    rw [epr] at this
    exact this
 ·have eS:s.bothS a b=s:=by simp [DS.bothS,h0]
  have eL:s.bothL a b=s.pr a b:=by simp [DS.bothL,h0]
  rw [eS,eL]
  obtain ⟨g1,-,-,g4⟩:=h.pv a b h0
  exact ⟨V,h,Gr.refl ..,g1,g4⟩
theorem vX {c:Nat} {K:List (Int × Int)} {P:List Bool->Bool} {v q:Nat} {but:Int} {nof:Bool} {tk fg:Int->Int} : ∀ {zs:List Int} {s:DS} {acc:List Int} {V:List Bool->List Bool},Sem c K s V P v q->aL s.n acc->(∀ z∈zs,Lit c (tk z)/\(nof=false->Lit c (fg z)/\(tk z,fg z)∈K))->
  ∃ V',Sem c K (zs.foldl (iS but nof tk fg) (s,acc)).1 V' P v q/\Gr c s (zs.foldl (iS but nof tk fg) (s,acc)).1 V V'/\aL (zs.foldl (iS but nof tk fg) (s,acc)).1.n (zs.foldl (iS but nof tk fg) (s,acc)).2/\(zs.foldl (iS but nof tk fg) (s,acc)).2.length<=acc.length+zs.length/\
   ∀ m,m.length=c->(zs.foldl (iS but nof tk fg) (s,acc)).2.any (inM (V' m))=(acc.any (inM (V m))||aHg but nof tk fg m zs)
 | [],s,acc,V,h,hacc,_=>⟨V,h,Gr.refl ..,hacc,by simp,fun m _=>by simp [aHg]⟩
 | z :: zs,s,acc,V,h,hacc,hz=>by
  have hz' : ∀ y∈zs,Lit c (tk y)/\(nof=false->Lit c (fg y)/\(tk y,fg y)∈K):=fun y hy=>hz y (List.mem_cons_of_mem _ hy)
  obtain ⟨k1,k2⟩:=hz z List.mem_cons_self
  rw [List.foldl_cons]
  have hB : ∀ m,aHg but nof tk fg m (z :: zs)=((decide (z≠but)&&inM m (tk z)&&(nof||inM m (fg z)))||aHg but nof tk fg m zs):=fun m=>by unfold aHg;rw [List.any_cons]
  by_cases e:z=but
  ·have eF:iS but nof tk fg (s,acc) z=(s,acc):=by simp [iS,e]
   rw [eF]
   obtain ⟨V',i1,i2,i3,i4,i5⟩:=vX h hacc hz'
   refine ⟨V',i1,i2,i3,by simp;omega,fun m hm=> ?_⟩
   rw [i5 m hm,hB]
   simp [e]
  ·by_cases en:nof=true
   ·have eF:iS but nof tk fg (s,acc) z=(s,acc ++ [tk z]):=by simp [iS,e,en]
    rw [eF]
    have hacc':aL s.n (acc ++ [tk z]):=fun x hx=>by
     rcases List.mem_append.1 hx with hx | hx
     ·exact hacc x hx
     ·rw [List.mem_singleton.1 hx];exact k1.le h.le
    obtain ⟨V',i1,i2,i3,i4,i5⟩:=vX h hacc' hz'
    refine ⟨V',i1,i2,i3,by simp at i4 ⊢;omega,fun m hm=> ?_⟩
    rw [i5 m hm,hB,List.any_append,List.any_cons,List.any_nil,h.ch hm k1]
    simp [e,en,Bool.or_assoc]
   ·have en:nof=false:=by simpa using en
    obtain ⟨k3,k4⟩:=k2 en
    have eF:iS but nof tk fg (s,acc) z=(s.bothS (tk z) (fg z),acc ++ [s.bothL (tk z) (fg z)]):=by simp [iS,e,en]
    rw [eF]
    obtain ⟨V1,j1,j2,j3,j4⟩:=aRl h (k1.le h.le) (k3.le h.le) k4
    have hacc':aL (s.bothS (tk z) (fg z)).n (acc ++ [s.bothL (tk z) (fg z)]):=fun x hx=>by
     rcases List.mem_append.1 hx with hx | hx
     ·exact (hacc x hx).le j2.n
     ·rw [List.mem_singleton.1 hx];exact j3
    obtain ⟨V',i1,i2,i3,i4,i5⟩:=vX j1 hacc' hz'
    refine ⟨V',i1,j2.trans i2,i3,by simp at i4 ⊢;omega,fun m hm=> ?_⟩
    rw [i5 m hm,hB,List.any_append,List.any_cons,List.any_nil,j2.any hacc hm,j4 m hm,h.ch hm k1,h.ch hm k3]
    simp [e,en,Bool.or_assoc]
theorem aAm : ∀ {ks K:List (Int × Int)},ks.Nodup->(∀ k∈ks,k∈K)->ks.length<=K.length
 | [],_,_,_=>by simp
 | k :: ks,K,hn,h=>by
  obtain ⟨h1,h2⟩:=List.nodup_cons.1 hn
  have hk:=h k List.mem_cons_self
  have:=aAm (K:=K.erase k) h2 fun x hx=>(List.mem_erase_of_ne (fun e=>h1 (by rw [← e];exact hx))).2 (h x (List.mem_cons_of_mem _ hx))
  rw [List.length_erase_of_mem hk] at this
  have:0<K.length:=List.length_pos_of_mem hk
  simp
  omega
theorem Sem.size {c:Nat} {K:List (Int × Int)} {s:DS} {V:List Bool->List Bool} {P:List Bool->Bool} {v q:Nat} (h:Sem c K s V P v q):s.n<=v+K.length/\s.cl.length<=q+3*K.length:=by
 obtain ⟨ks,h1,h2,-,h4,h5⟩:=h.prs
 have:=aAm h1 h2
 omega
theorem Sem.ok {c:Nat} {K:List (Int × Int)} {s:DS} {V:List Bool->List Bool} {P:List Bool->Bool} {v q:Nat} (h:Sem c K s V P v q):wA s.n c s.cl P:=by
 intro m hm
 have hA:aL s.n (chL m):=fun x hx=>(fH m x hx).le (by rw [hm];exact h.le)
 have hAv : ∀ x∈chL m,inM (V m) x=true:=aUw fun v hv=>h.pre m hm v (by omega)
 refine ⟨fun hp=>(h.der m hm).done (fun x hx=>(h.lits x hx).1) hA hAv ((h.may m hm).2 hp),fun hp=> ?_⟩
 have hnot : ¬ ∀ x∈s.cl,∃ y∈x,inM (V m) y=true:=fun H=>by
  have:=(h.may m hm).1 H
  rw [hp] at this;cases this
 obtain ⟨x,hx⟩:=Classical.not_forall.1 hnot
 obtain ⟨hx,hno⟩:=Classical.not_imp.1 hx
 refine (h.der m hm).bad hx (h.lits x hx).1 fun y hy=> ?_
 cases hb:inM (V m) y with
 | false=>rfl
 | true=>exact absurd ⟨y,hy,hb⟩ hno
def sg (x:Int) (b:Bool):Int:=if b=true then x else -x
theorem qW {n:Nat} {x:Int} (h:Lit n x) (b:Bool):Lit n (sg x b):=by
 unfold sg
 split
 ·exact h
 ·exact h.neg
theorem aCd {m:List Bool} {x:Int} (h:x≠0) (b:Bool):inM m (sg x b)=(inM m x==b):=by
 unfold sg
 cases b with
 | true=>simp
 | false=>simp [dM m h]
theorem aKp (m:List Bool) (v:Nat):inM m ((v:Int)+1)=m.getD v false:=by
 rw [show (v:Int)+1=((v+1:Nat):Int) by omega,lE (by omega),Nat.add_sub_cancel]
def CT.tkL (c:CT) (i:Nat):Int:=sg ((c.order.idxOf i:Int)+1) (!c.ins.contains i)
def CT.fgL (c:CT) (i k:Nat):Int:=sg (((c.base i+k:Nat):Int)+1) (!c.on i k)
theorem CT.tk_in (c:CT) (m:List Bool) (i:Nat):inM m (c.tkL i)=c.takes m i:=by
 unfold CT.tkL CT.takes
 rw [aCd (by omega),aKp]
 cases m.getD (c.order.idxOf i) false<;>cases c.ins.contains i<;>rfl
theorem CT.fg_in (c:CT) (m:List Bool) (i k:Nat):inM m (c.fgL i k)=(m.getD (c.base i+k) false != c.on i k):=by
 unfold CT.fgL
 rw [aCd (by omega),aKp]
 cases m.getD (c.base i+k) false<;>cases c.on i k<;>rfl
theorem CT.tk_lit {c:CT} (h:c.Ok) {i:Nat} (hi:i<c.nf.length):Lit c.many (c.tkL i):=by
 have h1:=List.idxOf_lt_length_iff.2 ((CT.order_mem h i).2 hi)
 rw [CT.order_len h] at h1
 refine qW ?_ _
 unfold Lit CT.many
 omega
theorem oW : ∀ (l:List Nat) (i k:Nat),i<l.length->k<l.getD i 0->(l.take i).sum+k<l.sum
 | [],i,k,h,_=>by simp at h
 | a :: l,0,k,_,hk=>by simp at hk ⊢;omega
 | a :: l,i+1,k,h,hk=>by
  have:=oW l i k (by simpa using h) (by simpa using hk)
  simp
  omega
theorem CT.fg_lit (c:CT) {i k:Nat} (hi:i<c.nf.length) (hk:k<c.nf.getD i 0):Lit c.many (c.fgL i k):=by
 have:=oW c.nf i k hi hk
 refine qW ?_ _
 unfold Lit CT.many CT.base
 omega
def CT.keys (c:CT):List (Int × Int):=(List.range c.nf.length).flatMap fun i=>(List.range (c.nf.getD i 0)).flatMap fun k=> [(c.tkL i,c.fgL i k),(c.tkL i,-c.fgL i k)]
theorem CT.keys_mem (c:CT) {i k:Nat} (hi:i<c.nf.length) (hk:k<c.nf.getD i 0) (b:Bool):(c.tkL i,sg (c.fgL i k) b)∈c.keys:=by
 unfold CT.keys
 refine List.mem_flatMap.2 ⟨i,List.mem_range.2 hi,List.mem_flatMap.2 ⟨k,List.mem_range.2 hk,?_⟩⟩
 unfold sg
 cases b<;>simp
theorem aSb (n:Nat) (f:Nat->Int × Int) (g:Nat->Int × Int):((List.range n).flatMap fun k=> [f k,g k]).length=2*n:=by
 induction n with
 | zero=>simp
 | succ n ih=>rw [List.range_succ,List.flatMap_append,List.length_append,ih];simp;omega
theorem aKv (c:CT) : ∀ i,i<=c.nf.length->((List.range i).flatMap fun i=>(List.range (c.nf.getD i 0)).flatMap fun k=> [(c.tkL i,c.fgL i k),(c.tkL i,-c.fgL i k)]).length=2*(c.nf.take i).sum
 | 0,_=>by simp
 | i+1,h=>by
  rw [List.range_succ,List.flatMap_append,List.length_append,aKv c i (by omega),List.take_succ_eq_append_getElem (by omega),List.sum_append,List.flatMap_cons,List.flatMap_nil,List.append_nil,aSb]
  simp [List.getD_eq_getElem?_getD,List.getElem?_eq_getElem (show i<c.nf.length by omega)]
  omega
theorem CT.keys_len (c:CT):c.keys.length=2*c.nf.sum:=by
 have:=aKv c c.nf.length (Nat.le_refl _)
 rw [List.take_length] at this
 exact this
def CT.t1 (c:CT):Nat->List Int
 | 0=>List.replicate c.nf.length 0
 | j+1=>(c.t1 j).set (c.ins.getD j 0) (-((j:Int)+1))
theorem CT.t1_len (c:CT) : ∀ j,(c.t1 j).length=c.nf.length
 | 0=>by simp [CT.t1]
 | j+1=>by rw [CT.t1,List.length_set,CT.t1_len c j]
theorem CT.t1_get {c:CT} (h:c.Ok) : ∀ j,j<=c.ins.length->∀ i,(c.t1 j).getD i 0=if (c.ins.take j).contains i=true then -((c.ins.idxOf i:Int)+1) else 0
 | 0,_,i=>by
  rw [CT.t1,List.getD_eq_getElem?_getD,List.getElem?_replicate]
  split<;>simp
 | j+1,hj,i=>by
  have hin:c.ins[j]? = some c.ins[j]:=List.getElem?_eq_getElem (by omega)
  have hg:c.ins.getD j 0=c.ins[j]:=by rw [List.getD_eq_getElem?_getD,hin];rfl
  rw [CT.t1,hg,List.take_succ_eq_append_getElem (by omega)]
  have hlt:=h.lt c.ins[j] (List.getElem_mem _)
  by_cases e:c.ins[j]=i
  ·subst e
   rw [List.getD_eq_getElem?_getD,List.getElem?_set_self (by rw [CT.t1_len];exact hlt),qS (xX h.up) hin,if_pos (by rw [List.contains_eq_mem,decide_eq_true_eq];exact List.mem_append_right _ List.mem_cons_self)]
   rfl
  ·have e2:(c.ins.take j ++ [c.ins[j]]).contains i=(c.ins.take j).contains i:=by
    rw [Bool.eq_iff_iff]
    simp only [List.contains_eq_mem,List.mem_append,List.mem_singleton,decide_eq_true_eq]
    constructor
    ·rintro (h | h)
     ·exact h
     ·exact absurd h.symm e
    ·exact .inl
   rw [List.getD_eq_getElem?_getD,List.getElem?_set_ne e,← List.getD_eq_getElem?_getD,CT.t1_get h j (by omega) i,e2]
def CT.t2 (c:CT):Nat->List Int × Int
 | 0=>(c.t1 c.ins.length,(c.ins.length:Int))
 | k+1=>if (c.t2 k).1.getD k 0=0 then ((c.t2 k).1.set k ((c.t2 k).2+1),(c.t2 k).2+1) else c.t2 k
theorem CT.t2_len (c:CT) : ∀ k,(c.t2 k).1.length=c.nf.length
 | 0=>CT.t1_len c _
 | k+1=>by
  rw [CT.t2]
  split
  ·rw [List.length_set,CT.t2_len c k]
  ·exact CT.t2_len c k
theorem aIc (p:Nat->Bool) {n k:Nat} (hk:k<n) (hp:p k=true):((List.range n).filter p).idxOf k=((List.range k).filter p).length:=by
 have hsp:List.range n=List.range k++(k :: List.range' (k+1) (n-k-1)):=by
  rw [List.range_eq_range',List.range_eq_range',← List.range'_succ,show n-k-1+1=n-k by omega]
  have:= @List.range'_append_1 0 k (n-k)
  rw [Nat.zero_add,show k+(n-k)=n by omega] at this
  exact this.symm
 rw [hsp,List.filter_append,List.filter_cons_of_pos hp,List.idxOf_append,if_neg (fun h=>by have:=List.mem_range.1 (List.mem_filter.1 h).1;omega),List.idxOf_cons_self]
 omega
theorem CT.tk_other {c:CT} {k:Nat} (hk:k<c.nf.length) (hn:c.ins.contains k=false):c.tkL k=((c.ins.length+((List.range k).filter fun i=> !c.ins.contains i).length:Nat):Int)+1:=by
 unfold CT.tkL CT.order sg
 have h1:k ∉ c.ins:=by simpa using hn
 rw [hn,Bool.not_false,if_pos rfl,List.idxOf_append,if_neg h1,aIc (fun i=> !c.ins.contains i) hk (by rw [hn];rfl)]
 omega
theorem CT.tk_ins {c:CT} {k:Nat} (hn:c.ins.contains k=true):c.tkL k = -((c.ins.idxOf k:Int)+1):=by
 unfold CT.tkL CT.order sg
 have h1:k∈c.ins:=by simpa using hn
 rw [hn,Bool.not_true,if_neg (by decide),List.idxOf_append,if_pos h1]
theorem CT.t2_get {c:CT} (h:c.Ok) : ∀ k,k<=c.nf.length->(c.t2 k).2=((c.ins.length+((List.range k).filter fun i=> !c.ins.contains i).length:Nat):Int)/\∀ i,i<c.nf.length->(c.t2 k).1.getD i 0=if i<k∨c.ins.contains i=true then c.tkL i else 0
 | 0,_=>⟨by simp [CT.t2],fun i hi=>by
   rw [CT.t2]
   show (c.t1 c.ins.length).getD i 0=_
   rw [CT.t1_get h _ (Nat.le_refl _),List.take_length]
   by_cases e:c.ins.contains i=true
   ·rw [if_pos e,if_pos (.inr e),CT.tk_ins e]
   ·rw [if_neg e,if_neg (fun h=>h.elim (by omega) e)]⟩
 | k+1,hk=>by
  obtain ⟨h1,h2⟩:=CT.t2_get h k (by omega)
  have hgk:=h2 k (by omega)
  rw [CT.t2,List.range_succ,List.filter_append]
  cases e:c.ins.contains k with
  | true=>
   rw [e,if_pos (.inr rfl)] at hgk
   have hne:c.tkL k≠0:=(CT.tk_lit h (by omega)).1
   rw [if_neg (by rw [hgk];exact hne)]
   refine ⟨by rw [h1,List.filter_cons_of_neg (by simpa using e)];simp,fun i hi=> ?_⟩
   rw [h2 i hi]
   by_cases hik:i=k
   ·subst hik;rw [if_pos (.inr e),if_pos (.inr e)]
   ·by_cases h3:i<k∨c.ins.contains i=true
    ·rw [if_pos h3,if_pos (h3.imp (by omega) id)]
    ·rw [if_neg h3,if_neg (fun h=>h3 (h.imp (by omega) id))]
  | false=>
   rw [e,if_neg (by simp)] at hgk
   rw [if_pos hgk]
   have h5:=CT.tk_other (c:=c) (k:=k) (by omega) e
   refine ⟨by rw [h1,List.filter_cons_of_pos (by simp only [e,Bool.not_false])];simp;omega,fun i hi=> ?_⟩
   show ((c.t2 k).1.set k ((c.t2 k).2+1)).getD i 0=_
   by_cases hik:k=i
   ·subst hik
    rw [List.getD_eq_getElem?_getD,List.getElem?_set_self (by rw [CT.t2_len];omega),h1,if_pos (.inl (by omega)),h5]
    rfl
   ·rw [List.getD_eq_getElem?_getD,List.getElem?_set_ne hik,← List.getD_eq_getElem?_getD,h2 i hi]
    by_cases h3:i<k∨c.ins.contains i=true
    ·rw [if_pos h3,if_pos (h3.imp (by omega) id)]
    ·rw [if_neg h3,if_neg (fun h=>h3 (h.imp (by omega) id))]
def CT.tks (c:CT):List Int:=(List.range c.nf.length).map c.tkL
theorem CT.tks_get (c:CT) {i:Nat} (hi:i<c.nf.length):c.tks[i]? = some (c.tkL i):=by
 unfold CT.tks
 rw [List.getElem?_map,List.getElem?_range hi];rfl
theorem CT.tks_len (c:CT):c.tks.length=c.nf.length:=by simp [CT.tks]
theorem CT.t2_done {c:CT} (h:c.Ok):c.t2 c.nf.length=(c.tks,(c.nf.length:Int)):=by
 obtain ⟨h1,h2⟩:=CT.t2_get h c.nf.length (Nat.le_refl _)
 refine Prod.ext ?_ ?_
 ·refine List.ext_getElem? fun i=> ?_
  by_cases hi:i<c.nf.length
  ·have:=h2 i hi
   rw [if_pos (.inl hi),List.getD_eq_getElem?_getD,List.getElem?_eq_getElem (by rw [CT.t2_len];exact hi)] at this
   rw [CT.tks_get c hi,List.getElem?_eq_getElem (by rw [CT.t2_len];exact hi)]
   exact congrArg some this
  ·rw [List.getElem?_eq_none (by rw [CT.t2_len];omega),List.getElem?_eq_none (by rw [CT.tks_len];omega)]
 ·rw [h1]
  have:=CT.order_len h
  unfold CT.order at this
  rw [List.length_append] at this
  show _=(c.nf.length:Int)
  omega
theorem CT.t2_le {c:CT} (h:c.Ok) {k:Nat} (hk:k<=c.nf.length):0<=(c.t2 k).2/\(c.t2 k).2<=2*c.nf.length:=by
 obtain ⟨h1,-⟩:=CT.t2_get h k hk
 have h2:=List.length_filter_le (fun i=> !c.ins.contains i) (List.range k)
 rw [List.length_range] at h2
 have h3:=CT.order_len h
 unfold CT.order at h3
 rw [List.length_append] at h3
 omega
def CT.f3 (c:CT) (i k:Nat) (x y:Int):Int:=if 0<=x/\0<=y/\y<c.nf.getD x.toNat 0/\(x<i∨x=i/\y<k) then ((c.base x.toNat+y.toNat:Nat):Int)+1 else 0
theorem CT.f3_zero (c:CT):c.f3 0 0=fun _ _=>0:=by
 funext x y
 unfold CT.f3
 rw [if_neg (by omega)]
theorem CT.f3_put (c:CT) {i k:Nat} (hk:k<c.nf.getD i 0):gO (c.f3 i k) (i:Int) (k:Int) (((c.base i+k:Nat):Int)+1)=c.f3 i (k+1):=by
 funext x y
 unfold gO
 by_cases e:x=(i:Int)/\y=(k:Int)
 ·obtain ⟨rfl,rfl⟩:=e
  rw [if_pos ⟨rfl,rfl⟩,CT.f3,if_pos ⟨by omega,by omega,by rw [Int.toNat_natCast];omega,by omega⟩,Int.toNat_natCast,Int.toNat_natCast]
 ·rw [if_neg e]
  unfold CT.f3
  by_cases h:0<=x/\0<=y/\y<c.nf.getD x.toNat 0/\(x<i∨x=i/\y<k)
  ·rw [if_pos h,if_pos ⟨h.1,h.2.1,h.2.2.1,by omega⟩]
  ·rw [if_neg h,if_neg (fun g=>h ⟨g.1,g.2.1,g.2.2.1,by omega⟩)]
theorem CT.f3_next (c:CT) {i k:Nat} (hk:k=c.nf.getD i 0):c.f3 i k=c.f3 (i+1) 0:=by
 subst hk
 funext x y
 unfold CT.f3
 by_cases h:0<=x/\0<=y/\y<c.nf.getD x.toNat 0/\(x<i∨x=i/\y<c.nf.getD i 0)
 ·rw [if_pos h,if_pos ⟨h.1,h.2.1,h.2.2.1,by omega⟩]
 ·rw [if_neg h,if_neg (fun g=>h ⟨g.1,g.2.1,g.2.2.1,by
   by_cases hx:x=i
   ·right
    have:=g.2.2.1
    rw [hx,Int.toNat_natCast] at this
    exact ⟨hx,this⟩
   ·left;omega⟩)]
def CT.f4 (c:CT) (on:List (Int × Int)) (j:Nat) (x y:Int):Int:=if (on.take j).contains (x,y)=true then -(c.f3 c.nf.length 0 x y) else c.f3 c.nf.length 0 x y
theorem CT.f4_zero (c:CT) (on:List (Int × Int)):c.f4 on 0=c.f3 c.nf.length 0:=by
 funext x y
 simp [CT.f4]
theorem CT.f4_put (c:CT) {on:List (Int × Int)} (hn:on.Nodup) {j:Nat} (hj:j<on.length):gO (c.f4 on j) on[j].1 on[j].2 (-(c.f4 on j on[j].1 on[j].2))=c.f4 on (j+1):=by
 have hnot:(on.take j).contains on[j]=false:=by
  have:on[j] ∉ on.take j:=fun hm=>by
   obtain ⟨i,hi,e⟩:=List.getElem_of_mem hm
   rw [List.getElem_take] at e
   rw [List.length_take] at hi
   rw [List.nodup_iff_pairwise_ne,List.pairwise_iff_getElem] at hn
   exact hn i j (by omega) hj (by omega) e
  simpa using this
 funext x y
 unfold gO
 by_cases e:x=on[j].1/\y=on[j].2
 ·rw [if_pos e]
  obtain ⟨rfl,rfl⟩:=e
  have h2:(on.take (j+1)).contains (on[j].1,on[j].2)=true:=by rw [List.take_succ_eq_append_getElem hj,List.contains_eq_mem,decide_eq_true_eq];exact List.mem_append_right _ List.mem_cons_self
  unfold CT.f4
  rw [if_pos h2,if_neg (by rw [show (on[j].1,on[j].2)=on[j] from rfl,hnot];decide)]
 ·rw [if_neg e]
  unfold CT.f4
  have h2:(on.take (j+1)).contains (x,y)=(on.take j).contains (x,y):=by
   rw [List.take_succ_eq_append_getElem hj,Bool.eq_iff_iff]
   simp only [List.contains_eq_mem,List.mem_append,List.mem_singleton,decide_eq_true_eq]
   constructor
   ·rintro (h | h)
    ·exact h
    ·exact absurd ⟨congrArg Prod.fst h,congrArg Prod.snd h⟩ e
   ·exact .inl
  rw [h2]
def CT.fgs (c:CT) (on:List (Int × Int)):Int->Int->Int:=c.f4 on on.length
theorem CT.fgs_get {c:CT} {on:List (Int × Int)} (hc : ∀ i k:Nat,c.on i k=on.contains ((i:Int),(k:Int))) {i k:Nat} (hi:i<c.nf.length) (hk:k<c.nf.getD i 0):c.fgs on (i:Int) (k:Int)=c.fgL i k:=by
 unfold CT.fgs CT.f4 CT.fgL sg
 rw [List.take_length,hc i k]
 have h3:c.f3 c.nf.length 0 (i:Int) (k:Int)=((c.base i+k:Nat):Int)+1:=by
  rw [CT.f3,if_pos ⟨by omega,by omega,by rw [Int.toNat_natCast];omega,by omega⟩,Int.toNat_natCast,Int.toNat_natCast]
 rw [h3]
 cases on.contains ((i:Int),(k:Int))<;>simp
theorem CT.f3_le (c:CT) (i k:Nat) (x y:Int) (hi:i<=c.nf.length) (hk:0<k->i<c.nf.length):0<=c.f3 i k x y/\c.f3 i k x y<=c.many:=by
 unfold CT.f3
 by_cases h:0<=x/\0<=y/\y<c.nf.getD x.toNat 0/\(x<i∨x=i/\y<k)
 ·rw [if_pos h]
  have:=CT.fg_lit c (i:=x.toNat) (k:=y.toNat) (by omega) (by omega)
  unfold CT.fgL sg Lit at this
  have h2:(((c.base x.toNat+y.toNat:Nat):Int)+1).natAbs<=c.many:=by
   split at this
   ·exact this.2
   ·have:=this.2;omega
  omega
 ·rw [if_neg h];omega
theorem CT.f4_le (c:CT) (on:List (Int × Int)) (j:Nat) (x y:Int):(c.f4 on j x y).natAbs<=c.many:=by
 have:=CT.f3_le c c.nf.length 0 x y (Nat.le_refl _) (by omega)
 unfold CT.f4
 split<;>omega
def yH (row:List Int) (x:Int):List Int:=row.set (x.natAbs-1) x
theorem aCy {m:List Bool} {x:Int} (hx:Lit m.length x):yH (chL m) x=chL (m.set (x.natAbs-1) (decide (0<x))):=by
 obtain ⟨h0,h1⟩:=hx
 unfold yH
 refine List.ext_getElem? fun v=> ?_
 by_cases hv:v<m.length
 ·rw [iO (by simpa using hv)]
  by_cases e:x.natAbs-1=v
  ·subst e
   rw [List.getElem?_set_self (by rw [dT];omega)]
   have h2:(m.set (x.natAbs-1) (decide (0<x))).getD (x.natAbs-1) false=decide (0<x):=by simp [List.getD_eq_getElem?_getD,hv]
   rw [h2]
   by_cases hp:0<x
   ·simp only [hp,decide_true,if_true];congr 1;omega
   ·simp only [hp,decide_false,Bool.false_eq_true,if_false];congr 1;omega
  ·rw [List.getElem?_set_ne e,iO hv]
   have h2:(m.set (x.natAbs-1) (decide (0<x))).getD v false=m.getD v false:=by simp [List.getD_eq_getElem?_getD,List.getElem?_set_ne e]
   rw [h2]
 ·rw [List.getElem?_eq_none (by rw [List.length_set,dT];omega),List.getElem?_eq_none (by rw [dT,List.length_set];omega)]
def yF (n:Nat):Nat->List Int
 | 0=>List.replicate n 0
 | k+1=>yH (yF n k) (-((k:Int)+1))
theorem sZ (n:Nat) : ∀ k,(yF n k).length=n
 | 0=>by simp [yF]
 | k+1=>by rw [yF,yH,List.length_set,sZ n k]
theorem aGi (n:Nat) : ∀ k,k<=n->∀ v,v<k->(yF n k)[v]? = some (-(v:Int)-1)
 | 0,_,v,h=>by omega
 | k+1,hk,v,h=>by
  rw [yF,yH,show (-((k:Int)+1)).natAbs-1=k by omega]
  by_cases e:k=v
  ·subst e
   rw [List.getElem?_set_self (by rw [sZ];omega)];congr 1;omega
  ·rw [List.getElem?_set_ne e,aGi n k (by omega) v (by omega)]
theorem aNu (n:Nat):yF n n=chL (List.replicate n false):=by
 refine List.ext_getElem? fun v=> ?_
 by_cases hv:v<n
 ·rw [aGi n n (Nat.le_refl _) v hv,iO (by simpa using hv)]
  simp [List.getD_eq_getElem?_getD,hv]
 ·rw [List.getElem?_eq_none (by rw [sZ];omega),List.getElem?_eq_none (by rw [dT];simp;omega)]
def CT.stT (c:CT) (m:List Bool) (i:Nat):List Bool:=m.set (c.order.idxOf i) (c.ins.contains i)
def CT.stY (c:CT) (m:List Bool) (i:Nat):List Bool:=m.set (c.order.idxOf i) (!c.ins.contains i)
def CT.stF (c:CT) (i:Nat) (on:List Bool) (m:List Bool):Nat->List Bool
 | 0=>m
 | k+1=>(c.stF i on m k).set (c.base i+k) (on.getD k false != c.on i k)
theorem oV (x:Int) (b:Bool):(sg x b).natAbs=x.natAbs:=by unfold sg;split<;>omega
theorem CT.set_tkN {c:CT} (h:c.Ok) {m:List Bool} (hm:m.length=c.many) {i:Nat} (hi:i<c.nf.length):yH (chL m) (-c.tkL i)=chL (c.stT m i):=by
 rw [aCy (by rw [hm];exact (CT.tk_lit h hi).neg)]
 unfold CT.stT
 have h1:(-c.tkL i).natAbs-1=c.order.idxOf i:=by unfold CT.tkL;rw [Int.natAbs_neg,oV];omega
 have h2:decide (0 < -c.tkL i)=c.ins.contains i:=by
  unfold CT.tkL sg
  cases c.ins.contains i<;>simp<;>omega
 rw [h1,h2]
theorem CT.set_tkY {c:CT} (h:c.Ok) {m:List Bool} (hm:m.length=c.many) {i:Nat} (hi:i<c.nf.length):yH (chL m) (c.tkL i)=chL (c.stY m i):=by
 rw [aCy (by rw [hm];exact CT.tk_lit h hi)]
 unfold CT.stY
 have h1:(c.tkL i).natAbs-1=c.order.idxOf i:=by unfold CT.tkL;rw [oV];omega
 have h2:decide (0<c.tkL i) = !c.ins.contains i:=by
  unfold CT.tkL sg
  cases c.ins.contains i<;>simp<;>omega
 rw [h1,h2]
theorem CT.stF_len (c:CT) (i:Nat) (on m:List Bool) : ∀ k,(c.stF i on m k).length=m.length
 | 0=>rfl
 | k+1=>by rw [CT.stF,List.length_set,CT.stF_len c i on m k]
theorem CT.set_fg (c:CT) {m:List Bool} (hm:m.length=c.many) {i k:Nat} (hi:i<c.nf.length) (hk:k<c.nf.getD i 0) (on:List Bool):yH (chL (c.stF i on m k)) (sg (c.fgL i k) (on.getD k false))=chL (c.stF i on m (k+1)):=by
 rw [aCy (by rw [CT.stF_len,hm];exact qW (CT.fg_lit c hi hk) _)]
 have h1:(sg (c.fgL i k) (on.getD k false)).natAbs-1=c.base i+k:=by unfold CT.fgL;rw [oV,oV];omega
 have h2:decide (0<sg (c.fgL i k) (on.getD k false))=(on.getD k false != c.on i k):=by
  unfold CT.fgL sg
  cases c.on i k<;>cases on.getD k false<;>simp<;>omega
 rw [h1,h2,CT.stF]
def CT.l2 (c:CT):Nat->List Bool
 | 0=>List.replicate c.many false
 | i+1=>c.stT (c.l2 i) i
theorem CT.l2_len (c:CT) : ∀ i,(c.l2 i).length=c.many
 | 0=>by simp [CT.l2]
 | i+1=>by rw [CT.l2,CT.stT,List.length_set,CT.l2_len c i]
def CT.l3 (c:CT) (l:List (Nat × List Bool)):Nat->List Bool
 | 0=>c.l2 c.nf.length
 | j+1=>c.stF (l.getD j (0,[])).1 (l.getD j (0,[])).2 (c.stY (c.l3 l j) (l.getD j (0,[])).1) (l.getD j (0,[])).2.length
theorem CT.l3_len (c:CT) (l:List (Nat × List Bool)) : ∀ j,(c.l3 l j).length=c.many
 | 0=>CT.l2_len c _
 | j+1=>by rw [CT.l3,CT.stF_len,CT.stY,List.length_set,CT.l3_len c l j]
theorem lU : ∀ (l:List Nat) (i j:Nat),i<=j->(l.take i).sum<=(l.take j).sum
 | [],i,j,_=>by simp
 | a :: l,0,j,_=>by simp
 | a :: l,i+1,0,h=>by omega
 | a :: l,i+1,j+1,h=>by
  have:=lU l i j (by omega)
  simp
  omega
theorem CT.base_lt (c:CT) {i i' k:Nat} (hi:i<i') (hin:i<c.nf.length) (hk:k<c.nf.getD i 0):c.base i+k<c.base i':=by
 have h1:=lU c.nf (i+1) i' hi
 rw [List.take_succ_eq_append_getElem hin,List.sum_append] at h1
 rw [List.getD_eq_getElem?_getD,List.getElem?_eq_getElem hin] at hk
 simp at hk h1
 unfold CT.base
 omega
theorem CT.base_inj (c:CT) {i k i' k':Nat} (hi:i<c.nf.length) (hk:k<c.nf.getD i 0) (hi':i'<c.nf.length) (hk':k'<c.nf.getD i' 0) (e:c.base i+k=c.base i'+k'):i=i'/\k=k':=by
 rcases Nat.lt_trichotomy i i' with h | h | h
 ·have:=CT.base_lt c h hi hk;omega
 ·subst h;omega
 ·have:=CT.base_lt c h hi' hk';omega
theorem CT.base_lt_many (c:CT) {i k:Nat} (hi:i<c.nf.length) (hk:k<c.nf.getD i 0):c.base i+k<c.many:=by
 have:=oW c.nf i k hi hk
 unfold CT.base CT.many
 omega
theorem CT.idx_lt {c:CT} (h:c.Ok) {i:Nat} (hi:i<c.nf.length):c.order.idxOf i<c.nf.length:=by
 have:=List.idxOf_lt_length_iff.2 ((CT.order_mem h i).2 hi)
 rwa [CT.order_len h] at this
theorem CT.idx_inj {c:CT} (h:c.Ok) {i i':Nat} (hi:i<c.nf.length) (hi':i'<c.nf.length) (e:c.order.idxOf i=c.order.idxOf i'):i=i':=by
 have h1:=aCc ((CT.order_mem h i).2 hi)
 have h2:=aCc ((CT.order_mem h i').2 hi')
 rw [e,h2] at h1
 exact (Option.some.inj h1).symm
theorem lO {m:List Bool} {v:Nat} (hv:v<m.length) (b:Bool):(m.set v b).getD v false=b:=by simp [List.getD_eq_getElem?_getD,hv]
theorem gJ {m:List Bool} {v u:Nat} (h:v≠u) (b:Bool):(m.set v b).getD u false=m.getD u false:=by simp [List.getD_eq_getElem?_getD,List.getElem?_set_ne h]
theorem CT.stF_get (c:CT) {i:Nat} (hi:i<c.nf.length) (on:List Bool) {m:List Bool} (hm:m.length=c.many) : ∀ K,K<=c.nf.getD i 0->(∀ k<K,(c.stF i on m K).getD (c.base i+k) false=(on.getD k false != c.on i k))/\∀ v,(∀ k<K,v≠c.base i+k)->(c.stF i on m K).getD v false=m.getD v false
 | 0,_=>⟨fun k hk=>by omega,fun v _=>rfl⟩
 | K+1,hK=>by
  obtain ⟨h1,h2⟩:=CT.stF_get c hi on hm K (by omega)
  have hlt:=CT.base_lt_many c hi (k:=K) (by omega)
  refine ⟨fun k hk=> ?_,fun v hv=> ?_⟩
  ·rw [CT.stF]
   by_cases e:k=K
   ·subst e;rw [lO (by rw [CT.stF_len,hm];exact hlt)]
   ·rw [gJ (by omega),h1 k (by omega)]
  ·rw [CT.stF,gJ (fun e=>hv K (by omega) e.symm),h2 v fun k hk=>hv k (by omega)]
structure CT.Says (c:CT) (l:List (Nat × List Bool)) (m:List Bool):Prop where
 len:m.length=c.many
 tk : ∀ i<c.nf.length,m.getD (c.order.idxOf i) false=(wW l i != c.ins.contains i)
 fg : ∀ i<c.nf.length,∀ k<c.nf.getD i 0,m.getD (c.base i+k) false=pZ l c i k
theorem CT.l2_get {c:CT} (h:c.Ok) : ∀ n,n<=c.nf.length->(∀ i<n,(c.l2 n).getD (c.order.idxOf i) false=c.ins.contains i)/\∀ v,c.nf.length<=v->(c.l2 n).getD v false=false
 | 0,_=>⟨fun i hi=>by omega,fun v _=>by
   rw [CT.l2,List.getD_eq_getElem?_getD,List.getElem?_replicate]
   split<;>rfl⟩
 | n+1,hn=>by
  obtain ⟨h1,h2⟩:=CT.l2_get h n (by omega)
  have hx:=CT.idx_lt h (i:=n) (by omega)
  refine ⟨fun i hi=> ?_,fun v hv=> ?_⟩
  ·rw [CT.l2,CT.stT]
   by_cases e:i=n
   ·subst e;rw [lO (by rw [CT.l2_len];unfold CT.many;omega)]
   ·rw [gJ (fun hh=>e (CT.idx_inj h (by omega) (by omega) hh.symm)),h1 i (by omega)]
  ·rw [CT.l2,CT.stT,gJ (by omega),h2 v hv]
theorem CT.says_none {c:CT} (h:c.Ok):c.Says [] (c.l3 [] 0):=by
 obtain ⟨h1,h2⟩:=CT.l2_get h c.nf.length (Nat.le_refl _)
 refine ⟨CT.l3_len c _ _,fun i hi=> ?_,fun i hi k hk=> ?_⟩
 ·show (c.l2 _).getD _ _=_
  rw [h1 i hi];cases c.ins.contains i<;>rfl
 ·show (c.l2 _).getD _ _=_
  rw [h2 _ (by unfold CT.base;omega)];rfl
theorem CT.says_more {c:CT} (h:c.Ok) {l:List (Nat × List Bool)} {m:List Bool} {a:Nat × List Bool} (hs:c.Says l m) (ha:a.1<c.nf.length) (hf:a.2.length=c.nf.getD a.1 0) (hn : ∀ b∈l,b.1≠a.1):c.Says (l ++ [a]) (c.stF a.1 a.2 (c.stY m a.1) a.2.length):=by
 have hl:(c.stY m a.1).length=c.many:=by rw [CT.stY,List.length_set,hs.len]
 obtain ⟨h1,h2⟩:=CT.stF_get c ha a.2 hl a.2.length (by omega)
 have hx:=CT.idx_lt h ha
 have hnone:l.find? (fun b=>b.1==a.1)=none:=List.find?_eq_none.2 fun b hb=>by simpa using hn b hb
 refine ⟨by rw [CT.stF_len,hl],fun i hi=> ?_,fun i hi k hk=> ?_⟩
 ·have hxi:=CT.idx_lt h hi
  rw [h2 _ fun k hk e=>by unfold CT.base at e;omega,CT.stY]
  unfold wW
  rw [List.any_append,List.any_cons,List.any_nil,Bool.or_false]
  by_cases e:i=a.1
  ·subst e
   rw [lO (by rw [hs.len];unfold CT.many;omega)]
   simp
  ·rw [gJ (fun hh=>e (CT.idx_inj h hi ha hh.symm)),hs.tk i hi]
   have:(a.1==i)=false:=by simpa using Ne.symm e
   rw [this,Bool.or_false]
   rfl
 ·by_cases e:i=a.1
  ·subst e
   rw [h1 k (by omega)]
   unfold pZ
   rw [List.find?_append,hnone]
   simp
  ·rw [h2 _ fun k' hk' hh=>e (CT.base_inj c hi hk ha (by omega) hh).1,CT.stY,gJ (by unfold CT.base;omega),hs.fg i hi k hk]
   unfold pZ
   have:(a.1==i)=false:=by simpa using Ne.symm e
   rw [List.find?_append,List.find?_cons,this]
   cases l.find? fun b=>b.1==i<;>rfl
theorem CT.says_all {c:CT} (h:c.Ok) {l:List (Nat × List Bool)} (hl:c.IsSet l) : ∀ j,j<=l.length->c.Says (l.take j) (c.l3 l j)
 | 0,_=>by have:=CT.says_none h;simpa [CT.l3] using this
 | j+1,hj=>by
  have hs:=CT.says_all h hl j (by omega)
  have hg:l.getD j (0,[])=l[j]:=by rw [List.getD_eq_getElem?_getD,List.getElem?_eq_getElem (by omega)];rfl
  have hm:=List.getElem_mem (show j<l.length by omega)
  rw [CT.l3,hg,List.take_succ_eq_append_getElem (by omega)]
  refine CT.says_more h hs (hl.lt _ hm) (hl.fl _ hm) fun b hb=> ?_
  obtain ⟨i,hi,e⟩:=List.getElem_of_mem hb
  rw [List.getElem_take] at e
  rw [List.length_take] at hi
  have:=List.pairwise_iff_getElem.1 hl.up i j (by omega) (by omega) (by omega)
  rw [e] at this
  omega
theorem CT.l3_done {c:CT} (h:c.Ok) {l:List (Nat × List Bool)} (hl:c.IsSet l):c.l3 l l.length=c.mod l:=by
 have hs:=CT.says_all h hl l.length (Nat.le_refl _)
 rw [List.take_length] at hs
 refine mA (by rw [hs.len,CT.mod_len h]) fun v hv=> ?_
 rw [hs.len] at hv
 by_cases hn:v<c.nf.length
 ·have hvo:v<c.order.length:=by rw [CT.order_len h];exact hn
  have hg:c.order[v]? = some c.order[v]:=List.getElem?_eq_getElem hvo
  have hx:=qS (CT.order_nodup h) hg
  have hi:=(CT.order_mem h _).1 (List.mem_of_getElem? hg)
  have:=hs.tk _ hi
  rw [hx] at this
  rw [this,CT.mod_take h l hg]
 ·obtain ⟨i,k,hi,hk,hvk⟩:=pS (nf:=c.nf) (v:=v-c.nf.length) (by unfold CT.many at hv;omega)
  have hve:v=c.base i+k:=by unfold CT.base;omega
  subst hve
  rw [hs.fg i hi k hk,CT.mod_flag h l hi hk]
end Go.Proofs.YtonlloiemgdfkaaGreatDoor.Cn
namespace Go.Proofs.YtonlloiemgdfkaaGreatDoor.Cn
theorem aSc : ∀ {a b:List Nat},a.Pairwise (· < ·)->b.Pairwise (· < ·)->(∀ x,x∈a↔x∈b)->a=b
 | [],[],_,_,_=>rfl
 | [],y :: b,_,_,h=>absurd ((h y).2 List.mem_cons_self) (by simp)
 | x :: a,[],_,_,h=>absurd ((h x).1 List.mem_cons_self) (by simp)
 | x :: a,y :: b,ha,hb,h=>by
  obtain ⟨ha1,ha2⟩:=List.pairwise_cons.1 ha
  obtain ⟨hb1,hb2⟩:=List.pairwise_cons.1 hb
  have hxy:x=y:=by
   rcases List.mem_cons.1 ((h x).1 List.mem_cons_self) with e | e
   ·exact e
   ·rcases List.mem_cons.1 ((h y).2 List.mem_cons_self) with e' | e'
    ·exact e'.symm
    ·have:=hb1 x e;have:=ha1 y e';omega
  subst hxy
  congr 1
  refine aSc ha2 hb2 fun z=>⟨fun hz=> ?_,fun hz=> ?_⟩
  ·rcases List.mem_cons.1 ((h z).1 (List.mem_cons_of_mem _ hz)) with e | e
   ·subst e;exact absurd (ha1 z hz) (Nat.lt_irrefl _)
   ·exact e
  ·rcases List.mem_cons.1 ((h z).2 (List.mem_cons_of_mem _ hz)) with e | e
   ·subst e;exact absurd (hb1 z hz) (Nat.lt_irrefl _)
   ·exact e
structure lY (n:Nat) (F:List (List Int)) (A:List Int) (l:List Int):Prop where
 up:l.Pairwise fun x y=>x.natAbs<y.natAbs
 mem : ∀ x,x∈l↔Der F A x
 lit:aL n l
theorem uJ {n:Nat} {F:List (List Int)} {A K L:List Int} (h:zE n F A K L) (hL : ∀ x,x∈L↔Der F A x):lY n F A (cG K):=by
 refine ⟨?_,fun x=>(aEz h x).trans (hL x),fun x hx=>h.lits ((aEz h x).1 hx)⟩
 unfold cG
 rw [List.pairwise_filter,List.pairwise_iff_getElem]
 intro i j hi hj hij h1 h2
 have hx:K[i]≠0:=by simpa using h1
 have hy:K[j]≠0:=by simpa using h2
 have e1:K.getD i 0=K[i]:=by simp [List.getD_eq_getElem?_getD,hi]
 have e2:K.getD j 0=K[j]:=by simp [List.getD_eq_getElem?_getD,hj]
 have a:=h.own i hi
 have b:=h.own j hj
 rw [e1] at a
 rw [e2] at b
 have a:=a.resolve_left hx
 have b:=b.resolve_left hy
 omega
open Classical in
theorem lY.vars {n:Nat} {F:List (List Int)} {A l:List Int} (h:lY n F A l):l.map Int.natAbs=(List.range' 1 n).filter fun k=>decide (Kn F A k):=by
 refine aSc (List.pairwise_map.2 h.up) (List.Pairwise.filter _ (List.pairwise_lt_range' ..)) fun k=> ?_
 rw [List.mem_map,List.mem_filter,List.mem_range'_1]
 constructor
 ·rintro ⟨x,hx,rfl⟩
  have hl:=h.lit x hx
  have hd:=(h.mem x).1 hx
  refine ⟨⟨by have:=hl.1;omega,by have:=hl.2;omega⟩,decide_eq_true ?_⟩
  rcases Int.lt_or_gt_of_ne hl.1 with h0 | h0
  ·exact .inr (by rwa [show -(x.natAbs:Int)=x by omega])
  ·exact .inl (by rwa [show (x.natAbs:Int)=x by omega])
 ·rintro ⟨-,hk⟩
  rcases of_decide_eq_true hk with hd | hd
  ·exact ⟨_,(h.mem _).2 hd,by simp⟩
  ·exact ⟨_,(h.mem _).2 hd,by simp⟩
theorem lY.full {n:Nat} {F:List (List Int)} {A l:List Int} (h:lY n F A l):l.length=n↔jA n F A=none:=by
 classical
 have hv:=congrArg List.length h.vars
 rw [List.length_map] at hv
 constructor
 ·intro e
  refine xN fun k h1 h2=> ?_
  have e2:((List.range' 1 n).filter fun k=>decide (Kn F A k)).length=(List.range' 1 n).length:=by rw [← hv,e];simp
  have:=(List.length_filter_eq_length_iff.1 e2) k (List.mem_range'_1.2 ⟨h1,by omega⟩)
  exact of_decide_eq_true this
 ·intro e
  have hall:=jN e
  have e2:((List.range' 1 n).filter fun k=>decide (Kn F A k)).length=(List.range' 1 n).length:=List.length_filter_eq_length_iff.2 fun k hk=>by
   have:=List.mem_range'_1.1 hk
   exact decide_eq_true (hall k this.1 (by omega))
  rw [hv,e2];simp
theorem lY.short {n:Nat} {F:List (List Int)} {A l:List Int} (h:lY n F A l):l.length<=n:=by
 classical
 have hv:=congrArg List.length h.vars
 rw [List.length_map] at hv
 have:=List.length_filter_le (fun k=>decide (Kn F A k)) (List.range' 1 n)
 simp at this;omega
theorem lY.model {n:Nat} {F:List (List Int)} {A l:List Int} (h:lY n F A l) (hf : ¬ bJ F A) (hl:jA n F A=none):l.map (fun x=>decide (0<x))=vG n F A:=by
 classical
 have hlen:=h.full.2 hl
 have hall:=jN hl
 have hv:l.map Int.natAbs=List.range' 1 n:=by
  rw [h.vars]
  refine List.filter_eq_self.2 fun k hk=> ?_
  have:=List.mem_range'_1.1 hk
  exact decide_eq_true (hall k this.1 (by omega))
 refine mA (by rw [List.length_map,lI,hlen]) fun i hi=> ?_
 rw [List.length_map] at hi
 rw [xQ (by omega),List.getD_eq_getElem?_getD,List.getElem?_map,List.getElem?_eq_getElem hi]
 simp only [Option.map_some,Option.getD_some]
 have hn:(l[i]).natAbs=i+1:=by
  have:=congrArg (fun q=>q[i]?) hv
  simp only [List.getElem?_map,List.getElem?_eq_getElem hi,Option.map_some] at this
  rw [List.getElem?_range' (by omega)] at this
  have:=Option.some.inj this
  omega
 have hd:=(h.mem _).1 (List.getElem_mem hi)
 generalize l[i]=x at hn hd
 by_cases hx:0<x
 ·have:((i+1:Nat):Int)=x:=by omega
  rw [this];simp [hx,hd]
 ·have e:((i+1:Nat):Int) = -x:=by omega
  rw [e]
  have hno : ¬ Der F A (-x):=fun h'=>hf (.inl ⟨x,hd,h'⟩)
  simp [hx,hno]
theorem lY.gap {n:Nat} {F:List (List Int)} {A l:List Int} {k:Nat} (h:lY n F A l) (hl:jA n F A=some k):(∀ (i:Nat) x,i<k-1->l[i]? = some x->x.natAbs=i+1)/\k-1<=l.length/\∀ x,l[k-1]? = some x->x.natAbs≠k:=by
 classical
 obtain ⟨h1,h2,h3,h4⟩:=gL hl
 have hv:=h.vars
 have hsp:List.range' 1 n=List.range' 1 (k-1)++k :: List.range' (k+1) (n-k):=by
  have e1:= @List.range'_append_1 1 (k-1) (n-k+1)
  rw [show k-1+(n-k+1)=n by omega,List.range'_succ,show 1+(k-1)=k by omega] at e1
  exact e1.symm
 rw [hsp,List.filter_append,List.filter_cons,if_neg (by simpa using h3)] at hv
 have hfull:(List.range' 1 (k-1)).filter (fun k=>decide (Kn F A k))=List.range' 1 (k-1):=List.filter_eq_self.2 fun j hj=>by
  have:=List.mem_range'_1.1 hj
  exact decide_eq_true (h4 j this.1 (by omega))
 rw [hfull] at hv
 have hget : ∀ i:Nat,(l[i]?).map Int.natAbs=(List.range' 1 (k-1)++(List.range' (k+1) (n-k)).filter fun k=>decide (Kn F A k))[i]? :=fun i=>by rw [← hv,List.getElem?_map]
 have hlen:=congrArg List.length hv
 rw [List.length_map,List.length_append,List.length_range'] at hlen
 refine ⟨fun i x hi hx=> ?_,by omega,fun x hx e=> ?_⟩
 ·have:=hget i
  rw [hx,List.getElem?_append_left (by simpa using hi),List.getElem?_range' hi] at this
  have:=Option.some.inj this
  omega
 ·have:=hget (k-1)
  rw [hx,List.getElem?_append_right (by simp)] at this
  have hm:=List.mem_of_getElem? this.symm
  have:=List.mem_range'_1.1 (List.mem_filter.1 hm).1
  omega
end Go.Proofs.YtonlloiemgdfkaaGreatDoor.Cn
namespace Go.Proofs.YtonlloiemgdfkaaGreatDoor.Cn
open Go.RowKit Go.Lib
def SmP (x:Int):Prop:=x.natAbs<=1000000
theorem aJh {x:Int} (h:SmP x):(Go.Lit.int .i64 x).wf=true:=by
 unfold SmP at h
 have e1:IntKind.i64.min = -9223372036854775808:=by decide
 have e2:IntKind.i64.max=9223372036854775807:=by decide
 simp [Go.Lit.wf]
 omega
theorem aWb:WideMaps.ArrKey Tryz.prog 105 3 2:=⟨Tryz.underlying105,by kernel_rfl,by kernel_rfl,by kernel_rfl⟩
theorem sK:Maps.Keyed Tryz.prog 105:=Maps.Keyed.of_law aWb.law
theorem aOj : ∃ m,Tryz.prog.types.size=m+1:=⟨Tryz.prog.types.size-1,by kernel_rfl⟩
def aTj (x y:Int):Go.Lit:= .string (keyBytes [.int .i64 x,.int .i64 y])
theorem oD {x y:Int} (hx:SmP x) (hy:SmP y):keyOf Tryz.prog 105 (.agg #[.int .i64 x,.int .i64 y])=some (aTj x y):=WideMaps.keyOf_pair aWb Tryz.underlying3 aOj (aJh hx) (aJh hy)
theorem aQg {x y x' y':Int} (hx:SmP x) (hy:SmP y) (hx':SmP x') (hy':SmP y') (h:aTj x y=aTj x' y'):x=x'/\y=y':=by
 have h1:=oD hx hy
 have h2:=oD hx' hy'
 rw [h] at h1
 have:=sK.inj h1 h2
 simp only [Value.agg.injEq,Array.mk.injEq,List.cons.injEq,Value.int.injEq,true_and,and_true] at this
 exact this
theorem uF:Tryz.prog.underlying 156=some (.map 105 3):=Tryz.underlying156
def hY (g n:Nat) (f:Int->Int->Int) (w:World):Prop:= ∃ D:DataW Unit,w.ownsMap Tryz.prog 105 (plainElem Tryz.prog 3) g n D/\∀ x y,SmP x->SmP y->D.atKey (aTj x y) (.lit (.int .i64 0))=.lit (.int .i64 (f x y))
theorem hY.lt {g n:Nat} {f:Int->Int->Int} {w:World} (h:hY g n f w):g<w.heap.size:=by obtain ⟨D,h,-⟩:=h;exact h.lt
theorem hY.mono {g n n':Nat} {f:Int->Int->Int} {w:World} (h:hY g n f w) (hn:n<=n'):hY g n' f w:=by obtain ⟨D,h,h2⟩:=h;exact ⟨D,h.mono hn,h2⟩
theorem hY.at {g n:Nat} {f:Int->Int->Int} {w w':World} (h:hY g n f w) (hb:w'.heap[g]? = w.heap[g]?):hY g n f w':=by
 obtain ⟨D,⟨es,clock,hm,hr⟩,h2⟩:=h
 exact ⟨D,⟨es,clock,hb.trans hm,hr⟩,h2⟩
theorem hY.keep {g n:Nat} {f:Int->Int->Int} {w w':World} (h:hY g n f w) (k:aA w w'):hY g n f w':=h.at (k.block g h.lt)
theorem uB (w:World):hY w.heap.size 0 (fun _ _=>0) (w.alloc (.map #[] 0)):=⟨.map [],World.ownsMap_made w _ _ _,fun x y _ _=>by simp [DataW.atKey]⟩
theorem hY.look {g n:Nat} {f:Int->Int->Int} {w:World} {t:TypeId} (h:hY g n f w) (ht:Tryz.prog.underlying t=some (.map 105 3)) {x y:Int} (hx:SmP x) (hy:SmP y):(Instr.lookup t (.map (some g)) (.agg #[.int .i64 x,.int .i64 y]) false).run Tryz.prog w=.ok (.int .i64 (f x y)) w:=by
 obtain ⟨D,h1,h2⟩:=h
 obtain ⟨c,hrun,hv,-⟩:=h1.lookup_int sK ht Tryz.underlying3 (by kernel_rfl) (oD hx hy)
 rw [h2 x y hx hy] at hv
 have e:f x y=c:=by simpa using hv
 rw [hrun,e]
theorem hY.put {g n:Nat} {f:Int->Int->Int} {w:World} {t:TypeId} (h:hY g n f w) (ht:Tryz.prog.underlying t=some (.map 105 3)) {x y v:Int} (hx:SmP x) (hy:SmP y) (hv:SmP v) (hl:n<1000000) : ∃ w',(Instr.mapUpdate t (.map (some g)) (.agg #[.int .i64 x,.int .i64 y]) (.int .i64 v)).run Tryz.prog w=.ok () w'/\hY g (n+1) (gO f x y v) w'/\w.grownBy w' (some g):=by
 obtain ⟨D,h1,h2⟩:=h
 obtain ⟨w',hrun,hown,hgr⟩:=h1.update sK ht (by unfold maxLen;omega) (oD hx hy) (plainElem_int Tryz.underlying3 (aJh hv))
 refine ⟨w',hrun,⟨_,hown,fun p q hp hq=> ?_⟩,hgr⟩
 unfold gO
 by_cases e:p=x/\q=y
 ·obtain ⟨rfl,rfl⟩:=e
  rw [Maps.atKey_put_same h1.isMap (sK.key (oD hx hy))];simp
 ·rw [Maps.atKey_put_other (fun hh=>e (aQg hp hq hx hy hh)),h2 p q hp hq,if_neg e]
structure DD where
 b:Nat
 many:Nat
 tv:Value
 g1:Nat
 pv:Value
 cv:Value
 g2:Nat
 np:Nat
 cs:Nat->Prop
 ro:Nat->Prop
def DD.box (x:DD) (n:Nat):Array Value:=#[.int .i64 x.many,x.tv,.map (some x.g1),x.pv,.int .i64 n,x.cv,.map (some x.g2)]
def DD.own (x:DD) (b:Nat):Prop:=b=x.b∨x.cv.ownBlock=some b∨b=x.g2∨x.cs b
def DD.to (x:DD) (v:Value) (k:Nat) (cs:Nat->Prop):DD:= { x with cv:=v,np:=k,cs:=cs }
structure DM (x:DD) (L:Nat) (s:DS) (w:World):Prop where
 low:L<=x.b/\L<=x.g2/\x.b≠x.g2
 np:x.np<=s.n
 ne:x.cv.ownBlock≠some x.b/\x.cv.ownBlock≠some x.g2
 box:aD x.b 161 (x.box s.n) w
 row:qF L x.cs x.cv s.cl w
 csl : ∀ c,x.cs c->L<=c/\c<w.heap.size/\c≠x.b/\c≠x.g2/\x.cv.ownBlock≠some c
 pr:hY x.g2 x.np s.pr w
theorem DM.lt {x:DD} {L:Nat} {s:DS} {w:World} (h:DM x L s w) {b:Nat} (hb:x.own b):L<=b/\b<w.heap.size:=by
 rcases hb with rfl | hb | rfl | hb
 ·exact ⟨h.low.1,h.box.facts.2.2⟩
 ·exact h.row.in hb
 ·exact ⟨h.low.2.1,h.pr.lt⟩
 ·exact ⟨(h.csl b hb).1,(h.csl b hb).2.1⟩
theorem DM.other {x:DD} {L:Nat} {s:DS} {w w':World} (h:DM x L s w) (hs:w.heap.size<=w'.heap.size) (hown : ∀ b,x.own b->w'.heap[b]? = w.heap[b]?):DM x L s w':=by
 refine ⟨h.low,h.np,h.ne,?_,h.row.mono (fun g hg=>hown g (.inr (.inl hg))) fun b hd=>⟨hown b (.inr (.inr (.inr hd))),hd⟩,fun c hc=> ?_,h.pr.at (hown _ (.inr (.inr (.inl rfl))))⟩
 ·have:=h.box;unfold aD at *;rw [hown _ (.inl rfl)];exact this
 ·have:=h.csl c hc
  exact ⟨this.1,Nat.lt_of_lt_of_le this.2.1 hs,this.2.2⟩
theorem DM.keep {x:DD} {L:Nat} {s:DS} {w w':World} (h:DM x L s w) (k:aA w w'):DM x L s w':=h.other k.size fun b ho=>k.block b (h.lt ho).2
theorem DM.L {x:DD} {L:Nat} {s:DS} {w:World} (h:DM x L s w):L<=w.heap.size:=by have:=h.lt (b:=x.b) (.inl rfl);omega
theorem DM.push {x:DD} {L:Nat} {s:DS} {w w5:World} {vs:List Value} {u v':Value} {l:List Int} {U:Nat->Prop} (h:DM x L s w) (hvl:vs.length=s.cl.length) (hvn : ∀ (i:Nat) c y,s.cl[i]? = some c->vs[i]? = some y->aG x.cs w c y)
  (hU : ∀ c,U c->L<=c/\c<w.heap.size/\¬ x.own c) (hu:aG U w l u) (hg:w.grownBy w5 x.cv.ownBlock) (ho:v'.ownBlock=x.cv.ownBlock∨∃ g,v'.ownBlock=some g/\w.heap.size<=g) (h5:w5.ownsRow L 168 1 v' (s.cl.length+1) (vs ++ [u])) :
  DM (x.to v' x.np (fun c=>x.cs c∨U c)) L (s.clause l) (w5.setCell ⟨x.b,5,none⟩ v')/\aF (fun b=>x.own b∨U b) (x.to v' x.np (fun c=>x.cs c∨U c)).own w (w5.setCell ⟨x.b,5,none⟩ v'):=by
 have hlow:=h.low
 have hne:=h.ne
 have hbl:=h.box.facts.2.2
 have hgl:=h.pr.lt
 have hso : ∀ c,c≠x.b->(w5.setCell ⟨x.b,5,none⟩ v').heap[c]? = w5.heap[c]? :=fun c hc=>dZ _ _ _ _ hc
 have hsz:(w5.setCell ⟨x.b,5,none⟩ v').heap.size=w5.heap.size:=gQ ..
 have hk : ∀ c,c<w.heap.size->x.cv.ownBlock≠some c->w5.heap[c]? = w.heap[c]? :=fun c hc hn=>hg.block c hc fun e=>hn e.symm
 have hvb:v'.ownBlock≠some x.b/\v'.ownBlock≠some x.g2:=by
  rcases ho with ho | ⟨g,ho,hge⟩
  ·rw [ho];exact hne
  ·rw [ho];exact ⟨fun e=>by have:=Option.some.inj e;omega,fun e=>by have:=Option.some.inj e;omega⟩
 have hcs : ∀ c,x.cs c∨U c->L<=c/\c<w.heap.size/\c≠x.b/\c≠x.g2/\x.cv.ownBlock≠some c:=fun c hc=>by
  rcases hc with hc | hc
  ·exact h.csl c hc
  ·have:=hU c hc
   exact ⟨this.1,this.2.1,fun e=>this.2.2 (.inl e),fun e=>this.2.2 (.inr (.inr (.inl e))),fun e=>this.2.2 (.inr (.inl e))⟩
 have hcv : ∀ c,x.cs c∨U c->v'.ownBlock≠some c:=fun c hc e=>by
  have h1:=hcs c hc
  rcases ho with ho | ⟨g,ho,hge⟩
  ·exact h1.2.2.2.2 (ho ▸ e)
  ·rw [ho] at e;have:=Option.some.inj e;omega
 have hnums : ∀ c y,aG (fun c=>x.cs c∨U c) w c y->aG (fun c=>x.cs c∨U c) (w5.setCell ⟨x.b,5,none⟩ v') c y:=fun c y hc=>hc.mono (fun p hp=>World.cell?_of_block (w:=w) (by
   have:=hcs _ hp
   rw [hso _ this.2.2.1,hk _ this.2.1 this.2.2.2.2])) fun b hb=>hb
 refine ⟨⟨hlow,h.np,hvb,?_,⟨vs ++ [u],?_,?_,fun i c y hc hy=> ?_⟩,fun c hc=> ?_,?_⟩,?_⟩
 ·have hB5:aD x.b 161 (x.box s.n) w5:=by have:=h.box;unfold aD at *;rw [hk _ hbl hne.1];exact this
  exact hB5.set 5 v'
 ·show (vs ++ [u]).length=(s.cl ++ [l]).length
  simp [hvl]
 ·show World.ownsRow _ L _ 1 v' (s.cl ++ [l]).length _
  rw [List.length_append]
  exact dG h5 fun g hgv=>hso g (fun e=>hvb.1 (e ▸ hgv))
 ·have hc:(s.cl ++ [l])[i]? = some c:=hc
  by_cases hi:i<s.cl.length
  ·rw [List.getElem?_append_left hi] at hc
   rw [List.getElem?_append_left (by omega)] at hy
   exact hnums _ _ ((hvn i c y hc hy).mono (fun _ _=>rfl) fun _ h=> .inl h)
  ·have hi2:i=s.cl.length:=by
    have:=(List.getElem?_eq_some_iff.1 hc).1
    simp at this;omega
   subst hi2
   rw [List.getElem?_append_right (Nat.le_refl _),Nat.sub_self] at hc
   rw [← hvl,List.getElem?_append_right (Nat.le_refl _),Nat.sub_self] at hy
   cases hc;cases hy
   exact hnums _ _ (hu.mono (fun _ _=>rfl) fun _ h=> .inr h)
 ·have:=hcs c hc
  exact ⟨this.1,by rw [hsz];exact Nat.lt_of_lt_of_le this.2.1 hg.size,this.2.2.1,this.2.2.2.1,hcv c hc⟩
 ·exact h.pr.at (by show (World.setCell _ _ _).heap[x.g2]? = _;rw [hso _ (Ne.symm hlow.2.2),hk _ hgl hne.2])
 ·have t1:=aF.grown (O:=fun b=>x.own b∨U b) hg (fun g hg=> .inl (.inr (.inl hg))) ho
  have t2:=t1.trans (aF.set _ w5 x.b 5 v' (.inl (.inl (.inl rfl))))
  refine t2.less fun b hb=> ?_
  rcases hb with hb | hb | hb | hb | hb
  ·exact .inl (.inl (.inl hb))
  ·exact .inr hb
  ·exact .inl (.inl (.inr (.inr (.inl hb))))
  ·exact .inl (.inl (.inr (.inr (.inr hb))))
  ·exact .inl (.inr hb)
theorem DM.vars {x:DD} {L:Nat} {s:DS} {w:World} (h:DM x L s w) {n:Nat} (hn:s.n<=n):DM x L ⟨n,s.cl,s.pr⟩ (w.setCell ⟨x.b,4,none⟩ (.int .i64 n))/\aF x.own x.own w (w.setCell ⟨x.b,4,none⟩ (.int .i64 n)):=by
 have hso : ∀ c,c≠x.b->(w.setCell ⟨x.b,4,none⟩ (.int .i64 n)).heap[c]? = w.heap[c]? :=fun c hc=>dZ _ _ _ _ hc
 have hsz:(w.setCell ⟨x.b,4,none⟩ (.int .i64 n)).heap.size=w.heap.size:=gQ ..
 refine ⟨⟨h.low,Nat.le_trans h.np hn,h.ne,h.box.set 4 (.int .i64 n),h.row.mono (fun g hg=>hso g (fun e=>h.ne.1 (e ▸ hg))) fun b hd=>⟨hso b (h.csl b hd).2.2.1,hd⟩,fun c hc=>by rw [hsz];exact h.csl c hc,h.pr.at (hso _ (Ne.symm h.low.2.2))⟩,aF.set _ _ _ _ _ (.inl rfl)⟩
theorem DM.put {x:DD} {L:Nat} {s:DS} {w w':World} (h:DM x L s w) {f:Int->Int->Int} (hm:hY x.g2 (x.np+1) f w') (hn:x.np+1<=s.n) (hg:w.grownBy w' (some x.g2)):DM (x.to x.cv (x.np+1) x.cs) L ⟨s.n,s.cl,f⟩ w'/\aF x.own (x.to x.cv (x.np+1) x.cs).own w w':=by
 have hk : ∀ c,c<w.heap.size->c≠x.g2->w'.heap[c]? = w.heap[c]? :=fun c hc hn=>hg.block c hc fun e=>hn (Option.some.inj e)
 refine ⟨⟨h.low,hn,h.ne,?_,h.row.mono (fun g hgv=>hk g (h.row.in hgv).2 (fun e=>h.ne.2 (e ▸ hgv))) fun b hd=>⟨hk b (h.csl b hd).2.1 (h.csl b hd).2.2.2.1,hd⟩,fun c hc=> ?_,hm⟩,⟨hg.os,hg.tape,hg.output,hg.size,fun b hb hn=>hk b hb (fun e=>hn (.inr (.inr (.inl e)))),fun _ h=> .inl h⟩⟩
 ·have h1:=h.box
  have h2:=hk _ h.box.facts.2.2 h.low.2.2
  unfold aD at h1
  exact h2.trans h1
 ·have:=h.csl c hc
  exact ⟨this.1,Nat.lt_of_lt_of_le this.2.1 hg.size,this.2.2⟩
theorem aU.nums {B:Nat} {v:Value} {zs:List Int} {w:World} (h:aU B v zs w) (hl:zs.length<=1000000):aG (fun b=>B<=b/\b<w.heap.size) w zs v:=by
 rcases h with ⟨h1,⟨rfl,h0⟩ | ⟨g,cap,cur,rfl,e2,e3,e4,e5,e6,e7⟩⟩
 ·exact ⟨none,0,by rw [h0],by omega,fun hh=>by omega⟩
 ·refine ⟨_,cap,rfl,by omega,fun hh=>⟨g,0,rfl,⟨e2,(Array.getElem?_eq_some_iff.1 e3).1⟩,fun j x hx=> ?_⟩⟩
  have hj:j<zs.length:=(List.getElem?_eq_some_iff.1 hx).1
  have hf:(zs.map (Value.int .i64))[j]? = some (.int .i64 x):=by rw [List.getElem?_map,hx];rfl
  rw [← e7,List.getElem?_take,if_pos (by omega)] at hf
  simp only [World.cell?,e3,Nat.zero_add]
  simpa using hf
end Go.Proofs.YtonlloiemgdfkaaGreatDoor.Cn
