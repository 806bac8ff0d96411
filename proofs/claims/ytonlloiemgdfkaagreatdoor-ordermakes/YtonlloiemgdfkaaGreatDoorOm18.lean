/- Steps of the proof: OrdFirstP, OrdMakesP. -/
import Derived.Test.YtonlloiemgdfkaaGreatDoorOm17
import Derived.Test.YtonlloiemgdfkaaGreatDoorOm15
set_option maxHeartbeats 16000000
set_option maxRecDepth 100000
namespace Go.Proofs.YtonlloiemgdfkaaGreatDoor
open Go.RowKit
theorem nZ {l:List Nat} (h:l.Nodup) {i j:Nat} (hi:i<l.length) (hj:j<l.length) (e:l[i]=l[j]):i=j:=by
 have hp:=List.pairwise_iff_getElem.1 h
 rcases Nat.lt_trichotomy i j with hlt | he | hlt
 ·exact absurd e (hp i j hi hj hlt)
 ·exact he
 ·exact absurd e.symm (hp j i hj hi hlt)
def AC.zero:AC:=⟨true,MB.zero,0⟩
def whF (A:List AC):Nat->Int->Option Int
 | 0=>fun _=>none
 | j+1=>if (A.getD j AC.zero).out=true then whF A j else fun y=>if y=(A.getD j AC.zero).m.pl then some (j:Int) else whF A j y
def cyF (A:List AC):Nat->Int->Option Int
 | 0=>fun _=>none
 | j+1=>if (A.getD j AC.zero).out=true then cyF A j else fun y=>if y=(A.getD j AC.zero).m.pl then some (A.getD j AC.zero).cy else cyF A j y
def nuF (A:List AC):Nat->Int->Option Int
 | 0=>fun _=>none
 | j+1=>if (A.getD j AC.zero).out=true∨¬ 0<(A.getD j AC.zero).cy then nuF A j else fun y=>if y=(A.getD j AC.zero).cy then some (((nuF A j) y).getD 0+1) else nuF A j y
theorem mQ {A:List AC} : ∀ {j:Nat} {y k:Int},whF A j y=some k->∃ i:Nat,k=i/\i<j/\(A.getD i AC.zero).out=false/\(A.getD i AC.zero).m.pl=y
 | 0,_,_,h=>by simp [whF] at h
 | j+1,y,k,h=>by
  rw [whF] at h
  split at h
  ·obtain ⟨i,h1,h2,h3⟩:=mQ h
   exact ⟨i,h1,by omega,h3⟩
  ·rename_i ho
   dsimp only at h
   split at h
   ·rename_i e
    cases h
    exact ⟨j,rfl,Nat.lt_succ_self _,by simpa using ho,e.symm⟩
   ·obtain ⟨i,h1,h2,h3⟩:=mQ h
    exact ⟨i,h1,by omega,h3⟩
theorem zK {A:List AC} : ∀ (j:Nat) (y:Int),cyF A j y=(whF A j y).map fun k=>(A.getD k.toNat AC.zero).cy
 | 0,y=>rfl
 | j+1,y=>by
  rw [cyF,whF]
  split
  ·exact zK j y
  ·show (if y=_ then _ else _)=Option.map _ (if y=_ then _ else _)
   split
   ·rfl
   ·exact zK j y
theorem lH {A:List AC} : ∀ {j:Nat} {y c:Int},nuF A j y=some c->1<=c/\c<=j/\0<y/\∃ i,i<j/\(A.getD i AC.zero).out=false/\(A.getD i AC.zero).cy=y
 | 0,_,_,h=>by simp [nuF] at h
 | j+1,y,c,h=>by
  rw [nuF] at h
  split at h
  ·obtain ⟨h1,h2,h3,i,h4,h5⟩:=lH h
   exact ⟨h1,by omega,h3,i,by omega,h5⟩
  ·rename_i ho
   have ho2:(A.getD j AC.zero).out=false/\0<(A.getD j AC.zero).cy:=by
    constructor
    ·cases hb:(A.getD j AC.zero).out with
     | true=>exact absurd (.inl hb) ho
     | false=>rfl
    ·exact Classical.byContradiction fun h=>ho (.inr h)
   dsimp only at h
   split at h
   ·rename_i e
    cases h
    refine ⟨?_,?_,by rw [e];exact ho2.2,j,Nat.lt_succ_self _,ho2.1,e.symm⟩
    ·cases hn:nuF A j y with
     | none=>simp
     | some d=>have:=(lH hn).1;simp;omega
    ·cases hn:nuF A j y with
     | none=>simp;omega
     | some d=>have:=(lH hn).2.1;simp;omega
   ·obtain ⟨h1,h2,h3,i,h4,h5⟩:=lH h
    exact ⟨h1,by omega,h3,i,by omega,h5⟩
theorem aCm {A:List AC} {y:Int} (hy:0<y) : ∀ (j:Nat),((∃ i,i<j/\(A.getD i AC.zero).out=false/\(A.getD i AC.zero).cy=y)->1<=((nuF A j) y).getD 0)/\((∃ i i',i<i'/\i'<j/\((A.getD i AC.zero).out=false/\(A.getD i AC.zero).cy=y)/\(A.getD i' AC.zero).out=false/\(A.getD i' AC.zero).cy=y)->2<=((nuF A j) y).getD 0)
 | 0=>⟨by rintro ⟨i,h,-⟩;omega,by rintro ⟨i,i',-,h,-⟩;omega⟩
 | j+1=>by
  obtain ⟨ih1,ih2⟩:=aCm hy j
  have hsame:((A.getD j AC.zero).out=false/\(A.getD j AC.zero).cy=y)->((nuF A (j+1)) y).getD 0=((nuF A j) y).getD 0+1:=fun ⟨h1,h2⟩=>by
   rw [nuF,if_neg (by rw [h1,h2];simp [hy]),if_pos h2.symm];rfl
  have hmono:((nuF A j) y).getD 0<=((nuF A (j+1)) y).getD 0:=by
   rw [nuF]
   split
   ·exact Int.le_refl _
   ·show _<=(if y=_ then _ else _:Option Int).getD 0
    split
    ·simp;omega
    ·exact Int.le_refl _
  have h0:0<=((nuF A j) y).getD 0:=by
   cases hn:nuF A j y with
   | none=>simp
   | some d=>have:=(lH hn).1;simp;omega
  constructor
  ·rintro ⟨i,hi,ha⟩
   by_cases e:i=j
   ·subst e;rw [hsame ha];omega
   ·have:=ih1 ⟨i,by omega,ha⟩;omega
  ·rintro ⟨i,i',hii,hi',ha,hb⟩
   by_cases e:i'=j
   ·subst e
    rw [hsame hb]
    have:=ih1 ⟨i,hii,ha⟩
    omega
   ·have:=ih2 ⟨i,i',hii,by omega,ha,hb⟩;omega
theorem oD {C:Nat->Nat->Bool} : ∀ {l:List Nat},qQ C l->∀ (r s:Nat) (hr:r<s) (hs:s<l.length),C l[r] l[s]=true->C l[s] l[r]=true
 | [],_,_,_,_,hs,_=>by simp at hs
 | k :: l,h,0,s+1,_,hs,hc=>by
  have hs':s<l.length:=by simpa using hs
  exact h.1 l[s] (List.getElem_mem hs') (by simpa using hc)
 | k :: l,h,r+1,s+1,hr,hs,hc=>by
  have hs':s<l.length:=by simpa using hs
  have:=oD h.2 r s (by omega) hs' (by simpa using hc)
  simpa using this
section
variable {ps:List PK} {th ms:List MB}
theorem kP:(aQ ps th ms).length=(cN ps th ms th.length).length+(goP ps th ms).length:=by
 rw [← mP,List.length_append]
 unfold fR
 rw [List.take_length,List.length_map]
theorem kO {i:Nat} (h:((aQ ps th ms).getD i AC.zero).out=false) : ∃ (r:Nat) (hr:r<(goP ps th ms).length),i=(cN ps th ms th.length).length+r/\(aQ ps th ms).getD i AC.zero=⟨false,ms.getD (goP ps th ms)[r] MB.zero,(fQ ps th ms).getD (goP ps th ms)[r] 0⟩:=by
 rw [← mP] at h ⊢
 by_cases h1:i<(cN ps th ms th.length).length
 ·exfalso
  rw [List.getD_eq_getElem?_getD,List.getElem?_append_left h1,List.getElem?_eq_getElem h1] at h
  have hm:=List.getElem_mem h1
  generalize (cN ps th ms th.length)[i]=x at h hm
  unfold cN at hm
  obtain ⟨m,-,rfl⟩:=List.mem_map.1 hm
  cases h
 ·by_cases h2:i-(cN ps th ms th.length).length<(goP ps th ms).length
  ·refine ⟨i-(cN ps th ms th.length).length,h2,by omega,?_⟩
   rw [List.getD_eq_getElem?_getD,List.getElem?_append_right (by omega)]
   unfold fR
   rw [List.take_length,List.getElem?_map,List.getElem?_eq_getElem h2]
   rfl
  ·exfalso
   rw [List.getD_eq_getElem?_getD,List.getElem?_eq_none (by rw [List.length_append];unfold fR;rw [List.take_length,List.length_map];omega)] at h
   cases h
theorem hI {r:Nat} (hr:r<(goP ps th ms).length):(aQ ps th ms).getD ((cN ps th ms th.length).length+r) AC.zero=⟨false,ms.getD (goP ps th ms)[r] MB.zero,(fQ ps th ms).getD (goP ps th ms)[r] 0⟩:=by
 rw [← mP,List.getD_eq_getElem?_getD,List.getElem?_append_right (by omega),Nat.add_sub_cancel_left]
 unfold fR
 rw [List.take_length,List.getElem?_map,List.getElem?_eq_getElem hr]
 rfl
theorem aAt (hz:bK ps ms=0) {i j:Nat} (hi:i<ms.length) (hj:j<ms.length) (h:(ms.getD i MB.zero).pl=(ms.getD j MB.zero).pl):i=j:=by
 have hup:=(fA hz).2.2.1
 rw [cJ ms i hi,cJ ms j hj] at h
 have hl:(plI ms).length=ms.length:=by simp [plI]
 have g : ∀ k (hk:k<ms.length),(plI ms)[k]'(by omega)=ms[k].pl:=fun k hk=>by simp [plI]
 rcases Nat.lt_trichotomy i j with hlt | he | hlt
 ·have:=List.pairwise_iff_getElem.1 hup i j (by omega) (by omega) hlt
  rw [g i hi,g j hj] at this;omega
 ·exact he
 ·have:=List.pairwise_iff_getElem.1 hup j i (by omega) (by omega) hlt
  rw [g i hi,g j hj] at this;omega
theorem aEo (hz:bK ps ms=0) {j:Nat} (h:((aQ ps th ms).getD j AC.zero).out=false):whF (aQ ps th ms) j ((aQ ps th ms).getD j AC.zero).m.pl=none:=by
 cases hw:whF (aQ ps th ms) j ((aQ ps th ms).getD j AC.zero).m.pl with
 | none=>rfl
 | some k=>
  exfalso
  obtain ⟨i,-,hij,h1,h2⟩:=mQ hw
  obtain ⟨r,hr,e1,e2⟩:=kO h
  obtain ⟨s,hs,e3,e4⟩:=kO h1
  rw [e2,e4] at h2
  have hrm:=(cL.1 (List.getElem_mem hr)).1
  have hsm:=(cL.1 (List.getElem_mem hs)).1
  have:=aAt hz hsm hrm h2
  have:=nZ (eX ps th ms) (by assumption) (by assumption) this
  omega
theorem aCp (hz:bK ps ms=0) {i:Nat} (hi:i<ms.length) {n:Nat} {k:Int} (h:whF (aQ ps th ms) n (ms.getD i MB.zero).pl=some k) : ∃ (r:Nat) (hr:r<(goP ps th ms).length),k=(((cN ps th ms th.length).length+r:Nat):Int)/\(goP ps th ms)[r]=i/\cyF (aQ ps th ms) n (ms.getD i MB.zero).pl=some ((fQ ps th ms).getD i 0):=by
 obtain ⟨j,rfl,-,h1,h2⟩:=mQ h
 obtain ⟨r,hr,e1,e2⟩:=kO h1
 have hrm:=(cL.1 (List.getElem_mem hr)).1
 rw [e2] at h2
 have hri:=aAt hz hrm hi h2
 refine ⟨r,hr,by rw [e1],hri,?_⟩
 rw [zK,h,Option.map_some,Int.toNat_natCast,e2,hri]
theorem aEd (hz:bK ps ms=0) {i j:Nat} (hi:i<ms.length) (hj:j∈dB ps ms i) {n:Nat} {k k':Int} (h1:whF (aQ ps th ms) n (ms.getD i MB.zero).pl=some k) (h2:whF (aQ ps th ms) n (ms.getD j MB.zero).pl=some k') (hk:k<k'):((cyF (aQ ps th ms) n (ms.getD i MB.zero).pl).getD 0≠0)/\(cyF (aQ ps th ms) n (ms.getD j MB.zero).pl).getD 0=(cyF (aQ ps th ms) n (ms.getD i MB.zero).pl).getD 0:=by
 have hjm:=(lG.1 hj).2.1
 obtain ⟨r,hr,e1,e2,e3⟩:=aCp hz hi h1
 obtain ⟨s,hs,f1,f2,f3⟩:=aCp hz hjm h2
 have hrs:r<s:=by omega
 have hc:gL ps ms i j=true:=gU.2 (.one hj)
 have hb:gL ps ms j i=true:=by
  have:=oD (uQ ps th ms) r s hrs hs (by rw [e2,f2];exact hc)
  rw [e2,f2] at this;exact this
 have hne:j≠i:=by
  intro e
  have:(goP ps th ms)[s]=(goP ps th ms)[r]:=by rw [e2,f2,e]
  have:=nZ (eX ps th ms) (by assumption) (by assumption) this
  omega
 have:=zL (th:=th) (e2 ▸ List.getElem_mem hr) (f2 ▸ List.getElem_mem hs) hne hc hb
 rw [e3,f3,Option.getD_some,Option.getD_some]
 exact ⟨by omega,this.2⟩
theorem aEr {y c:Int} (h:nuF (aQ ps th ms) (aQ ps th ms).length y=some c):2<=c:=by
 obtain ⟨-,-,hy,i,hi,h1,h2⟩:=lH h
 obtain ⟨r,hr,e1,e2⟩:=kO h1
 rw [e2] at h2
 simp only at h2
 obtain ⟨-,j,hjm,hne,hje⟩:=aBp (ps:=ps) (th:=th) (ms:=ms) (k:=(goP ps th ms)[r]) (by rw [h2];exact hy)
 obtain ⟨s,hs,hse⟩:=List.getElem_of_mem hjm
 have hsr:s≠r:=fun e=>hne (by subst e;exact hse.symm)
 have hat:=hI (ps:=ps) (th:=th) (ms:=ms) hs
 have hat2:=hI (ps:=ps) (th:=th) (ms:=ms) hr
 have hlen:=kP (ps:=ps) (th:=th) (ms:=ms)
 have a1:((aQ ps th ms).getD ((cN ps th ms th.length).length+r) AC.zero).out=false/\((aQ ps th ms).getD ((cN ps th ms th.length).length+r) AC.zero).cy=y:=by rw [hat2];exact ⟨rfl,h2⟩
 have a2:((aQ ps th ms).getD ((cN ps th ms th.length).length+s) AC.zero).out=false/\((aQ ps th ms).getD ((cN ps th ms th.length).length+s) AC.zero).cy=y:=by rw [hat];exact ⟨rfl,by show (fQ ps th ms).getD (goP ps th ms)[s] 0=y;rw [hse,hje];exact h2⟩
 have:=(aCm hy (aQ ps th ms).length).2 (by
  rcases Nat.lt_or_gt_of_ne hsr with hlt | hlt
  ·exact ⟨_,_,(by omega:(cN ps th ms th.length).length+s<(cN ps th ms th.length).length+r),by omega,a2,a1⟩
  ·exact ⟨_,_,(by omega:(cN ps th ms th.length).length+r<(cN ps th ms th.length).length+s),by omega,a1,a2⟩)
 rw [h] at this
 simpa using this
end
end Go.Proofs.YtonlloiemgdfkaaGreatDoor
namespace Go.Proofs.YtonlloiemgdfkaaGreatDoor
open Go.RowKit
noncomputable def doA (ps:List PK) (f:Go.Lit->Option MB):List AC->(Go.Lit->Option MB)
 | []=>f
 | x :: l=>doA ps (upL f (bI ps x.m) (if x.out=true then none else some x.m)) l
theorem qW (ps:List PK) (f:Go.Lit->Option MB) : ∀ (a b:List AC),doA ps f (a++b)=doA ps (doA ps f a) b
 | [],b=>rfl
 | x :: a,b=>by rw [List.cons_append,doA,doA,qW]
theorem gM (ps:List PK) (kl:Go.Lit) : ∀ (l:List AC) (f:Go.Lit->Option MB),(∀ x∈l,bI ps x.m≠kl)->doA ps f l kl=f kl
 | [],f,_=>rfl
 | x :: l,f,h=>by
  rw [doA,gM ps kl l _ (fun y hy=>h y (List.mem_cons_of_mem _ hy)),dF _ _ (fun e=>h x (List.mem_cons_self ..) e.symm)]
def jN (ps:List PK) (A:List AC):Prop:=A.Pairwise fun x y=>bI ps x.m≠bI ps y.m
theorem jN.before {ps:List PK} {A:List AC} (h:jN ps A) {j:Nat} (hj:j<A.length) : ∀ x∈A.take j,bI ps x.m≠bI ps A[j].m:=fun x hx=>by
 obtain ⟨i,hi,rfl⟩:=List.getElem_of_mem hx
 have hi':i<j:=by simp at hi;omega
 rw [List.getElem_take]
 exact List.pairwise_iff_getElem.1 h i j (by omega) hj hi'
theorem jN.behind {ps:List PK} {A:List AC} (h:jN ps A) {j:Nat} (hj:j<A.length) : ∀ x∈A.drop (j+1),bI ps x.m≠bI ps A[j].m:=fun x hx=>by
 obtain ⟨i,hi,rfl⟩:=List.getElem_of_mem hx
 rw [List.getElem_drop]
 exact fun e=>List.pairwise_iff_getElem.1 h j (j+1+i) hj (by simp at hi;omega) (by omega) e.symm
theorem jN.at {ps:List PK} {A:List AC} (h:jN ps A) (f:Go.Lit->Option MB) {j:Nat} (hj:j<A.length):doA ps f (A.take j) (bI ps A[j].m)=f (bI ps A[j].m):=gM ps _ _ _ (h.before hj)
theorem jN.did {ps:List PK} {A:List AC} (h:jN ps A) (f:Go.Lit->Option MB) {j:Nat} (hj:j<A.length):doA ps f A (bI ps A[j].m)=if A[j].out=true then none else some A[j].m:=by
 have e:A=A.take j++(A[j] :: A.drop (j+1)):=by rw [← List.drop_eq_getElem_cons hj,List.take_append_drop]
 have h2:doA ps f A=doA ps (upL (doA ps f (A.take j)) (bI ps A[j].m) (if A[j].out=true then none else some A[j].m)) (A.drop (j+1)):=by
  conv=>lhs;rw [e]
  rw [qW,doA]
 rw [h2,gM ps _ _ _ (h.behind hj),eA]
theorem mY {ps:List PK} {A:List AC} (f:Go.Lit->Option MB) {j:Nat} (hj:j<A.length):doA ps f (A.take (j+1))=upL (doA ps f (A.take j)) (bI ps A[j].m) (if A[j].out=true then none else some A[j].m):=by
 rw [List.take_succ_eq_append_getElem hj,qW,doA,doA]
def dN (ps:List PK) (l:List MB):Prop:=l.Pairwise fun a b=>bI ps a≠bI ps b
def inA (l:List MB):List AC:=l.map fun m=>⟨false,m,0⟩
theorem dN.diff {ps:List PK} {l:List MB} (h:dN ps l):jN ps (inA l):=by
 unfold jN inA;rw [List.pairwise_map];exact h
noncomputable def thF (ps:List PK) (th:List MB):Go.Lit->Option MB:=doA ps (fun _=>none) (inA th)
theorem rP {ps:List PK} {th:List MB} (h:dN ps th) {m:MB} (hm:m∈th):thF ps th (bI ps m)=some m:=by
 obtain ⟨j,hj,rfl⟩:=List.getElem_of_mem hm
 have hj':j<(inA th).length:=by simpa [inA] using hj
 have:=h.diff.did (fun _=>none) hj'
 have e:(inA th)[j]=⟨false,th[j],0⟩:=by simp [inA]
 rw [e] at this
 exact this
theorem wK {ps:List PK} {th:List MB} (h:dN ps th) {kl:Go.Lit} {m:MB} (hf:thF ps th kl=some m):m∈th/\bI ps m=kl:=by
 by_cases hk : ∃ x∈th,bI ps x=kl
 ·obtain ⟨x,hx,rfl⟩:=hk
  rw [rP h hx] at hf
  cases hf
  exact ⟨hx,rfl⟩
 ·unfold thF at hf
  rw [gM ps kl _ _ (fun x hx=>by
   unfold inA at hx
   obtain ⟨m',hm',rfl⟩:=List.mem_map.1 hx
   exact fun e=>hk ⟨m',hm',e⟩)] at hf
  cases hf
def mE (f:Go.Lit->Option MB) (sz:Nat):Prop:= ∃ L:List Go.Lit,L.Nodup/\L.length=sz/\∀ kl,kl∈L↔(f kl).isSome=true
theorem yL:mE (fun _=>none) 0:=⟨[],List.nodup_nil,rfl,fun kl=>by simp⟩
theorem mE.put {f:Go.Lit->Option MB} {sz:Nat} (h:mE f sz) (k:Go.Lit) (m:MB):mE (upL f k (some m)) (if (f k).isSome=true then sz else sz+1):=by
 obtain ⟨L,h1,h2,h3⟩:=h
 by_cases hk:(f k).isSome=true
 ·rw [if_pos hk]
  refine ⟨L,h1,h2,fun kl=> ?_⟩
  rw [h3]
  by_cases e:kl=k
  ·subst e;rw [eA,hk];simp
  ·rw [dF _ _ e]
 ·rw [if_neg hk]
  refine ⟨k :: L,List.nodup_cons.2 ⟨fun hm=>hk ((h3 k).1 hm),h1⟩,by simp [h2],fun kl=> ?_⟩
  rw [List.mem_cons,h3]
  by_cases e:kl=k
  ·subst e;rw [eA];simp
  ·rw [dF _ _ e];simp [e]
open Classical in
theorem mE.del {f:Go.Lit->Option MB} {sz:Nat} (h:mE f sz) {k:Go.Lit} (hk:(f k).isSome=true):mE (upL f k none) (sz-1):=by
 obtain ⟨L,h1,h2,h3⟩:=h
 refine ⟨L.erase k,h1.erase _,by rw [List.length_erase_of_mem ((h3 k).2 hk),h2],fun kl=> ?_⟩
 rw [h1.mem_erase_iff,h3]
 by_cases e:kl=k
 ·subst e;rw [eA];simp
 ·rw [dF _ _ e];simp [e]
theorem cF (x:Int):(slS x).size<=maxLen:=by
 show 1<=maxLen
 unfold maxLen;decide
section
variable {ps:List PK} {th ms:List MB}
def KOk (ps:List PK) (m:MB):Prop:=(aV ps m).n.size<=maxLen/\1<=(aV ps m).sl/\(aV ps m).sl<=9
theorem uU {a b:MB} (ha:KOk ps a) (hb:KOk ps b):bI ps a=bI ps b↔shB ps (aV ps b) a=true:=by
 unfold shB
 rw [Bool.and_eq_true]
 constructor
 ·intro h
  obtain ⟨h1,h2⟩:=aAb ha.1 (cF _) hb.1 (cF _) h
  rw [h1,aCi ha.2 hb.2 h2];simp
 ·rintro ⟨h1,h2⟩
  have e1:(aV ps a).n=(aV ps b).n:=by
   have:=beq_iff_eq.1 h1
   rw [Lib.toList_data,Lib.toList_data] at this
   exact gT this
  have e2:(aV ps a).sl=(aV ps b).sl:=by simpa using h2
  unfold bI;rw [e1,e2]
theorem yE (hk : ∀ m∈th,KOk ps m) (hk2 : ∀ m∈ms,KOk ps m) (h1:dN ps th) (h2:dN ps ms):jN ps (aQ ps th ms):=by
 unfold aQ jN
 rw [List.pairwise_append]
 refine ⟨?_,?_,?_⟩
 ·rw [List.pairwise_map]
  exact h1.sublist List.filter_sublist
 ·rw [List.pairwise_map]
  rw [List.pairwise_iff_getElem]
  intro i j hi hj hij
  have hi':=(cL.1 (List.getElem_mem hi)).1
  have hj':=(cL.1 (List.getElem_mem hj)).1
  have hne:(goP ps th ms)[i]≠(goP ps th ms)[j]:=fun e=>by have:=nZ (eX ps th ms) hi hj e;omega
  show bI ps (ms.getD _ MB.zero)≠bI ps (ms.getD _ MB.zero)
  rw [cJ ms _ hi',cJ ms _ hj']
  rcases Nat.lt_or_gt_of_ne hne with hlt | hlt
  ·exact List.pairwise_iff_getElem.1 h2 _ _ hi' hj' hlt
  ·exact fun e=>List.pairwise_iff_getElem.1 h2 _ _ hj' hi' hlt e.symm
 ·intro x hx y hy
  obtain ⟨m,hm,rfl⟩:=List.mem_map.1 hx
  obtain ⟨k,hk',rfl⟩:=List.mem_map.1 hy
  obtain ⟨hmt,hmo⟩:=List.mem_filter.1 hm
  have hkm:=(cL.1 hk').1
  show bI ps m≠bI ps (ms.getD k MB.zero)
  intro e
  unfold mI at hmo
  have:(ms.any (shB ps (aV ps m)))=true:=List.any_eq_true.2 ⟨_,nC hkm,(uU (hk2 _ (nC hkm)) (hk m hmt)).1 e.symm⟩
  rw [this] at hmo;cases hmo
theorem yG (hd:jN ps (aQ ps th ms)) (h1:dN ps th) {j:Nat} (hj:j<(aQ ps th ms).length):((aQ ps th ms)[j].out=true->doA ps (thF ps th) ((aQ ps th ms).take j) (bI ps (aQ ps th ms)[j].m)=some (aQ ps th ms)[j].m/\(aQ ps th ms)[j].cy=0)/\((aQ ps th ms)[j].out=false->doA ps (thF ps th) ((aQ ps th ms).take j) (bI ps (aQ ps th ms)[j].m)≠some (aQ ps th ms)[j].m):=by
 rw [hd.at _ hj]
 have hm:=List.getElem_mem hj
 generalize (aQ ps th ms)[j]=x at hm
 unfold aQ at hm
 rcases List.mem_append.1 hm with hm | hm
 ·obtain ⟨m,hmm,rfl⟩:=List.mem_map.1 hm
  exact ⟨fun _=>⟨rP h1 (List.mem_filter.1 hmm).1,rfl⟩,fun h=>(by cases h)⟩
 ·obtain ⟨k,hk,rfl⟩:=List.mem_map.1 hm
  refine ⟨fun h=>(by cases h),fun _ hf=> ?_⟩
  obtain ⟨hmt,-⟩:=wK h1 hf
  have hnew:=(cL.1 hk).2
  unfold kM at hnew
  rw [List.any_eq_true (p:=fun o=>eqM o (ms.getD k MB.zero)) |>.2 ⟨_,hmt,vV.2 rfl⟩] at hnew
  cases hnew
theorem oE (hd:jN ps (aQ ps th ms)) (hk2 : ∀ m∈ms,KOk ps m) (h1:dN ps th) (h2:dN ps ms) (hk : ∀ m∈th,KOk ps m) {m:MB} (hm:m∈ms):doA ps (thF ps th) (aQ ps th ms) (bI ps m)=some m:=by
 obtain ⟨i,hi,rfl⟩:=List.getElem_of_mem hm
 by_cases hn:kM th ms i=true
 ·have hg:i∈goP ps th ms:=cL.2 ⟨hi,hn⟩
  obtain ⟨r,hr,hri⟩:=List.getElem_of_mem hg
  have hat:=hI (ps:=ps) (th:=th) (ms:=ms) hr
  have hlen:=kP (ps:=ps) (th:=th) (ms:=ms)
  have hj:(cN ps th ms th.length).length+r<(aQ ps th ms).length:=by omega
  rw [List.getD_eq_getElem?_getD,List.getElem?_eq_getElem hj,Option.getD_some,hri,cJ ms i hi] at hat
  have:=hd.did (thF ps th) hj
  rw [hat] at this
  exact this
 ·have hold:ms[i]∈th:=by
   unfold kM at hn
   simp only [Bool.not_eq_true,Bool.not_eq_false',List.any_eq_true] at hn
   obtain ⟨o,ho,he⟩:=hn
   rw [cJ ms i hi] at he
   rw [← vV.1 he];exact ho
  rw [gM ps _ _ _ (fun x hx=> ?_),rP h1 hold]
  unfold aQ at hx
  rcases List.mem_append.1 hx with hx | hx
  ·obtain ⟨o,ho,rfl⟩:=List.mem_map.1 hx
   obtain ⟨hot,hoo⟩:=List.mem_filter.1 ho
   intro e
   unfold mI at hoo
   rw [List.any_eq_true.2 ⟨ms[i],List.getElem_mem hi,(uU (hk2 _ (List.getElem_mem hi)) (hk o hot)).1 e.symm⟩] at hoo
   cases hoo
  ·obtain ⟨k,hk',rfl⟩:=List.mem_map.1 hx
   obtain ⟨hkm,hkn⟩:=cL.1 hk'
   show bI ps (ms.getD k MB.zero)≠_
   rw [cJ ms k hkm]
   have hne:k≠i:=fun e=>hn (e ▸ hkn)
   rcases Nat.lt_or_gt_of_ne hne with hlt | hlt
   ·exact List.pairwise_iff_getElem.1 h2 _ _ hkm hi hlt
   ·exact fun e=>List.pairwise_iff_getElem.1 h2 _ _ hi hkm hlt e.symm
theorem yF (hd:jN ps (aQ ps th ms)) (hk2 : ∀ m∈ms,KOk ps m) (h1:dN ps th) (h2:dN ps ms) (hk : ∀ m∈th,KOk ps m) {sz:Nat} (hs:mE (doA ps (thF ps th) (aQ ps th ms)) sz):sz=ms.length:=by
 obtain ⟨L,g1,g2,g3⟩:=hs
 have hnd:(ms.map (bI ps)).Nodup:=by
  show List.Pairwise _ _
  rw [List.pairwise_map];exact h2
 have hA : ∀ kl∈ms.map (bI ps),kl∈L:=fun kl hkl=>by
  obtain ⟨m,hm,rfl⟩:=List.mem_map.1 hkl
  rw [g3,oE hd hk2 h1 h2 hk hm];rfl
 have hB : ∀ kl∈L,kl∈ms.map (bI ps):=fun kl hkl=>by
  refine Classical.byContradiction fun hno=> ?_
  have hsome:=(g3 kl).1 hkl
  have hms : ∀ m∈ms,bI ps m≠kl:=fun m hm e=>hno (List.mem_map.2 ⟨m,hm,e⟩)
  cases hf:thF ps th kl with
  | none=>
   rw [gM ps kl _ _ (fun x hx e=> ?_),hf] at hsome
   ·cases hsome
   ·unfold aQ at hx
    rcases List.mem_append.1 hx with hx | hx
    ·obtain ⟨o,ho,rfl⟩:=List.mem_map.1 hx
     have:=rP h1 (List.mem_filter.1 ho).1
     simp only at e
     rw [e,hf] at this;cases this
    ·obtain ⟨k,hk',rfl⟩:=List.mem_map.1 hx
     exact hms _ (nC (cL.1 hk').1) e
  | some m0=>
   obtain ⟨hm0,hk0⟩:=wK h1 hf
   have hout:mI ps ms m0=true:=by
    unfold mI
    cases hc:ms.any (shB ps (aV ps m0)) with
    | false=>rfl
    | true=>
     obtain ⟨o,ho,hsh⟩:=List.any_eq_true.1 hc
     exact absurd (((uU (hk2 o ho) (hk m0 hm0)).2 hsh).trans hk0) (hms o ho)
   have hin:(⟨true,m0,0⟩:AC)∈aQ ps th ms:=by
    unfold aQ
    exact List.mem_append_left _ (List.mem_map.2 ⟨m0,List.mem_filter.2 ⟨hm0,hout⟩,rfl⟩)
   obtain ⟨j,hj,hje⟩:=List.getElem_of_mem hin
   have:=hd.did (thF ps th) hj
   rw [hje] at this
   simp only [hk0] at this
   rw [this] at hsome
   cases hsome
 have e1:=List.Nodup.length_le_of_subset hnd hA
 have e2:=List.Nodup.length_le_of_subset g1 hB
 rw [List.length_map] at e1 e2
 omega
end
end Go.Proofs.YtonlloiemgdfkaaGreatDoor
