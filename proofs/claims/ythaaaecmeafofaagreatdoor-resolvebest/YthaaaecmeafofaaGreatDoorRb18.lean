/- Steps of the proof: SatSpec, EncSteps, EncOk, EncVal, EncDraft, EncLits. -/
import Derived.Test.YthaaaecmeafofaaGreatDoorRb17
import Derived.Test.YthaaaecmeafofaaGreatDoorRb11
set_option maxHeartbeats 16000000
set_option maxRecDepth 100000
namespace Go.Proofs.YthaaaecmeafofaaGreatDoor.Cn
def Kn (F:List (List Int)) (A:List Int) (k:Nat):Prop:=Der F A k∨Der F A (-(k:Int))
open Classical in
noncomputable def iN (n:Nat) (F:List (List Int)) (A:List Int):Option Nat:=(List.range' 1 n).find? fun k=>decide (¬ Kn F A k)
open Classical in
noncomputable def sT (n:Nat) (F:List (List Int)) (A:List Int):List Bool:=(List.range' 1 n).map fun k=>decide (Der F A (k:Nat))
inductive aTz | out | model (m:List Bool) | closed
structure aLo where
 o:aTz
 s:Nat
 P:List (List Int)
open Classical in
noncomputable def bY (n:Nat) (F:List (List Int)):Nat->List Int->Nat->List (List Int)->aLo
 | 0,_,s,P=>⟨.out,s,P⟩
 | g+1,A,s,P=>
  if s=0 then ⟨.out,s,P⟩ else
  if bJ F A then ⟨.closed,s-1,P ++ [bM A]⟩ else
  match iN n F A with
  | none=>⟨.model (sT n F A),s-1,P⟩
  | some k=>
   match bY n F g (A ++ [-(k:Int)]) (s-1) P with
   | ⟨.closed,s1,P1⟩=>
    match bY n F g (A ++ [(k:Int)]) s1 P1 with
    | ⟨.closed,s2,P2⟩=>⟨.closed,s2,P2 ++ [bM A]⟩
    | r=>r
   | r=>r
theorem iS {n:Nat} {F:List (List Int)} {A:List Int} (h:iN n F A=none) : ∀ k,1<=k->k<=n->Kn F A k:=by
 intro k h1 h2
 have:=(List.find?_eq_none.1 h) k (List.mem_range'_1.2 ⟨h1,by omega⟩)
 simpa using this
theorem fQ {n:Nat} {F:List (List Int)} {A:List Int} {k:Nat} (h:iN n F A=some k):1<=k/\k<=n/\¬ Kn F A k/\∀ j,1<=j->j<k->Kn F A j:=by
 unfold iN at h
 have h1:=List.find?_some h
 have h2:=List.mem_range'_1.1 (List.mem_of_find?_eq_some h)
 refine ⟨h2.1,by omega,by simpa using h1,fun j hj1 hj2=> ?_⟩
 obtain ⟨-,pa,pb,e,hno⟩:=List.find?_eq_some_iff_append.1 h
 have hjm:j∈pa:=by
  have hk:(List.range' 1 n)[pa.length]? = some k:=by rw [e];simp
  have hkk:pa.length=k-1:=by
   obtain ⟨hl,he⟩:=List.getElem?_eq_some_iff.1 hk
   rw [List.getElem_range'] at he
   omega
  have hj:(List.range' 1 n)[j-1]? = some j:=by
   rw [List.getElem?_range' (by omega)]
   congr 1;omega
  rw [e,List.getElem?_append_left (by omega)] at hj
  exact List.mem_of_getElem? hj
 have:=hno j hjm
 simpa using this
theorem uS {n:Nat} {F:List (List Int)} {A:List Int} (h : ∀ k,1<=k->k<=n->Kn F A k):iN n F A=none:=by
 cases e:iN n F A with
 | none=>rfl
 | some j=>
  obtain ⟨a,b,c,-⟩:=fQ e
  exact absurd (h j a b) c
theorem kH (n:Nat) (F:List (List Int)) (A:List Int):(sT n F A).length=n:=by simp [sT]
open Classical in
theorem uV {n:Nat} {F:List (List Int)} {A:List Int} {j:Nat} (h:j<n):(sT n F A).getD j false=decide (Der F A ((j+1:Nat):Int)):=by
 unfold sT
 rw [List.getD_eq_getElem?_getD,List.getElem?_map,List.getElem?_range' h]
 simp only [Option.map_some,Option.getD_some]
 congr 3;omega
theorem xM (A:List Int):bM (bM A)=A:=by
 simp [bM,List.map_map,Function.comp_def]
theorem mX {A:List Int} {y:Int}:y∈bM A ↔ -y∈A:=by
 unfold bM
 rw [List.mem_map]
 constructor
 ·rintro ⟨x,hx,rfl⟩;rw [Int.neg_neg];exact hx
 ·intro h;exact ⟨-y,h,Int.neg_neg y⟩
theorem aJh {F:List (List Int)} {A:List Int} {k:Int} (h1:bM (A ++ [-k])∈F) (h2:bM (A ++ [k])∈F):bJ F A:=by
 refine .inl ⟨k,?_,?_⟩
 ·refine .unit h1 (mX.2 (by simp)) fun y hy hne=> ?_
  have:=mX.1 hy
  rw [List.mem_append,List.mem_singleton] at this
  rcases this with h | h
  ·exact .told h
  ·exact absurd (by omega) hne
 ·refine .unit h2 (mX.2 (by simp)) fun y hy hne=> ?_
  have:=mX.1 hy
  rw [List.mem_append,List.mem_singleton] at this
  rcases this with h | h
  ·exact .told h
  ·exact absurd (by omega) hne
theorem pN {F P:List (List Int)} {c:List Int} (h:nL F P P.length) (hc:aAo (F++P) c):nL F (P ++ [c]) (P ++ [c]).length:=by
 intro i d hi hd
 by_cases hl:i<P.length
 ·rw [List.getElem?_append_left hl] at hd
  rw [List.take_append_of_le_length (by omega)]
  exact h i d hl hd
 ·have e:i=P.length:=by simp at hi;omega
  subst e
  simp at hd
  subst hd
  simpa using hc
theorem lH (n:Nat) (F:List (List Int)) (A:List Int) (s:Nat) (P:List (List Int)):bY n F 0 A s P=⟨.out,s,P⟩:=rfl
theorem oD (n:Nat) (F:List (List Int)) (g:Nat) (A:List Int) (P:List (List Int)):bY n F (g+1) A 0 P=⟨.out,0,P⟩:=by
 rw [bY];exact if_pos rfl
theorem mB {n:Nat} {F:List (List Int)} {g:Nat} {A:List Int} {s:Nat} {P:List (List Int)} (hs:s≠0) (h:bJ F A):bY n F (g+1) A s P=⟨.closed,s-1,P ++ [bM A]⟩:=by
 rw [bY,if_neg hs,if_pos h]
theorem jP {n:Nat} {F:List (List Int)} {g:Nat} {A:List Int} {s:Nat} {P:List (List Int)} (hs:s≠0) (h : ¬ bJ F A) (hl:iN n F A=none):bY n F (g+1) A s P=⟨.model (sT n F A),s-1,P⟩:=by
 rw [bY,if_neg hs,if_neg h,hl]
theorem eD {n:Nat} {F:List (List Int)} {g:Nat} {A:List Int} {s:Nat} {P:List (List Int)} {k:Nat} (hs:s≠0) (h : ¬ bJ F A) (hl:iN n F A=some k) (hc:(bY n F g (A ++ [-(k:Int)]) (s-1) P).o ≠ .closed) :
  bY n F (g+1) A s P=bY n F g (A ++ [-(k:Int)]) (s-1) P:=by
 rw [bY,if_neg hs,if_neg h,hl]
 dsimp only
 generalize bY n F g (A ++ [-(k:Int)]) (s-1) P=r at hc ⊢
 obtain ⟨o,s1,P1⟩:=r
 cases o<;>first | rfl | exact absurd rfl hc
theorem dX {n:Nat} {F:List (List Int)} {g:Nat} {A:List Int} {s s1:Nat} {P P1:List (List Int)} {k:Nat} (hs:s≠0) (h : ¬ bJ F A) (hl:iN n F A=some k) (h1:bY n F g (A ++ [-(k:Int)]) (s-1) P=⟨.closed,s1,P1⟩) (hc:(bY n F g (A ++ [(k:Int)]) s1 P1).o ≠ .closed) :
  bY n F (g+1) A s P=bY n F g (A ++ [(k:Int)]) s1 P1:=by
 rw [bY,if_neg hs,if_neg h,hl]
 simp only [h1]
 generalize bY n F g (A ++ [(k:Int)]) s1 P1=r at hc ⊢
 obtain ⟨o,s2,P2⟩:=r
 cases o<;>first | rfl | exact absurd rfl hc
theorem oC {n:Nat} {F:List (List Int)} {g:Nat} {A:List Int} {s s1 s2:Nat} {P P1 P2:List (List Int)} {k:Nat} (hs:s≠0) (h : ¬ bJ F A) (hl:iN n F A=some k) (h1:bY n F g (A ++ [-(k:Int)]) (s-1) P=⟨.closed,s1,P1⟩) (h2:bY n F g (A ++ [(k:Int)]) s1 P1=⟨.closed,s2,P2⟩) :
  bY n F (g+1) A s P=⟨.closed,s2,P2 ++ [bM A]⟩:=by
 rw [bY,if_neg hs,if_neg h,hl]
 simp only [h1,h2]
structure aAn (n:Nat) (F:List (List Int)) (A:List Int) (s:Nat) (P:List (List Int)) (s':Nat) (P':List (List Int)):Prop where
 pre:P <+: P'
 last:P'.getLast? = some (bM A)
 come:nL F P P.length->nL F P' P'.length
 few:P'.length+s'<=P.length+s
 lits:(∀ c∈P,c.length<=60/\aL n c)->∀ c∈P',c.length<=60/\aL n c
theorem hZ {n:Nat} {F:List (List Int)} : ∀ (g:Nat) (A:List Int) (s:Nat) (P:List (List Int)) (s':Nat) (P':List (List Int)),A.length+g<=61->aL n A->bY n F g A s P=⟨.closed,s',P'⟩->aAn n F A s P s' P'
 | 0,A,s,P,s',P',_,_,h=>by rw [lH] at h;injection h with h;cases h
 | g+1,A,s,P,s',P',hg,hA,h=>by
  have hown:(∀ c∈P,c.length<=60/\aL n c)->(bM A).length<=60/\aL n (bM A):=fun _=>⟨by simp [bM];omega,xK hA⟩
  by_cases hs:s=0
  ·subst hs;rw [oD] at h;injection h with h;cases h
  by_cases hf:bJ F A
  ·rw [mB hs hf] at h
   injection h with _ h1 h2
   subst h1 h2
   refine ⟨List.prefix_append _ _,by simp,fun hc=>pN hc ?_,by simp;omega,fun hl c hc=> ?_⟩
   ·unfold aAo;rw [xM]
    exact hf.more (fun d hd=>List.mem_append_left _ hd) fun x hx=> .told hx
   ·rcases List.mem_append.1 hc with hc | hc
    ·exact hl c hc
    ·rw [List.mem_singleton.1 hc];exact hown hl
  ·cases hl:iN n F A with
   | none=>rw [jP hs hf hl] at h;injection h with h;cases h
   | some k=>
    obtain ⟨hk1,hk2,-,-⟩:=fQ hl
    have hlit:Lit n (k:Int):=by unfold Lit;omega
    have hA1:aL n (A ++ [-(k:Int)]):=fun x hx=>by
     rcases List.mem_append.1 hx with hx | hx
     ·exact hA x hx
     ·rw [List.mem_singleton.1 hx];exact hlit.neg
    have hA2:aL n (A ++ [(k:Int)]):=fun x hx=>by
     rcases List.mem_append.1 hx with hx | hx
     ·exact hA x hx
     ·rw [List.mem_singleton.1 hx];exact hlit
    cases e1:bY n F g (A ++ [-(k:Int)]) (s-1) P with
    | mk o1 s1 P1=>
     cases o1 with
     | out=>rw [eD hs hf hl (by rw [e1];simp),e1] at h;injection h with h;cases h
     | model m=>rw [eD hs hf hl (by rw [e1];simp),e1] at h;injection h with h;cases h
     | closed=>
      have i1:=hZ g _ _ _ _ _ (by simp;omega) hA1 e1
      cases e2:bY n F g (A ++ [(k:Int)]) s1 P1 with
      | mk o2 s2 P2=>
       cases o2 with
       | out=>rw [dX hs hf hl e1 (by rw [e2];simp),e2] at h;injection h with h;cases h
       | model m=>rw [dX hs hf hl e1 (by rw [e2];simp),e2] at h;injection h with h;cases h
       | closed=>
        have i2:=hZ g _ _ _ _ _ (by simp;omega) hA2 e2
        rw [oC hs hf hl e1 e2] at h
        injection h with _ h1 h2
        subst h1 h2
        have a1:=i1.few
        have a2:=i2.few
        refine ⟨(i1.pre.trans i2.pre).trans (List.prefix_append _ _),by simp,fun hc=>pN (i2.come (i1.come hc)) ?_,by simp;omega,fun hll c hc=> ?_⟩
        ·unfold aAo;rw [xM]
         refine aJh (k:=k) (List.mem_append_right _ (i2.pre.subset (List.mem_of_getLast? i1.last))) (List.mem_append_right _ (List.mem_of_getLast? i2.last))
        ·rcases List.mem_append.1 hc with hc | hc
         ·exact i2.lits (i1.lits hll) c hc
         ·rw [List.mem_singleton.1 hc];exact hown hll
def Mod (n:Nat) (F:List (List Int)) (m:List Bool):Prop:=m.length=n/\∀ c∈F,∃ x∈c,inM m x=true
def mH (A:List Int) (m:List Bool):Prop:= ∀ x∈A,inM m x=true
def jT (m o:List Bool):Prop:=m=o∨∃ j,j<m.length/\(∀ i<j,m.getD i false=o.getD i false)/\m.getD j false=false/\o.getD j false=true
theorem lA {m o:List Bool} (hl:m.length=o.length) (h : ∀ i<m.length,m.getD i false=o.getD i false):m=o:=by
 refine List.ext_getElem hl fun i h1 h2=> ?_
 have:=h i h1
 rwa [List.getD_eq_getElem?_getD,List.getD_eq_getElem?_getD,List.getElem?_eq_getElem h1,List.getElem?_eq_getElem h2,Option.getD_some,Option.getD_some] at this
theorem jT.anti {m o:List Bool} (h:jT m o) (h':jT o m):m=o:=by
 rcases h with h | ⟨j,h1,h2,h3,h4⟩
 ·exact h
 rcases h' with h' | ⟨j',h1',h2',h3',h4'⟩
 ·exact h'.symm
 rcases Nat.lt_trichotomy j j' with e | e | e
 ·have:=h2' j e;rw [h3,h4] at this;cases this
 ·subst e;rw [h3] at h4';cases h4'
 ·have:=h2 j' e;rw [h3',h4'] at this;cases this
theorem kE {m:List Bool} {k:Nat} (h:1<=k):inM m (k:Int)=m.getD (k-1) false:=by
 unfold inM
 have h1:decide ((0:Int)<k)=true:=by simp;omega
 rw [h1];simp
theorem mP {m:List Bool} {k:Nat} (h:1<=k):inM m (-(k:Int)) = !m.getD (k-1) false:=by
 rw [cU m (by omega),kE h]
theorem aCo {n:Nat} {F:List (List Int)} {A:List Int} (hF : ∀ c∈F,aL n c) (hA:aL n A) (hf : ¬ bJ F A) (hl:iN n F A=none):Mod n F (sT n F A)/\mH A (sT n F A):=by
 have hall:=iS hl
 have hder : ∀ x,Lit n x->Der F A x->inM (sT n F A) x=true:=by
  intro x hx hd
  obtain ⟨h0,hn⟩:=hx
  rcases Int.lt_or_gt_of_ne h0 with h | h
  ·obtain ⟨k,rfl⟩ : ∃ k:Nat,x = -(k:Int):=⟨x.natAbs,by omega⟩
   rw [mP (by omega),uV (by omega)]
   have:((k-1+1:Nat):Int)=k:=by omega
   rw [this]
   have hno : ¬ Der F A (k:Int):=fun h'=>hf (.inl ⟨_,h',hd⟩)
   simp [hno]
  ·obtain ⟨k,rfl⟩ : ∃ k:Nat,x=(k:Int):=⟨x.natAbs,by omega⟩
   rw [kE (by omega),uV (by omega)]
   have:((k-1+1:Nat):Int)=k:=by omega
   rw [this]
   simp [hd]
 refine ⟨⟨kH _ _ _,fun c hc=> ?_⟩,fun x hx=>hder x (hA x hx) (.told hx)⟩
 refine Classical.byContradiction fun hno=>hf (.inr ⟨c,hc,fun y hy=> ?_⟩)
 have hy':=hF c hc y hy
 rcases hall y.natAbs (by have:=hy'.1;omega) hy'.2 with h | h
 ·rcases Int.lt_or_gt_of_ne hy'.1 with h0 | h0
  ·rwa [show -y=(y.natAbs:Int) by omega]
  ·exact absurd ⟨y,hy,hder y hy' (by rwa [show y=(y.natAbs:Int) by omega])⟩ hno
 ·rcases Int.lt_or_gt_of_ne hy'.1 with h0 | h0
  ·exact absurd ⟨y,hy,hder y hy' (by rwa [show y = -(y.natAbs:Int) by omega])⟩ hno
  ·rwa [show -y = -(y.natAbs:Int) by omega]
theorem aRb {n:Nat} {F:List (List Int)} {A:List Int} {m o:List Bool} (hF : ∀ c∈F,aL n c) (hm:Mod n F m) (hAm:mH A m) (ho:Mod n F o) (hAo:mH A o) {k:Nat} (h1:1<=k) (h:Kn F A k):m.getD (k-1) false=o.getD (k-1) false:=by
 rcases h with h | h
 ·have a:=der_holds hF hm.2 hAm h
  have b:=der_holds hF ho.2 hAo h
  rw [kE h1] at a b
  rw [a,b]
 ·have a:=der_holds hF hm.2 hAm h
  have b:=der_holds hF ho.2 hAo h
  rw [mP h1] at a b
  revert a b
  cases m.getD (k-1) false<;>cases o.getD (k-1) false<;>simp
theorem aBj {n:Nat} {F:List (List Int)} {A:List Int} {s s':Nat} {P':List (List Int)} (hF : ∀ c∈F,aL n c) (h:aAn n F A s [] s' P') {o:List Bool} (ho:Mod n F o) : ¬ mH A o:=by
 intro hA
 have hc:=h.come (fun i c hi=>by simp at hi)
 have hl:=h.lits (by simp)
 obtain ⟨x,hx,hxo⟩:=all_holds hF (fun c hc=>(hl c hc).2) ho.2 P'.length (Nat.le_refl _) hc (bM A) (by rw [List.take_length];exact List.mem_of_getLast? h.last)
 have hy:=mX.1 hx
 have:=hA _ hy
 rw [cU o ((hl _ (List.mem_of_getLast? h.last)).2 x hx).1,hxo] at this
 cases this
theorem kQ {n:Nat} {F:List (List Int)} (hF : ∀ c∈F,aL n c) : ∀ (g:Nat) (A:List Int) (s:Nat) (P:List (List Int)) (s':Nat) (P':List (List Int)),aL n A->bY n F g A s P=⟨.closed,s',P'⟩->∀ o,Mod n F o->¬ mH A o
 | 0,A,s,P,s',P',_,h=>by rw [lH] at h;injection h with h;cases h
 | g+1,A,s,P,s',P',hA,h=>by
  intro o ho hAo
  by_cases hs:s=0
  ·subst hs;rw [oD] at h;injection h with h;cases h
  by_cases hf:bJ F A
  ·exact lQ hF hA ho.2 hAo hf
  ·cases hl:iN n F A with
   | none=>rw [jP hs hf hl] at h;injection h with h;cases h
   | some k=>
    obtain ⟨hk1,hk2,-,-⟩:=fQ hl
    have hlit:Lit n (k:Int):=by unfold Lit;omega
    have hA1:aL n (A ++ [-(k:Int)]):=fun x hx=>by
     rcases List.mem_append.1 hx with hx | hx
     ·exact hA x hx
     ·rw [List.mem_singleton.1 hx];exact hlit.neg
    have hA2:aL n (A ++ [(k:Int)]):=fun x hx=>by
     rcases List.mem_append.1 hx with hx | hx
     ·exact hA x hx
     ·rw [List.mem_singleton.1 hx];exact hlit
    cases e1:bY n F g (A ++ [-(k:Int)]) (s-1) P with
    | mk o1 s1 P1=>
     cases o1 with
     | out=>rw [eD hs hf hl (by rw [e1];simp),e1] at h;injection h with h;cases h
     | model m=>rw [eD hs hf hl (by rw [e1];simp),e1] at h;injection h with h;cases h
     | closed=>
      have i1:=kQ hF g _ _ _ _ _ hA1 e1 o ho
      cases e2:bY n F g (A ++ [(k:Int)]) s1 P1 with
      | mk o2 s2 P2=>
       cases o2 with
       | out=>rw [dX hs hf hl e1 (by rw [e2];simp),e2] at h;injection h with h;cases h
       | model m=>rw [dX hs hf hl e1 (by rw [e2];simp),e2] at h;injection h with h;cases h
       | closed=>
        have i2:=kQ hF g _ _ _ _ _ hA2 e2 o ho
        cases ek:inM o (k:Int) with
        | true=>
         refine i2 fun x hx=> ?_
         rcases List.mem_append.1 hx with hx | hx
         ·exact hAo x hx
         ·rw [List.mem_singleton.1 hx];exact ek
        | false=>
         refine i1 fun x hx=> ?_
         rcases List.mem_append.1 hx with hx | hx
         ·exact hAo x hx
         ·rw [List.mem_singleton.1 hx,cU o (by omega),ek];rfl
theorem pJ {n:Nat} {F:List (List Int)} (hF : ∀ c∈F,aL n c) : ∀ (g:Nat) (A:List Int) (s:Nat) (P:List (List Int)) (s':Nat) (P':List (List Int)) (m:List Bool),aL n A->bY n F g A s P=⟨.model m,s',P'⟩->Mod n F m/\mH A m/\∀ o,Mod n F o->mH A o->jT m o
 | 0,A,s,P,s',P',m,_,h=>by rw [lH] at h;injection h with h;cases h
 | g+1,A,s,P,s',P',m,hA,h=>by
  by_cases hs:s=0
  ·subst hs;rw [oD] at h;injection h with h;cases h
  by_cases hf:bJ F A
  ·rw [mB hs hf] at h;injection h with h;cases h
  ·cases hl:iN n F A with
   | none=>
    rw [jP hs hf hl] at h
    injection h with h _ _
    injection h with h
    subst h
    obtain ⟨h1,h2⟩:=aCo hF hA hf hl
    refine ⟨h1,h2,fun o ho hAo=> .inl (lA (by rw [kH,ho.1]) fun i hi=> ?_)⟩
    rw [kH] at hi
    exact aRb hF h1 h2 ho hAo (k:=i+1) (by omega) (iS hl (i+1) (by omega) (by omega))
   | some k=>
    obtain ⟨hk1,hk2,hkn,hbel⟩:=fQ hl
    have hlit:Lit n (k:Int):=by unfold Lit;omega
    have hA1:aL n (A ++ [-(k:Int)]):=fun x hx=>by
     rcases List.mem_append.1 hx with hx | hx
     ·exact hA x hx
     ·rw [List.mem_singleton.1 hx];exact hlit.neg
    have hA2:aL n (A ++ [(k:Int)]):=fun x hx=>by
     rcases List.mem_append.1 hx with hx | hx
     ·exact hA x hx
     ·rw [List.mem_singleton.1 hx];exact hlit
    have hput : ∀ (o:List Bool) (x:Int),mH A o->inM o x=true->mH (A ++ [x]) o:=fun o x hAo hx y hy=>by
     rcases List.mem_append.1 hy with hy | hy
     ·exact hAo y hy
     ·rw [List.mem_singleton.1 hy];exact hx
    cases e1:bY n F g (A ++ [-(k:Int)]) (s-1) P with
    | mk o1 s1 P1=>
     cases o1 with
     | out=>rw [eD hs hf hl (by rw [e1];simp),e1] at h;injection h with h;cases h
     | model m1=>
      rw [eD hs hf hl (by rw [e1];simp),e1] at h
      injection h with h _ _
      injection h with h
      subst h
      obtain ⟨j1,j2,j3⟩:=pJ hF g _ _ _ _ _ _ hA1 e1
      have hAm:mH A m1:=fun x hx=>j2 x (List.mem_append_left _ hx)
      refine ⟨j1,hAm,fun o ho hAo=> ?_⟩
      cases ek:inM o (k:Int) with
      | false=>exact j3 o ho (hput o _ hAo (by rw [cU o (by omega),ek];rfl))
      | true=>
       have hk:=j2 (-(k:Int)) (by simp)
       rw [mP hk1] at hk
       rw [kE hk1] at ek
       refine .inr ⟨k-1,by rw [j1.1];omega,fun i hi=> ?_,by simpa using hk,ek⟩
       exact aRb hF j1 hAm ho hAo (k:=i+1) (by omega) (hbel (i+1) (by omega) (by omega))
     | closed=>
      have i1:=kQ hF g _ _ _ _ _ hA1 e1
      cases e2:bY n F g (A ++ [(k:Int)]) s1 P1 with
      | mk o2 s2 P2=>
       cases o2 with
       | out=>rw [dX hs hf hl e1 (by rw [e2];simp),e2] at h;injection h with h;cases h
       | model m2=>
        rw [dX hs hf hl e1 (by rw [e2];simp),e2] at h
        injection h with h _ _
        injection h with h
        subst h
        obtain ⟨j1,j2,j3⟩:=pJ hF g _ _ _ _ _ _ hA2 e2
        refine ⟨j1,fun x hx=>j2 x (List.mem_append_left _ hx),fun o ho hAo=> ?_⟩
        cases ek:inM o (k:Int) with
        | true=>exact j3 o ho (hput o _ hAo ek)
        | false=>exact absurd (hput o _ hAo (by rw [cU o (by omega),ek];rfl)) (i1 o ho)
       | closed=>rw [oC hs hf hl e1 e2] at h;injection h with h;cases h
noncomputable def fX (n:Nat) (F:List (List Int)) (s:Nat):aLo:=bY n F 61 [] s []
theorem aGh {n:Nat} {F:List (List Int)} {s:Nat} (hF : ∀ c∈F,aL n c) {m:List Bool} (h:(fX n F s).o=.model m):Mod n F m/\∀ o,Mod n F o->jT m o:=by
 unfold fX at h
 cases e:bY n F 61 [] s [] with
 | mk o s' P'=>
  rw [e] at h
  cases h
  obtain ⟨a,-,b⟩:=pJ hF _ _ _ _ _ _ _ (by intro x hx;simp at hx) e
  exact ⟨a,fun o ho=>b o ho (by intro x hx;simp at hx)⟩
theorem aDk {n:Nat} {F:List (List Int)} {s:Nat} (hF : ∀ c∈F,aL n c) (h:(fX n F s).o=.closed):aGx F (fX n F s).P/\(fX n F s).P.length<=s/\(∀ c∈(fX n F s).P,c.length<=60/\aL n c)/\∀ o,¬ Mod n F o:=by
 unfold fX at h ⊢
 cases e:bY n F 61 [] s [] with
 | mk o s' P'=>
  rw [e] at h
  cases h
  have c:=hZ 61 _ _ _ _ _ (by simp) (by intro x hx;simp at hx) e
  refine ⟨⟨c.come (fun i d hi=>by simp at hi),c.last⟩,by have:=c.few;simp at this ⊢;omega,c.lits (by simp),fun o ho=> ?_⟩
  exact aBj hF c ho (by intro x hx;simp at hx)
end Go.Proofs.YthaaaecmeafofaaGreatDoor.Cn
namespace Go.Proofs.YthaaaecmeafofaaGreatDoor.Cn
def sW (n c:Nat) (F:List (List Int)):Prop:= ∀ B:List Int,aL c B->(∀ j:Nat,1<=j->j<=c->(j:Int)∈B∨-(j:Int)∈B)->bJ F B∨iN n F B=none
theorem aFl {n c:Nat} {F:List (List Int)} {A:List Int} {k:Nat} (hd:sW n c F) (hf : ¬ bJ F A) (hl:iN n F A=some k):k<=c:=by
 classical
 refine Decidable.byContradiction fun hk=> ?_
 obtain ⟨h1,h2,h3,h4⟩:=fQ hl
 have hkn : ∀ j:Nat,1<=j->j<=c->Kn F A j:=fun j hj1 hj2=>h4 j hj1 (by omega)
 have hin : ∀ x∈(List.range' 1 c).map (fun (j:Nat)=>if Der F A (j:Int) then (j:Int) else -(j:Int)),Der F A x/\Lit c x:=by
  intro x hx
  obtain ⟨j,hj,rfl⟩:=List.mem_map.1 hx
  have hj:=List.mem_range'_1.1 hj
  by_cases h:Der F A (j:Int)
  ·rw [if_pos h];exact ⟨h,by omega,by omega⟩
  ·rw [if_neg h];exact ⟨(hkn j hj.1 (by omega)).resolve_left h,by omega,by omega⟩
 have hcov : ∀ j:Nat,1<=j->j<=c->(j:Int)∈(List.range' 1 c).map (fun (j:Nat)=>if Der F A (j:Int) then (j:Int) else -(j:Int))∨-(j:Int)∈(List.range' 1 c).map (fun (j:Nat)=>if Der F A (j:Int) then (j:Int) else -(j:Int)):=fun j hj1 hj2=>by
  have hm:(if Der F A (j:Int) then (j:Int) else -(j:Int))∈(List.range' 1 c).map (fun (j:Nat)=>if Der F A (j:Int) then (j:Int) else -(j:Int)):=List.mem_map.2 ⟨j,List.mem_range'_1.2 ⟨hj1,by omega⟩,rfl⟩
  by_cases h:Der F A (j:Int)
  ·rw [if_pos h] at hm;exact .inl hm
  ·rw [if_neg h] at hm;exact .inr hm
 rcases hd _ (fun x hx=>(hin x hx).2) hcov with h | h
 ·exact hf (h.more (fun _ h=>h) fun x hx=>(hin x hx).1)
 ·rcases iS h k h1 h2 with h | h
  ·exact h3 (.inl (h.more (fun _ h=>h) fun x hx=>(hin x hx).1))
  ·exact h3 (.inr (h.more (fun _ h=>h) fun x hx=>(hin x hx).1))
theorem vD : ∀ {c:Nat} {l:List Nat},l.Nodup->(∀ p∈l,1<=p/\p<=c)->l.length<=c
 | 0,l,_,h=>by
  cases l with
  | nil=>simp
  | cons a l=>have:=h a List.mem_cons_self;omega
 | c+1,l,hn,h=>by
  by_cases hm:c+1∈l
  ·have h1:=vD (c:=c) (l:=l.erase (c+1)) (hn.erase _) fun p hp=>by
    have h2:=h p (List.mem_of_mem_erase hp)
    have:p≠c+1:=fun e=>by subst e;exact (List.Nodup.not_mem_erase hn) hp
    omega
   rw [List.length_erase_of_mem hm] at h1
   omega
  ·have:=vD (c:=c) hn fun p hp=>by
    have h2:=h p hp
    have:p≠c+1:=fun e=>hm (e ▸ hp)
    omega
   omega
theorem vN {n c:Nat} {F:List (List Int)} (hd:sW n c F) : ∀ (u g:Nat) (A:List Int) (s:Nat) (P:List (List Int)),A.length+u=c->(A.map Int.natAbs).Nodup->aL c A->u+1<=g->2 ^ (u+1)<=s+1->
  (bY n F g A s P).o ≠ .out/\s+1<=(bY n F g A s P).s+2 ^ (u+1)
 | _,0,_,_,_,_,_,_,hg,_=>by omega
 | u,g+1,A,s,P,hlen,hnd,hA,hg,hs=>by
  have hpos:2<=2 ^ (u+1):=by rw [Nat.pow_succ];have:=Nat.one_le_two_pow (n:=u);omega
  have hs0:s≠0:=by omega
  by_cases hf:bJ F A
  ·rw [mB hs0 hf];exact ⟨by simp,by show s+1<=s-1+_;omega⟩
  cases hl:iN n F A with
  | none=>rw [jP hs0 hf hl];exact ⟨by simp,by show s+1<=s-1+_;omega⟩
  | some k=>
   have hkc:=aFl hd hf hl
   obtain ⟨h1,h2,h3,h4⟩:=fQ hl
   have hkA:k ∉ A.map Int.natAbs:=fun hm=>by
    obtain ⟨x,hx,e⟩:=List.mem_map.1 hm
    rcases Int.natAbs_eq_iff.1 e with e | e
    ·exact h3 (.inl (.told (e ▸ hx)))
    ·exact h3 (.inr (.told (e ▸ hx)))
   have hlt:A.length+1<=c:=by
    have:=vD (c:=c) (l:=k :: A.map Int.natAbs) (List.nodup_cons.2 ⟨hkA,hnd⟩) fun p hp=>by
     rcases List.mem_cons.1 hp with rfl | hp
     ·exact ⟨h1,hkc⟩
     ·obtain ⟨x,hx,rfl⟩:=List.mem_map.1 hp
      have:=hA x hx
      unfold Lit at this
      omega
    simpa using this
   obtain ⟨u',rfl⟩ : ∃ u',u=u'+1:=⟨u-1,by omega⟩
   have hT:2 ^ (u'+1+1)=2*2 ^ (u'+1):=by rw [Nat.pow_succ];omega
   have hone:=Nat.one_le_two_pow (n:=u'+1)
   have hnd' : ∀ x:Int,x.natAbs=k->((A ++ [x]).map Int.natAbs).Nodup:=fun x hx=>by
    rw [List.map_append,List.nodup_append]
    refine ⟨hnd,by simp,fun a ha b hb e=> ?_⟩
    have hb:b=x.natAbs:=by simpa using hb
    exact hkA (by rw [← hx,← hb,← e];exact ha)
   have hA' : ∀ x:Int,x.natAbs=k->aL c (A ++ [x]):=fun x hx y hy=>by
    rcases List.mem_append.1 hy with hy | hy
    ·exact hA y hy
    ·rw [List.mem_singleton.1 hy];unfold Lit;omega
   have i1:=vN hd u' g (A ++ [-(k:Int)]) (s-1) P (by simp;omega) (hnd' _ (by omega)) (hA' _ (by omega)) (by omega) (by omega)
   cases e1:bY n F g (A ++ [-(k:Int)]) (s-1) P with
   | mk o1 s1 P1=>
    rw [e1] at i1
    cases o1 with
    | out=>exact absurd rfl i1.1
    | model m=>rw [eD hs0 hf hl (by rw [e1];simp),e1];exact ⟨by simp,by have:=i1.2;simp only at this ⊢;omega⟩
    | closed=>
     have h5:=i1.2
     simp only at h5
     have i2:=vN hd u' g (A ++ [(k:Int)]) s1 P1 (by simp;omega) (hnd' _ (by omega)) (hA' _ (by omega)) (by omega) (by omega)
     cases e2:bY n F g (A ++ [(k:Int)]) s1 P1 with
     | mk o2 s2 P2=>
      rw [e2] at i2
      have h6:=i2.2
      simp only at h6
      cases o2 with
      | out=>exact absurd rfl i2.1
      | model m=>rw [dX hs0 hf hl e1 (by rw [e2];simp),e2];exact ⟨by simp,by simp only;omega⟩
      | closed=>rw [oC hs0 hf hl e1 e2];exact ⟨by simp,by simp only;omega⟩
theorem aOn {n c s:Nat} {F:List (List Int)} (hd:sW n c F) (hc:c<=60) (hs:2 ^ (c+1)<=s):(fX n F s).o ≠ .out:=by
 unfold fX
 exact (vN hd c 61 [] s [] (by simp) (by simp) (by intro x hx;simp at hx) (by omega) (by omega)).1
def chL (m:List Bool):List Int:=(List.range m.length).map fun (v:Nat)=>if m.getD v false then (v:Int)+1 else -(v:Int)-1
theorem iL (m:List Bool):(chL m).length=m.length:=by simp [chL]
theorem mK (m:List Bool):aL m.length (chL m):=by
 intro x hx
 obtain ⟨v,hv,rfl⟩:=List.mem_map.1 hx
 have:=List.mem_range.1 hv
 unfold Lit
 split<;>omega
theorem nN {m:List Bool} {v:Nat} (hv:v<m.length):(chL m)[v]? = some (if m.getD v false then (v:Int)+1 else -(v:Int)-1):=by
 unfold chL
 rw [List.getElem?_map,List.getElem?_range hv]
 rfl
def tJ (n c:Nat) (F:List (List Int)) (may:List Bool->Bool):Prop:= ∀ m:List Bool,m.length=c->(may m=true->¬ bJ F (chL m)/\iN n F (chL m)=none)/\(may m=false->bJ F (chL m))
theorem tJ.decides {n c:Nat} {F:List (List Int)} {may:List Bool->Bool} (h:tJ n c F may):sW n c F:=by
 classical
 intro B hB hcov
 obtain ⟨m,hml,hmg⟩ : ∃ m:List Bool,m.length=c/\∀ v<c,m.getD v false=decide (((v:Int)+1)∈B):=⟨(List.range c).map fun (v:Nat)=>decide (((v:Int)+1)∈B),by simp,fun v hv=>by
  simp [List.getD_eq_getElem?_getD,List.getElem?_range hv]⟩
 have hsub : ∀ x∈chL m,Der F B x:=by
  intro x hx
  obtain ⟨v,hv,rfl⟩:=List.mem_map.1 hx
  have hv:=List.mem_range.1 hv
  rw [hml] at hv
  rw [hmg v hv]
  by_cases hin:((v:Int)+1)∈B
  ·simp only [hin,decide_true,if_true];exact .told hin
  ·simp only [hin,decide_false,Bool.false_eq_true,if_false]
   have h1:=hcov (v+1) (by omega) (by omega)
   have e1:((v+1:Nat):Int)=(v:Int)+1:=by omega
   rw [e1] at h1
   have e2 : -(v:Int)-1 = -((v:Int)+1):=by omega
   rw [e2]
   exact .told (h1.resolve_left hin)
 obtain ⟨h1,h2⟩:=h m hml
 cases hm:may m with
 | false=>exact .inl ((h2 hm).more (fun _ h=>h) hsub)
 | true=>
  refine .inr (uS fun k hk1 hk2=> ?_)
  rcases iS (h1 hm).2 k hk1 hk2 with h3 | h3
  ·exact .inl (h3.more (fun _ h=>h) hsub)
  ·exact .inr (h3.more (fun _ h=>h) hsub)
def aGr (k:Nat) (b:Bool):Int:=if b then (k:Int) else -(k:Int)
structure lJ (n:Nat) (F:List (List Int)) (A:List Int) (val:List Bool):Prop where
 len:val.length=n
 der : ∀ k,1<=k->k<=n->Der F A (aGr k (val.getD (k-1) false))
theorem lJ.more {n:Nat} {F F':List (List Int)} {A:List Int} {val:List Bool} (h:lJ n F A val) (hF : ∀ c∈F,c∈F'):lJ n F' A val:=⟨h.len,fun k h1 h2=>(h.der k h1 h2).more hF fun _ h=> .told h⟩
theorem lJ.lit {n:Nat} {F:List (List Int)} {A:List Int} {val:List Bool} (h:lJ n F A val) {x:Int} (hx:Lit n x):(inM val x=true->Der F A x)/\(inM val x=false->Der F A (-x)):=by
 obtain ⟨h0,hn⟩:=hx
 rcases Int.lt_or_gt_of_ne h0 with hs | hs
 ·obtain ⟨k,rfl⟩ : ∃ k:Nat,x = -(k:Int):=⟨x.natAbs,by omega⟩
  have hd:=h.der k (by omega) (by omega)
  rw [mP (by omega)]
  unfold aGr at hd
  cases hv:val.getD (k-1) false with
  | true=>rw [hv] at hd;exact ⟨fun e=>(by cases e),fun _=>by rw [Int.neg_neg];simpa using hd⟩
  | false=>rw [hv] at hd;exact ⟨fun _=>by simpa using hd,fun e=>by cases e⟩
 ·obtain ⟨k,rfl⟩ : ∃ k:Nat,x=(k:Int):=⟨x.natAbs,by omega⟩
  have hd:=h.der k (by omega) (by omega)
  rw [kE (by omega)]
  unfold aGr at hd
  cases hv:val.getD (k-1) false with
  | true=>rw [hv] at hd;exact ⟨fun _=>by simpa using hd,fun e=>by cases e⟩
  | false=>rw [hv] at hd;exact ⟨fun e=>(by cases e),fun _=>by simpa using hd⟩
theorem lJ.start (F:List (List Int)) (m:List Bool):lJ m.length F (chL m) m:=⟨rfl,fun k h1 h2=> .told (by
 have:=List.mem_of_getElem? (nN (m:=m) (v:=k-1) (by omega))
 unfold aGr
 cases hv:m.getD (k-1) false with
 | true=>rw [hv] at this;simp only [if_true] at this ⊢;rwa [show ((k-1:Nat):Int)+1=(k:Int) by omega] at this
 | false=>rw [hv] at this;simp only [Bool.false_eq_true,if_false] at this ⊢;rwa [show -((k-1:Nat):Int)-1 = -(k:Int) by omega] at this)⟩
theorem lJ.push {n:Nat} {F:List (List Int)} {A:List Int} {val:List Bool} (h:lJ n F A val) {b:Bool} (hd:Der F A (aGr (n+1) b)):lJ (n+1) F A (val ++ [b]):=by
 refine ⟨by simp [h.len],fun k h1 h2=> ?_⟩
 by_cases hk:k<=n
 ·have:=h.der k h1 hk
  rwa [show (val ++ [b]).getD (k-1) false=val.getD (k-1) false by rw [List.getD_eq_getElem?_getD,List.getElem?_append_left (by rw [h.len];omega),← List.getD_eq_getElem?_getD]]
 ·obtain rfl:k=n+1:=by omega
  rwa [show (val ++ [b]).getD (n+1-1) false=b by rw [Nat.add_sub_cancel,← h.len];simp [List.getD_eq_getElem?_getD]]
theorem lJ.or {n:Nat} {F:List (List Int)} {A:List Int} {val:List Bool} {l:List Int} (h:lJ n F A val) (hl:aL n l) (hlong : ∃ c∈F,∀ y,y∈c↔y = -((n:Int)+1)∨y∈l) (hshort : ∀ x∈l,∃ c∈F,∀ y,y∈c↔y=(n:Int)+1∨y = -x):lJ (n+1) F A (val ++ [l.any (inM val)]):=by
 refine h.push ?_
 unfold aGr
 cases ha:l.any (inM val) with
 | true=>
  obtain ⟨x,hx,hxm⟩:=List.any_eq_true.1 ha
  obtain ⟨c,hc,hcy⟩:=hshort x hx
  have hd:=(h.lit (hl x hx)).1 hxm
  simp only [if_true]
  rw [show ((n+1:Nat):Int)=(n:Int)+1 by omega]
  refine .unit hc ((hcy _).2 (.inl rfl)) fun y hy hne=> ?_
  have:=((hcy y).1 hy).resolve_left hne
  rw [this,Int.neg_neg];exact hd
 | false=>
  have hall:=List.any_eq_false.1 ha
  obtain ⟨c,hc,hcy⟩:=hlong
  simp only [Bool.false_eq_true,if_false]
  rw [show -((n+1:Nat):Int) = -((n:Int)+1) by omega]
  refine .unit hc ((hcy _).2 (.inl rfl)) fun y hy hne=> ?_
  have hyl:=((hcy y).1 hy).resolve_left hne
  exact (h.lit (hl y hyl)).2 (by simpa using hall y hyl)
theorem lJ.done {n:Nat} {F:List (List Int)} {A:List Int} {val:List Bool} (h:lJ n F A val) (hF : ∀ c∈F,aL n c) (hA:aL n A) (hAv : ∀ x∈A,inM val x=true) (hM : ∀ c∈F,∃ x∈c,inM val x=true) : ¬ bJ F A/\iN n F A=none:=by
 refine ⟨lQ hF hA hM hAv,uS fun k h1 h2=> ?_⟩
 have:=h.der k h1 h2
 unfold aGr at this
 split at this
 ·exact .inl this
 ·exact .inr this
theorem lJ.bad {n:Nat} {F:List (List Int)} {A:List Int} {val:List Bool} (h:lJ n F A val) {c:List Int} (hc:c∈F) (hl:aL n c) (hno : ∀ x∈c,inM val x=false):bJ F A:=
 .inr ⟨c,hc,fun y hy=>(h.lit (hl y hy)).2 (hno y hy)⟩
theorem aRn {m val:List Bool} (hv : ∀ v<m.length,val.getD v false=m.getD v false) : ∀ x∈chL m,inM val x=true:=by
 intro x hx
 obtain ⟨v,hv',rfl⟩:=List.mem_map.1 hx
 have hv':=List.mem_range.1 hv'
 have e:=hv v hv'
 cases hm:m.getD v false with
 | true=>
  simp only [if_true]
  rw [show (v:Int)+1=((v+1:Nat):Int) by omega,kE (by omega),Nat.add_sub_cancel,e,hm]
 | false=>
  simp only [Bool.false_eq_true,if_false]
  rw [show -(v:Int)-1 = -((v+1:Nat):Int) by omega,mP (by omega),Nat.add_sub_cancel,e,hm];rfl
structure DS where
 n:Nat
 cl:List (List Int)
 pr:Int->Int->Int
def DS.clause (s:DS) (l:List Int):DS:=⟨s.n,s.cl ++ [l],s.pr⟩
def DS.someS (s:DS) (l:List Int):DS:=if l.length=1 then s else ⟨s.n+1,s.cl++l.map (fun x=> [(s.n:Int)+1,-x]) ++ [-((s.n:Int)+1) :: l],s.pr⟩
def DS.someL (s:DS) (l:List Int):Int:=if l.length=1 then l.getD 0 0 else (s.n:Int)+1
def DS.allS (s:DS) (l:List Int):DS:=s.someS (l.map fun x=> -x)
def DS.allL (s:DS) (l:List Int):Int:= -s.someL (l.map fun x=> -x)
def fT (f:Int->Int->Int) (a b x:Int):Int->Int->Int:=fun p q=>if p=a/\q=b then x else f p q
def DS.bothS (s:DS) (a b:Int):DS:=if s.pr a b=0 then ⟨(s.allS [a,b]).n,(s.allS [a,b]).cl,fT s.pr a b (s.allL [a,b])⟩ else s
def DS.bothL (s:DS) (a b:Int):Int:=if s.pr a b=0 then s.allL [a,b] else s.pr a b
def gY (but:Int) (nof:Bool) (tk fg:Int->Int) (x:DS × List Int) (z:Int):DS × List Int:=
 if z=but then x else if nof=true then (x.1,x.2 ++ [tk z]) else (x.1.bothS (tk z) (fg z),x.2 ++ [x.1.bothL (tk z) (fg z)])
def aEe (but:Int) (nof:Bool) (tk fg:Int->Int) (m:List Bool) (zs:List Int):Bool:=zs.any fun z=>decide (z≠but)&&inM m (tk z)&&(nof||inM m (fg z))
structure Sem (c:Nat) (K:List (Int × Int)) (s:DS) (V:List Bool->List Bool) (P:List Bool->Bool) (v q:Nat):Prop where
 le:c<=s.n
 pre : ∀ m,m.length=c->∀ j<c,(V m).getD j false=m.getD j false
 der : ∀ m,m.length=c->lJ s.n s.cl (chL m) (V m)
 lits : ∀ x∈s.cl,aL s.n x/\x.length<=60
 may : ∀ m,m.length=c->((∀ x∈s.cl,∃ y∈x,inM (V m) y=true)↔P m=true)
 prs : ∃ ks:List (Int × Int),ks.Nodup/\(∀ k∈ks,k∈K)/\(∀ a b,s.pr a b≠0↔(a,b)∈ks)/\s.n<=v+ks.length/\s.cl.length<=q+3*ks.length
 pv : ∀ a b,s.pr a b≠0->Lit s.n (s.pr a b)/\Lit s.n a/\Lit s.n b/\∀ m,m.length=c->inM (V m) (s.pr a b)=(inM (V m) a&&inM (V m) b)
structure Gr (c:Nat) (s s':DS) (V V':List Bool->List Bool):Prop where
 n:s.n<=s'.n
 v : ∀ m,m.length=c->∀ x,Lit s.n x->inM (V' m) x=inM (V m) x
theorem Gr.refl (c:Nat) (s:DS) (V:List Bool->List Bool):Gr c s s V V:=⟨Nat.le_refl _,fun _ _ _ _=>rfl⟩
theorem Lit.le {n n':Nat} {x:Int} (h:Lit n x) (hn:n<=n'):Lit n' x:=⟨h.1,Nat.le_trans h.2 hn⟩
theorem aL.le {n n':Nat} {l:List Int} (h:aL n l) (hn:n<=n'):aL n' l:=fun x hx=>(h x hx).le hn
theorem Gr.trans {c:Nat} {s s' s'':DS} {V V' V'':List Bool->List Bool} (h:Gr c s s' V V') (h':Gr c s' s'' V' V''):Gr c s s'' V V'':=
 ⟨Nat.le_trans h.n h'.n,fun m hm x hx=>(h'.v m hm x (hx.le h.n)).trans (h.v m hm x hx)⟩
theorem Gr.any {c:Nat} {s s':DS} {V V':List Bool->List Bool} (h:Gr c s s' V V') {l:List Int} (hl:aL s.n l) {m:List Bool} (hm:m.length=c):l.any (inM (V' m))=l.any (inM (V m)):=by
 induction l with
 | nil=>rfl
 | cons x l ih=>rw [List.any_cons,List.any_cons,h.v m hm x (hl x List.mem_cons_self),ih fun y hy=>hl y (List.mem_cons_of_mem _ hy)]
theorem aHn {m m':List Bool} {n:Nat} (h : ∀ j<n,m'.getD j false=m.getD j false) {x:Int} (hx:Lit n x):inM m' x=inM m x:=by
 unfold inM
 obtain ⟨h0,hn⟩:=hx
 rw [h _ (by omega)]
theorem Sem.ch {c:Nat} {K:List (Int × Int)} {s:DS} {V:List Bool->List Bool} {P:List Bool->Bool} {v q:Nat} (h:Sem c K s V P v q) {m:List Bool} (hm:m.length=c) {x:Int} (hx:Lit c x):inM (V m) x=inM m x:=aHn (h.pre m hm) hx
theorem Sem.mono {c:Nat} {K:List (Int × Int)} {s:DS} {V:List Bool->List Bool} {P:List Bool->Bool} {v q v' q':Nat} (h:Sem c K s V P v q) (hv:v<=v') (hq:q<=q'):Sem c K s V P v' q':=by
 obtain ⟨ks,h1,h2,h3,h4,h5⟩:=h.prs
 exact ⟨h.le,h.pre,h.der,h.lits,h.may,⟨ks,h1,h2,h3,by omega,by omega⟩,h.pv⟩
theorem aPy {m:List Bool} {b:Bool} {n:Nat} (hl:m.length=n) {x:Int} (hx:Lit n x):inM (m ++ [b]) x=inM m x:=aHn (n:=n) (fun j hj=>by
 rw [List.getD_eq_getElem?_getD,List.getElem?_append_left (by omega),← List.getD_eq_getElem?_getD]) hx
theorem uD {m:List Bool} {b:Bool} {n:Nat} (hl:m.length=n):inM (m ++ [b]) ((n:Int)+1)=b:=by
 rw [show (n:Int)+1=((n+1:Nat):Int) by omega,kE (by omega),Nat.add_sub_cancel,← hl]
 simp [List.getD_eq_getElem?_getD]
theorem uR (n:Nat):Lit (n+1) ((n:Int)+1):=by unfold Lit;omega
theorem aKu (c:Nat) (K:List (Int × Int)):Sem c K ⟨c,[],fun _ _=>0⟩ id (fun _=>true) c 0:=
 ⟨Nat.le_refl _,fun _ _ _ _=>rfl,fun m hm=>by have:=lJ.start [] m;rw [hm] at this;exact this,fun x hx=>by simp at hx,fun m _=>by simp,⟨[],by simp,by simp,by simp,by simp,by simp⟩,fun a b h=>absurd rfl h⟩
theorem lY {c:Nat} {K:List (Int × Int)} {s:DS} {V:List Bool->List Bool} {P:List Bool->Bool} {v q:Nat} (h:Sem c K s V P v q) {l:List Int} (hl:aL s.n l) (h60:l.length<=60) {P':List Bool->Bool} (hP : ∀ m,m.length=c->P' m=(P m&&l.any (inM (V m)))):Sem c K (s.clause l) V P' v (q+1):=by
 obtain ⟨ks,h1,h2,h3,h4,h5⟩:=h.prs
 refine ⟨h.le,h.pre,fun m hm=>(h.der m hm).more fun x hx=>List.mem_append_left _ hx,fun x hx=> ?_,fun m hm=> ?_,⟨ks,h1,h2,h3,h4,by show (s.cl ++ [l]).length<=_;simp;omega⟩,h.pv⟩
 ·rcases List.mem_append.1 hx with hx | hx
  ·exact h.lits x hx
  ·rw [List.mem_singleton.1 hx];exact ⟨hl,h60⟩
 ·rw [hP m hm,Bool.and_eq_true,← h.may m hm,List.any_eq_true]
  constructor
  ·intro H
   exact ⟨fun x hx=>H x (List.mem_append_left _ hx),H l (List.mem_append_right _ List.mem_cons_self)⟩
  ·rintro ⟨H1,H2⟩ x hx
   rcases List.mem_append.1 hx with hx | hx
   ·exact H1 x hx
   ·rw [List.mem_singleton.1 hx];exact H2
theorem nE {c:Nat} {K:List (Int × Int)} {s:DS} {V:List Bool->List Bool} {P:List Bool->Bool} {v q:Nat} (h:Sem c K s V P v q) {l:List Int} (hl:aL s.n l) (h59:l.length<=59) :
  ∃ V',Sem c K (s.someS l) V' P (v+1) (q+l.length+1)/\Gr c s (s.someS l) V V'/\Lit (s.someS l).n (s.someL l)/\∀ m,m.length=c->inM (V' m) (s.someL l)=l.any (inM (V m)):=by
 by_cases h1:l.length=1
 ·obtain ⟨x,rfl⟩ : ∃ x,l = [x]:=List.length_eq_one_iff.1 h1
  have eS:s.someS [x]=s:=by simp [DS.someS]
  have eL:s.someL [x]=x:=by simp [DS.someL]
  rw [eS,eL]
  exact ⟨V,h.mono (by omega) (by omega),Gr.refl ..,hl x List.mem_cons_self,fun m _=>by simp⟩
 ·have eS:s.someS l=⟨s.n+1,s.cl++l.map (fun x=> [(s.n:Int)+1,-x]) ++ [-((s.n:Int)+1) :: l],s.pr⟩:=by simp [DS.someS,h1]
  have eL:s.someL l=(s.n:Int)+1:=by simp [DS.someL,h1]
  rw [eS,eL]
  have hlen : ∀ m,m.length=c->(V m).length=s.n:=fun m hm=>(h.der m hm).len
  have happ : ∀ m,m.length=c->∀ x,Lit s.n x->inM (V m ++ [l.any (inM (V m))]) x=inM (V m) x:=fun m hm x hx=>aPy (hlen m hm) hx
  refine ⟨fun m=>V m ++ [l.any (inM (V m))],⟨Nat.le_succ_of_le h.le,fun m hm j hj=> ?_,fun m hm=> ?_,fun x hx=> ?_,fun m hm=> ?_,?_,fun a b hab=> ?_⟩,⟨Nat.le_succ _,happ⟩,uR _,fun m hm=>uD (hlen m hm)⟩
  ·rw [← h.pre m hm j hj,List.getD_eq_getElem?_getD,List.getElem?_append_left (by rw [hlen m hm];have:=h.le;omega),← List.getD_eq_getElem?_getD]
  ·refine ((h.der m hm).more fun x hx=>List.mem_append_left _ (List.mem_append_left _ hx)).or hl ⟨_,List.mem_append_right _ List.mem_cons_self,fun y=>by simp⟩ fun x hx=>⟨[(s.n:Int)+1,-x],List.mem_append_left _ (List.mem_append_right _ (List.mem_map.2 ⟨x,hx,rfl⟩)),fun y=>by simp⟩
  ·rcases List.mem_append.1 hx with hx | hx
   ·rcases List.mem_append.1 hx with hx | hx
    ·exact ⟨(h.lits x hx).1.le (Nat.le_succ _),(h.lits x hx).2⟩
    ·obtain ⟨z,hz,rfl⟩:=List.mem_map.1 hx
     refine ⟨fun y hy=> ?_,by simp⟩
     rcases List.mem_cons.1 hy with rfl | hy
     ·exact uR _
     ·rw [List.mem_singleton.1 hy];exact ((hl z hz).le (Nat.le_succ _)).neg
   ·rw [List.mem_singleton.1 hx]
    refine ⟨fun y hy=> ?_,by simp;omega⟩
    rcases List.mem_cons.1 hy with rfl | hy
    ·exact (uR _).neg
    ·exact (hl y hy).le (Nat.le_succ _)
  ·rw [← h.may m hm]
   constructor
   ·intro H x hx
    obtain ⟨y,hy,e⟩:=H x (List.mem_append_left _ (List.mem_append_left _ hx))
    exact ⟨y,hy,by rw [← happ m hm y ((h.lits x hx).1 y hy)];exact e⟩
   ·intro H x hx
    rcases List.mem_append.1 hx with hx | hx
    ·rcases List.mem_append.1 hx with hx | hx
     ·obtain ⟨y,hy,e⟩:=H x hx
      exact ⟨y,hy,(happ m hm y ((h.lits x hx).1 y hy)).trans e⟩
     ·obtain ⟨z,hz,rfl⟩:=List.mem_map.1 hx
      cases hb:inM (V m) z with
      | true=>exact ⟨_,List.mem_cons_self,(uD (hlen m hm)).trans (List.any_eq_true.2 ⟨z,hz,hb⟩)⟩
      | false=>exact ⟨-z,by simp,by rw [happ m hm _ (hl z hz).neg,cU _ (hl z hz).1,hb];rfl⟩
    ·rw [List.mem_singleton.1 hx]
     cases hb:l.any (inM (V m)) with
     | true=>
      obtain ⟨z,hz,e⟩:=List.any_eq_true.1 hb
      exact ⟨z,List.mem_cons_of_mem _ hz,by have:=happ m hm z (hl z hz);rw [hb] at this;exact this.trans e⟩
     | false=>exact ⟨_,List.mem_cons_self,by rw [cU _ (by omega),uD (hlen m hm)];rfl⟩
  ·obtain ⟨ks,h1,h2,h3,h4,h5⟩:=h.prs
   exact ⟨ks,h1,h2,h3,by show s.n+1<=_;omega,by simp;omega⟩
  ·obtain ⟨g1,g2,g3,g4⟩:=h.pv a b hab
   exact ⟨g1.le (Nat.le_succ _),g2.le (Nat.le_succ _),g3.le (Nat.le_succ _),fun m hm=>by rw [happ m hm _ g1,happ m hm _ g2,happ m hm _ g3];exact g4 m hm⟩
theorem aHc {m:List Bool} : ∀ {l:List Int},(∀ x∈l,x≠0)->(l.map fun x=> -x).any (inM m) = !l.all (inM m)
 | [],_=>rfl
 | x :: l,h=>by
  rw [List.map_cons,List.any_cons,List.all_cons,aHc fun y hy=>h y (List.mem_cons_of_mem _ hy),cU _ (h x List.mem_cons_self),Bool.not_and]
theorem aNe {n:Nat} {l:List Int} (h:aL n l):aL n (l.map fun x=> -x):=fun x hx=>by
 obtain ⟨y,hy,rfl⟩:=List.mem_map.1 hx;exact (h y hy).neg
theorem aIk {c:Nat} {K:List (Int × Int)} {s:DS} {V:List Bool->List Bool} {P:List Bool->Bool} {v q:Nat} (h:Sem c K s V P v q) {l:List Int} (hl:aL s.n l) (h59:l.length<=59) :
  ∃ V',Sem c K (s.allS l) V' P (v+1) (q+l.length+1)/\Gr c s (s.allS l) V V'/\Lit (s.allS l).n (s.allL l)/\∀ m,m.length=c->inM (V' m) (s.allL l)=l.all (inM (V m)):=by
 obtain ⟨V',h1,h2,h3,h4⟩:=nE h (aNe hl) (by simpa using h59)
 rw [List.length_map] at h1
 refine ⟨V',h1,h2,h3.neg,fun m hm=> ?_⟩
 show inM (V' m) (-s.someL _)=_
 rw [cU _ h3.1,h4 m hm,aHc fun x hx=>(hl x hx).1,Bool.not_not]
theorem aOe {c:Nat} {K:List (Int × Int)} {s:DS} {V:List Bool->List Bool} {P:List Bool->Bool} {v q:Nat} (h:Sem c K s V P v q) {a b:Int} (ha:Lit s.n a) (hb:Lit s.n b) (hK:(a,b)∈K) :
  ∃ V',Sem c K (s.bothS a b) V' P v q/\Gr c s (s.bothS a b) V V'/\Lit (s.bothS a b).n (s.bothL a b)/\∀ m,m.length=c->inM (V' m) (s.bothL a b)=(inM (V m) a&&inM (V m) b):=by
 by_cases h0:s.pr a b=0
 ·have hl:aL s.n [a,b]:=fun x hx=>by
   rcases List.mem_cons.1 hx with rfl | hx
   ·exact ha
   ·rw [List.mem_singleton.1 hx];exact hb
  obtain ⟨V',h1,h2,h3,h4⟩:=aIk h hl (by simp)
  have e4 : ∀ m,m.length=c->inM (V' m) (s.allL [a,b])=(inM (V m) a&&inM (V m) b):=fun m hm=>by rw [h4 m hm];simp
  have eS:s.bothS a b=⟨(s.allS [a,b]).n,(s.allS [a,b]).cl,fT s.pr a b (s.allL [a,b])⟩:=by simp [DS.bothS,h0]
  have eL:s.bothL a b=s.allL [a,b]:=by simp [DS.bothL,h0]
  have epr:(s.allS [a,b]).pr=s.pr:=by simp [DS.allS,DS.someS]
  rw [eS,eL]
  obtain ⟨ks,g1,g2,g3,g4,g5⟩:=h1.prs
  rw [epr] at g3
  have hnot:(a,b) ∉ ks:=fun hin=>(g3 a b).2 hin h0
  refine ⟨V',⟨h1.le,h1.pre,h1.der,h1.lits,h1.may,⟨(a,b) :: ks,List.nodup_cons.2 ⟨hnot,g1⟩,fun k hk=> ?_,fun p r=> ?_,by simp only [List.length_cons] at *;omega,by simp only [List.length_cons,List.length_nil] at *;omega⟩,fun p r hpr=> ?_⟩,⟨h2.n,h2.v⟩,h3,e4⟩
  ·rcases List.mem_cons.1 hk with rfl | hk
   ·exact hK
   ·exact g2 k hk
  ·show fT s.pr a b (s.allL [a,b]) p r≠0↔_
   unfold fT
   rw [List.mem_cons,Prod.mk.injEq]
   by_cases e:p=a/\r=b
   ·rw [if_pos e];exact ⟨fun _=> .inl e,fun _=>h3.1⟩
   ·rw [if_neg e,g3 p r];exact ⟨.inr,fun hh=>hh.resolve_left e⟩
  ·show Lit _ (fT s.pr a b (s.allL [a,b]) p r)/\_/\_/\∀ m,_->inM (V' m) (fT s.pr a b (s.allL [a,b]) p r)=_
   have hpr:fT s.pr a b (s.allL [a,b]) p r≠0:=hpr
   unfold fT at hpr ⊢
   by_cases e:p=a/\r=b
   ·rw [if_pos e]
    obtain ⟨rfl,rfl⟩:=e
    exact ⟨h3,ha.le h2.n,hb.le h2.n,fun m hm=>by rw [e4 m hm,h2.v m hm _ ha,h2.v m hm _ hb]⟩
   ·rw [if_neg e] at hpr ⊢
    have:=h1.pv p r (by rw [epr];exact hpr)
    rw [epr] at this
    exact this
 ·have eS:s.bothS a b=s:=by simp [DS.bothS,h0]
  have eL:s.bothL a b=s.pr a b:=by simp [DS.bothL,h0]
  rw [eS,eL]
  obtain ⟨g1,-,-,g4⟩:=h.pv a b h0
  exact ⟨V,h,Gr.refl ..,g1,g4⟩
theorem tI {c:Nat} {K:List (Int × Int)} {P:List Bool->Bool} {v q:Nat} {but:Int} {nof:Bool} {tk fg:Int->Int} : ∀ {zs:List Int} {s:DS} {acc:List Int} {V:List Bool->List Bool},Sem c K s V P v q->aL s.n acc->(∀ z∈zs,Lit c (tk z)/\(nof=false->Lit c (fg z)/\(tk z,fg z)∈K))->
  ∃ V',Sem c K (zs.foldl (gY but nof tk fg) (s,acc)).1 V' P v q/\Gr c s (zs.foldl (gY but nof tk fg) (s,acc)).1 V V'/\aL (zs.foldl (gY but nof tk fg) (s,acc)).1.n (zs.foldl (gY but nof tk fg) (s,acc)).2/\(zs.foldl (gY but nof tk fg) (s,acc)).2.length<=acc.length+zs.length/\
   ∀ m,m.length=c->(zs.foldl (gY but nof tk fg) (s,acc)).2.any (inM (V' m))=(acc.any (inM (V m))||aEe but nof tk fg m zs)
 | [],s,acc,V,h,hacc,_=>⟨V,h,Gr.refl ..,hacc,by simp,fun m _=>by simp [aEe]⟩
 | z :: zs,s,acc,V,h,hacc,hz=>by
  have hz' : ∀ y∈zs,Lit c (tk y)/\(nof=false->Lit c (fg y)/\(tk y,fg y)∈K):=fun y hy=>hz y (List.mem_cons_of_mem _ hy)
  obtain ⟨k1,k2⟩:=hz z List.mem_cons_self
  rw [List.foldl_cons]
  have hB : ∀ m,aEe but nof tk fg m (z :: zs)=((decide (z≠but)&&inM m (tk z)&&(nof||inM m (fg z)))||aEe but nof tk fg m zs):=fun m=>by unfold aEe;rw [List.any_cons]
  by_cases e:z=but
  ·have eF:gY but nof tk fg (s,acc) z=(s,acc):=by simp [gY,e]
   rw [eF]
   obtain ⟨V',i1,i2,i3,i4,i5⟩:=tI h hacc hz'
   refine ⟨V',i1,i2,i3,by simp;omega,fun m hm=> ?_⟩
   rw [i5 m hm,hB]
   simp [e]
  ·by_cases en:nof=true
   ·have eF:gY but nof tk fg (s,acc) z=(s,acc ++ [tk z]):=by simp [gY,e,en]
    rw [eF]
    have hacc':aL s.n (acc ++ [tk z]):=fun x hx=>by
     rcases List.mem_append.1 hx with hx | hx
     ·exact hacc x hx
     ·rw [List.mem_singleton.1 hx];exact k1.le h.le
    obtain ⟨V',i1,i2,i3,i4,i5⟩:=tI h hacc' hz'
    refine ⟨V',i1,i2,i3,by simp at i4 ⊢;omega,fun m hm=> ?_⟩
    rw [i5 m hm,hB,List.any_append,List.any_cons,List.any_nil,h.ch hm k1]
    simp [e,en,Bool.or_assoc]
   ·have en:nof=false:=by simpa using en
    obtain ⟨k3,k4⟩:=k2 en
    have eF:gY but nof tk fg (s,acc) z=(s.bothS (tk z) (fg z),acc ++ [s.bothL (tk z) (fg z)]):=by simp [gY,e,en]
    rw [eF]
    obtain ⟨V1,j1,j2,j3,j4⟩:=aOe h (k1.le h.le) (k3.le h.le) k4
    have hacc':aL (s.bothS (tk z) (fg z)).n (acc ++ [s.bothL (tk z) (fg z)]):=fun x hx=>by
     rcases List.mem_append.1 hx with hx | hx
     ·exact (hacc x hx).le j2.n
     ·rw [List.mem_singleton.1 hx];exact j3
    obtain ⟨V',i1,i2,i3,i4,i5⟩:=tI j1 hacc' hz'
    refine ⟨V',i1,j2.trans i2,i3,by simp at i4 ⊢;omega,fun m hm=> ?_⟩
    rw [i5 m hm,hB,List.any_append,List.any_cons,List.any_nil,j2.any hacc hm,j4 m hm,h.ch hm k1,h.ch hm k3]
    simp [e,en,Bool.or_assoc]
theorem xO : ∀ {ks K:List (Int × Int)},ks.Nodup->(∀ k∈ks,k∈K)->ks.length<=K.length
 | [],_,_,_=>by simp
 | k :: ks,K,hn,h=>by
  obtain ⟨h1,h2⟩:=List.nodup_cons.1 hn
  have hk:=h k List.mem_cons_self
  have:=xO (K:=K.erase k) h2 fun x hx=>(List.mem_erase_of_ne (fun e=>h1 (by rw [← e];exact hx))).2 (h x (List.mem_cons_of_mem _ hx))
  rw [List.length_erase_of_mem hk] at this
  have:0<K.length:=List.length_pos_of_mem hk
  simp
  omega
theorem Sem.size {c:Nat} {K:List (Int × Int)} {s:DS} {V:List Bool->List Bool} {P:List Bool->Bool} {v q:Nat} (h:Sem c K s V P v q):s.n<=v+K.length/\s.cl.length<=q+3*K.length:=by
 obtain ⟨ks,h1,h2,-,h4,h5⟩:=h.prs
 have:=xO h1 h2
 omega
theorem Sem.ok {c:Nat} {K:List (Int × Int)} {s:DS} {V:List Bool->List Bool} {P:List Bool->Bool} {v q:Nat} (h:Sem c K s V P v q):tJ s.n c s.cl P:=by
 intro m hm
 have hA:aL s.n (chL m):=fun x hx=>(mK m x hx).le (by rw [hm];exact h.le)
 have hAv : ∀ x∈chL m,inM (V m) x=true:=aRn fun v hv=>h.pre m hm v (by omega)
 refine ⟨fun hp=>(h.der m hm).done (fun x hx=>(h.lits x hx).1) hA hAv ((h.may m hm).2 hp),fun hp=> ?_⟩
 have hnot : ¬ ∀ x∈s.cl,∃ y∈x,inM (V m) y=true:=fun H=>by
  have:=(h.may m hm).1 H
  rw [hp] at this;cases this
 obtain ⟨x,hx⟩:=Classical.not_forall.1 hnot
 obtain ⟨hx,hno⟩:=Classical.not_imp.1 hx
 refine (h.der m hm).bad hx (h.lits x hx).1 fun y hy=> ?_
 cases hb:inM (V m) y with
 | false=>rfl
 | true=>exact absurd ⟨y,hy,hb⟩ hno
def sg (x:Int) (b:Bool):Int:=if b=true then x else -x
theorem pE {n:Nat} {x:Int} (h:Lit n x) (b:Bool):Lit n (sg x b):=by
 unfold sg
 split
 ·exact h
 ·exact h.neg
theorem yZ {m:List Bool} {x:Int} (h:x≠0) (b:Bool):inM m (sg x b)=(inM m x==b):=by
 unfold sg
 cases b with
 | true=>simp
 | false=>simp [cU m h]
theorem aHo (m:List Bool) (v:Nat):inM m ((v:Int)+1)=m.getD v false:=by
 rw [show (v:Int)+1=((v+1:Nat):Int) by omega,kE (by omega),Nat.add_sub_cancel]
def CT.tkL (c:CT) (i:Nat):Int:=sg ((c.order.idxOf i:Int)+1) (!c.ins.contains i)
def CT.fgL (c:CT) (i k:Nat):Int:=sg (((c.base i+k:Nat):Int)+1) (!c.on i k)
theorem CT.tk_in (c:CT) (m:List Bool) (i:Nat):inM m (c.tkL i)=c.takes m i:=by
 unfold CT.tkL CT.takes
 rw [yZ (by omega),aHo]
 cases m.getD (c.order.idxOf i) false<;>cases c.ins.contains i<;>rfl
theorem CT.fg_in (c:CT) (m:List Bool) (i k:Nat):inM m (c.fgL i k)=(m.getD (c.base i+k) false != c.on i k):=by
 unfold CT.fgL
 rw [yZ (by omega),aHo]
 cases m.getD (c.base i+k) false<;>cases c.on i k<;>rfl
theorem CT.tk_lit {c:CT} (h:c.Ok) {i:Nat} (hi:i<c.nf.length):Lit c.many (c.tkL i):=by
 have h1:=List.idxOf_lt_length_iff.2 ((CT.order_mem h i).2 hi)
 rw [CT.order_len h] at h1
 refine pE ?_ _
 unfold Lit CT.many
 omega
theorem nG : ∀ (l:List Nat) (i k:Nat),i<l.length->k<l.getD i 0->(l.take i).sum+k<l.sum
 | [],i,k,h,_=>by simp at h
 | a :: l,0,k,_,hk=>by simp at hk ⊢;omega
 | a :: l,i+1,k,h,hk=>by
  have:=nG l i k (by simpa using h) (by simpa using hk)
  simp
  omega
theorem CT.fg_lit (c:CT) {i k:Nat} (hi:i<c.nf.length) (hk:k<c.nf.getD i 0):Lit c.many (c.fgL i k):=by
 have:=nG c.nf i k hi hk
 refine pE ?_ _
 unfold Lit CT.many CT.base
 omega
def CT.keys (c:CT):List (Int × Int):=(List.range c.nf.length).flatMap fun i=>(List.range (c.nf.getD i 0)).flatMap fun k=> [(c.tkL i,c.fgL i k),(c.tkL i,-c.fgL i k)]
theorem CT.keys_mem (c:CT) {i k:Nat} (hi:i<c.nf.length) (hk:k<c.nf.getD i 0) (b:Bool):(c.tkL i,sg (c.fgL i k) b)∈c.keys:=by
 unfold CT.keys
 refine List.mem_flatMap.2 ⟨i,List.mem_range.2 hi,List.mem_flatMap.2 ⟨k,List.mem_range.2 hk,?_⟩⟩
 unfold sg
 cases b<;>simp
theorem aOv (n:Nat) (f:Nat->Int × Int) (g:Nat->Int × Int):((List.range n).flatMap fun k=> [f k,g k]).length=2*n:=by
 induction n with
 | zero=>simp
 | succ n ih=>rw [List.range_succ,List.flatMap_append,List.length_append,ih];simp;omega
theorem aHu (c:CT) : ∀ i,i<=c.nf.length->((List.range i).flatMap fun i=>(List.range (c.nf.getD i 0)).flatMap fun k=> [(c.tkL i,c.fgL i k),(c.tkL i,-c.fgL i k)]).length=2*(c.nf.take i).sum
 | 0,_=>by simp
 | i+1,h=>by
  rw [List.range_succ,List.flatMap_append,List.length_append,aHu c i (by omega),List.take_succ_eq_append_getElem (by omega),List.sum_append,List.flatMap_cons,List.flatMap_nil,List.append_nil,aOv]
  simp [List.getD_eq_getElem?_getD,List.getElem?_eq_getElem (show i<c.nf.length by omega)]
  omega
theorem CT.keys_len (c:CT):c.keys.length=2*c.nf.sum:=by
 have:=aHu c c.nf.length (Nat.le_refl _)
 rw [List.take_length] at this
 exact this
end Go.Proofs.YthaaaecmeafofaaGreatDoor.Cn
