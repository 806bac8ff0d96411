/- Steps of the proof: CnfFollows, RupBase, SatSpec, EncSteps, EncOk, EncVal. -/
import Derived.Test.YtonlloiemgdfkaaGreatDoorRe16
import Derived.Test.YtonlloiemgdfkaaGreatDoorRe17
set_option maxHeartbeats 16000000
set_option maxRecDepth 100000
namespace Go.Proofs.YtonlloiemgdfkaaGreatDoor.Cn
open Go.RowKit Go.Lib
def aMr (vars:Int) (F:List (List Int)) (A:List Int):Int:=if cZ vars F≠0 then cZ vars F else if 400<A.length then 2 else lH A vars
def aJy (vars:Int) (F:List (List Int)) (A:List Int) (w:World) (e:Ending) (w':World):Prop:=
 aA w w'/\((aMr vars F A≠0/\e=.returned (.tuple #[.slice none 0 0,.bool false,.int .i64 (aMr vars F A)]))∨
  (aMr vars F A=0/\∃ n:Nat,vars=n/\((∃ v K L,e=.returned (.tuple #[v,.bool true,.int .i64 0])/\zE n F A K L/\(∀ x,x∈L↔Der F A x)/\¬ bJ F A/\aG (fun b=>w.heap.size<=b/\b<w'.heap.size) w' (cG K) v)∨(e=.returned (.tuple #[.slice none 0 0,.bool false,.int .i64 0])/\bJ F A))))
theorem aF.under {x x':XD} {w w':World} {N:Nat} (t:aF x.all x'.all w w') (hN:N<=w.heap.size) (h : ∀ b,x.all b->N<=b):Below N w w'/\∀ b,x'.all b->N<=b:=
 ⟨t.below hN fun b hb e=>by have:=h b e;omega,fun b hb=>(t.new b hb).elim (h b) fun e=>Nat.le_trans hN e⟩
theorem aEy (S:Nat->Prop) (vars:Int) (F:List (List Int)) (A:List Int) (p:Option Addr) (cap:Nat) (av:Value) (w:World) (hS : ∀ b,S b->b<w.heap.size) (hf:iE S w vars F p cap) (ha:aG S w A av) (hr : ∀ x∈A,InR x) :
  Calls Tryz.prog 61 #[.agg #[.int .i64 vars,.slice p F.length cap],av] w fun e w'=>aJy vars F A w e w':=by
 have HF:=hid hf
 have HA:=hid ha
 have HR:=hid hr
 obtain ⟨ap,ac,rfl,halen⟩:=ha.shape
 have HE:=hid (show aMr vars F A=if cZ vars F≠0 then cZ vars F else if 400<A.length then 2 else lH A vars from rfl)
 clear hf ha hr
 go_enter Tryz.func61,Tryz.ntmps61
 go_wp2_with fail
 refine aP (fun W'=>aA w W'/\aD w.heap.size 99 #[.int .i64 vars,.slice p F.length cap] W') ⟨aA.alloc _ _,aD.new _ _ _⟩ ?_
 rintro W0 ⟨k0,b0⟩
 refine (iQ S vars F p cap W0 (fun b hb=>Nat.lt_of_lt_of_le (hS b hb) k0.size) (HF.out.keep hS k0)).mono ?_
 rintro e w1 ⟨rfl,hw1⟩
 have k1:aA W0 w1:=by rw [hw1];exact aA.alloc _ _
 clear hw1
 have K1:=hid (k0.trans k1)
 have B1:=hid (b0.keep k1 b0.facts.2.2)
 clear k0 b0 k1
 obtain ⟨hcb,-,hlb⟩:=B1.out.facts
 have hc0:w1.cell? ⟨w.heap.size,0,none⟩=some (.int .i64 vars):=hcb 0
 have hc1:w1.cell? ⟨w.heap.size,1,none⟩=some (.slice p F.length cap):=hcb 1
 have HZ:=hid (fun h:cZ vars F=0=>jY h)
 generalize cZ vars F=r at HE HZ ⊢
 clear hcb
 by_cases hr:r=0
 ·subst hr
  have HE2:=hid (HE.out.trans (if_neg (by simp)))
  by_cases hl:400<A.length
  ·have hl':(400:Int)<A.length:=by omega
   have HE3:=hid (HE2.out.trans (if_pos hl))
   go_wp2_with fail
   refine bodyPost_ret (v:= .tuple #[.slice none 0 0,.bool false,.int .i64 2]) ?_ rfl ?_
   ·simp [results,Tryz.results61,go_sem]
   ·exact ⟨K1.out,.inl ⟨by rw [HE3.out];decide,by rw [HE3.out]⟩⟩
  ·have hl' : ¬ (400:Int)<A.length:=by omega
   have HE3:=hid (HE2.out.trans (if_neg hl))
   go_wp2_with fail
   refine (kY S A _ vars w1 (fun b hb=>Nat.lt_of_lt_of_le (hS b hb) K1.out.size) (HA.out.keep hS K1.out) HR.out).mono ?_
   rintro e w2 ⟨rfl,hw2⟩
   rw [hw2]
   clear hw2
   have HLZ:=hid (fun (n:Nat) (hv:vars=n) (h:lH A vars=0)=>qU.1 (hv ▸ h:lH A n=0))
   generalize lH A vars=r2 at HE3 HLZ ⊢
   by_cases hr2:r2=0
   ·subst hr2
    obtain ⟨n,hvn,hn4,hFl,hcl⟩:=HZ.out (by trivial)
    have hal:=HLZ.out n hvn (by trivial)
    subst hvn
    have HAL:=hid hal
    have HCL:=hid hcl
    have HSW1:=hid (fun b (hb:S b)=>Nat.lt_of_lt_of_le (hS b hb) K1.out.size)
    clear hal hcl
    go_wp2_with fail
    refine (aCj n w1 (by omega)).mono ?_
    rintro e w2 ⟨x,B,rfl,hxn,hxf,k2,hlow⟩
    subst hxn
    have XF2:=hid hxf
    have K2:=hid (K1.out.trans k2)
    have B2:=hid (B1.out.keep k2 B1.out.facts.2.2)
    have HLOW:=hid hlow
    have HSZ2:=hid k2.size
    obtain ⟨hcb,-,hlb2⟩:=B2.out.facts
    have hd1:w2.cell? ⟨w.heap.size,1,none⟩=some (.slice p F.length cap):=hcb 1
    clear hxf k2 hc0 hc1 hcb hlow
    have HADD:=hid (rF x B S _ [] F (.slice p F.length cap) w2 XF2.out (by omega) (HF.out.keep hS K2.out).row (fun b hb=>⟨Nat.lt_of_lt_of_le (HSW1.out b hb) HSZ2.out,fun e=>by have:=HLOW.out b e;have:=HSW1.out b hb;omega⟩) (by simp) HCL.out (by simp;omega))
    go_wp2_with fail
    refine HADD.out.mono ?_
    rintro e w3 ⟨rfl,fl,av,rv,cv,C,W,K',hx3,ht3⟩
    have XF3:=hid hx3
    obtain ⟨hb3,hl3⟩:=ht3.under HSZ2.out HLOW.out
    have B3:=hid hb3
    have HL3:=hid hl3
    have K3:=hid (show aA w w3 from Below.trans K2.out (Below.mono B3.out K1.out.size))
    clear hx3 ht3 hb3 hl3 hd1 HADD
    have HFR:=hid (show Calls Tryz.prog 123 #[.pointer (some ⟨x.bx,0,none⟩),.slice ap A.length ac] w3 _ from wS (x.next fl av rv cv C W) B S K' ([]++F) A (.slice ap A.length ac) w3 XF3.out (by show x.n<=1000;omega) (HA.out.keep hS K3.out) (fun b hb=>⟨Nat.lt_of_lt_of_le (HSW1.out b hb) (Nat.le_trans HSZ2.out B3.out.size),fun e=>by have:=HL3.out b e;have:=HSW1.out b hb;omega⟩) (fun c hc=>(HCL.out c (by simpa using hc)).2) (by simp;omega) HAL.out)
    go_wp2_with fail
    refine HFR.out.mono ?_
    rintro e w4 ⟨C4,rv4,W4,hx4,ht4,hd⟩
    obtain ⟨hb4,-⟩:=ht4.under (Nat.le_trans HSZ2.out B3.out.size) HL3.out
    have K4:=hid (show aA w w4 from Below.trans K3.out (Below.mono hb4 K1.out.size))
    have HSZ:=hid K3.out.size
    have HD:=hid (show (∃ v K L,e=.returned (.tuple #[v,.bool true])/\zE x.n F A K L/\(∀ y,y∈L↔Der F A y)/\¬ bJ F A/\aG (fun b=>w3.heap.size<=b/\b<w4.heap.size) w4 (cG K) v)∨(e=.returned (.tuple #[.slice none 0 0,.bool false])/\bJ F A) from by
     rcases hd with ⟨v,K2,L,h1,h2,h3,h4,h5⟩ | h
     ·exact .inl ⟨v,K2,L,h1,h2,h3,h4,h5.mono (fun _ _=>rfl) fun b hb=>⟨hb.1,hb.2.1⟩⟩
     ·exact .inr h)
    clear hd hx4 ht4 hb4 HFR
    rcases HD.out with ⟨v,K,L,rfl,h1,h2,h3,h4⟩ | ⟨rfl,h1⟩
    ·have H:=hid (And.intro h1 (And.intro h2 (And.intro h3 h4)))
     clear h1 h2 h3 h4
     go_wp2_with fail
     refine bodyPost_ret (v:= .tuple #[v,.bool true,.int .i64 0]) ?_ rfl ?_
     ·simp [results,Tryz.results61,go_sem]
     ·exact ⟨K4.out,.inr ⟨HE3.out,x.n,rfl,.inl ⟨v,K,L,rfl,H.out.1,H.out.2.1,H.out.2.2.1,H.out.2.2.2.mono (fun _ _=>rfl) fun b hb=>⟨Nat.le_trans HSZ.out hb.1,hb.2⟩⟩⟩⟩
    ·have H:=hid h1
     clear h1
     go_wp2_with fail
     refine bodyPost_ret (v:= .tuple #[.slice none 0 0,.bool false,.int .i64 0]) ?_ rfl ?_
     ·simp [results,Tryz.results61,go_sem]
     ·exact ⟨K4.out,.inr ⟨HE3.out,x.n,rfl,.inr ⟨rfl,H.out⟩⟩⟩
   ·have hr':(r2 != 0)=true:=by simp [hr2]
    have hr2':=hid hr2
    clear hr2
    go_wp2_with fail
    refine bodyPost_ret (v:= .tuple #[.slice none 0 0,.bool false,.int .i64 r2]) ?_ rfl ?_
    ·simp [results,Tryz.results61,go_sem]
    ·exact ⟨K1.out,.inl ⟨by rw [HE3.out];exact hr2'.out,by rw [HE3.out]⟩⟩
 ·have hr':(r != 0)=true:=by simp [hr]
  have HE2:=hid (HE.out.trans (if_pos hr))
  have hrr:=hid hr
  clear hr
  go_wp2_with fail
  refine bodyPost_ret (v:= .tuple #[.slice none 0 0,.bool false,.int .i64 r]) ?_ rfl ?_
  ·simp [results,Tryz.results61,go_sem]
  ·exact ⟨K1.out,.inl ⟨by rw [HE2.out];exact hrr.out,by rw [HE2.out]⟩⟩
def bM (c:List Int):List Int:=c.map fun x=> -x
def vZ (F:List (List Int)) (c:List Int):Prop:=bJ F (bM c)
def iN (F P:List (List Int)) (n:Nat):Prop:= ∀ i c,i<n->P[i]? = some c->vZ (F++P.take i) c
def aUi (F P:List (List Int)) (k:Int):Prop:=(k = -1/\iN F P P.length)∨∃ (i:Nat) (c:List Int),k=i/\P[i]? = some c/\¬ vZ (F++P.take i) c/\iN F P i
def rE (F P:List (List Int)):Prop:=iN F P P.length/\P.getLast? = some []
def lR (vars:Int) (P:List (List Int)):Int:=if vars<0 then 3 else if 400<vars then 3 else if 40000<P.length then 2 else cY vars P
def zH (vars:Int) (F P:List (List Int)):Int:=if cZ vars F≠0 then cZ vars F else lR vars P
theorem aGd {n:Nat} {P:List (List Int)} (h:lR n P=0):P.length<=40000/\∀ c∈P,c.length<=60/\aL n c:=by
 unfold lR at h
 split at h
 ·cases h
 ·split at h
  ·cases h
  ·split at h
   ·cases h
   ·exact ⟨by omega,fV.1 h⟩
theorem tV {n:Nat} {c:List Int} (h:aL n c):aL n (bM c):=fun x hx=>by
 obtain ⟨y,hy,rfl⟩:=List.mem_map.1 hx
 exact (h y hy).neg
theorem comes_holds {n:Nat} {F:List (List Int)} {c:List Int} {m:List Bool} (hF : ∀ c∈F,aL n c) (hc:aL n c) (hM : ∀ c∈F,∃ x∈c,inM m x=true) (h:vZ F c) : ∃ x∈c,inM m x=true:=by
 refine Decidable.byContradiction fun hno=> ?_
 refine mW hF (tV hc) hM (fun x hx=> ?_) h
 obtain ⟨y,hy,rfl⟩:=List.mem_map.1 hx
 rw [dM m (hc y hy).1]
 cases e:inM m y with
 | false=>rfl
 | true=>exact absurd ⟨y,hy,e⟩ hno
theorem all_holds {n:Nat} {F P:List (List Int)} {m:List Bool} (hF : ∀ c∈F,aL n c) (hP : ∀ c∈P,aL n c) (hM : ∀ c∈F,∃ x∈c,inM m x=true) : ∀ k,k<=P.length->iN F P k->∀ c∈P.take k,∃ x∈c,inM m x=true
 | 0,_,_=>by simp
 | k+1,hk,h=>by
  have ih:=all_holds hF hP hM k (by omega) (fun i c hi=>h i c (by omega))
  intro c hc
  rw [List.take_succ_eq_append_getElem (by omega:k<P.length)] at hc
  rcases List.mem_append.1 hc with hc | hc
  ·exact ih c hc
  ·rw [List.mem_singleton.1 hc]
   refine comes_holds (F:=F++P.take k) (fun d hd=> ?_) (hP _ (List.getElem_mem _)) (fun d hd=> ?_) (h k _ (by omega) (List.getElem?_eq_getElem _))
   ·rcases List.mem_append.1 hd with hd | hd
    ·exact hF d hd
    ·exact hP d (List.mem_of_mem_take hd)
   ·rcases List.mem_append.1 hd with hd | hd
    ·exact hM d hd
    ·exact ih d hd
theorem aCu (S:Nat->Prop) (vars:Int) (F:List (List Int)) (p:Option Addr) (cap:Nat) (w:World) (hS : ∀ b,S b->b<w.heap.size) (hf:iE S w 0 F p cap) :
  Calls Tryz.prog 168 #[.slice p F.length cap,.int .i64 vars] w fun e w'=>e=.returned (.int .i64 (lR vars F))/\w'=w:=by
 have HF:=hid hf
 obtain ⟨_,_,hpp,hmax⟩:=hf.row.len
 clear hpp
 have HE:=hid (show lR vars F=if vars<0 then 3 else if 400<vars then 3 else if 40000<F.length then 2 else cY vars F from rfl)
 clear hf
 by_cases h1:vars<0
 ·go_enter Tryz.func168,Tryz.ntmps168
  go_wp2_with fail
  go_ret
  exact ⟨aI (HE.out.trans (if_pos h1)).symm,rfl⟩
 ·by_cases h2:400<vars
  ·go_enter Tryz.func168,Tryz.ntmps168
   go_wp2_with fail
   go_ret
   exact ⟨aI (HE.out.trans ((if_neg (by omega)).trans (if_pos h2))).symm,rfl⟩
  ·by_cases h3:40000<F.length
   ·have h3':(40000:Int)<F.length:=by omega
    go_enter Tryz.func168,Tryz.ntmps168
    go_wp2_with fail
    go_ret
    exact ⟨aI (HE.out.trans ((if_neg (by omega)).trans ((if_neg (by omega)).trans (if_pos h3)))).symm,rfl⟩
   ·have h3' : ¬ (40000:Int)<F.length:=by omega
    have HE2:=hid (HE.out.trans ((if_neg h1).trans ((if_neg h2).trans (if_neg h3))))
    go_enter Tryz.func168,Tryz.ntmps168
    go_wp2_with fail
    go_loopg [4,19] F.length (fun gk rv i wr=> ∃ j:Nat,j+gk=F.length/\rv=.int .i64 0/\i=.int .i64 j/\cY vars (F.drop j)=cY vars F/\wr=w)
    case atStart=>exact ⟨0,by simp,rfl,rfl,by simp,rfl⟩
    case round=>
     obtain ⟨j,hj,rfl,rfl,hno,hw⟩:=hrel
     subst hw
     have HNO:=hid hno
     clear hno
     by_cases hlt:j<F.length
     ·obtain ⟨b,off,cap',cp',cc',hv,hb,-,hcell,hnum,-⟩:=HF.out.row.get hlt
      cases hv
      have HCALL:=hid (nR S F[j] _ vars wr hS hnum (HF.out.num _ (List.getElem_mem hlt)))
      have HST:=hid (HNO.out.symm.trans (pX (vars:=vars) hlt))
      have hbl:=hS b hb
      clear hnum
      generalize F[j]=c at HCALL HST hcell
      generalize gW c vars=r at HCALL HST
      go_wp2_with fail
      refine HCALL.out.mono ?_
      rintro e w1 ⟨rfl,hw1⟩
      rw [hw1]
      clear hw1 HCALL
      by_cases hr:r=0
      ·have hr':(r != 0)=false:=by simp [hr]
       have HST2:=hid (HST.out.trans (if_pos hr))
       clear hr
       go_wp2_with fail
       go_roundg (F.length-(j+1))
       case rel=>exact ⟨j+1,by omega,rfl,by go_num,HST2.out.symm,rfl⟩
       case measure=>omega
      ·have hr':(r != 0)=true:=by simp [hr]
       have HST2:=hid (HST.out.trans (if_neg hr))
       clear hr
       go_wp2_with fail
       go_ret
       exact ⟨aI (by rw [HE2.out,HST2.out]),rfl⟩
     ·obtain rfl:j=F.length:=by omega
      go_wp2_with fail
      go_ret
      have:=HNO.out
      rw [List.drop_length,cY] at this
      exact ⟨aI (by rw [HE2.out,← this]),rfl⟩
end Go.Proofs.YtonlloiemgdfkaaGreatDoor.Cn
namespace Go.Proofs.YtonlloiemgdfkaaGreatDoor.Cn
def Kn (F:List (List Int)) (A:List Int) (k:Nat):Prop:=Der F A k∨Der F A (-(k:Int))
open Classical in
noncomputable def jA (n:Nat) (F:List (List Int)) (A:List Int):Option Nat:=(List.range' 1 n).find? fun k=>decide (¬ Kn F A k)
open Classical in
noncomputable def vG (n:Nat) (F:List (List Int)) (A:List Int):List Bool:=(List.range' 1 n).map fun k=>decide (Der F A (k:Nat))
inductive aWt | out | model (m:List Bool) | closed
structure aOr where
 o:aWt
 s:Nat
 P:List (List Int)
open Classical in
noncomputable def cE (n:Nat) (F:List (List Int)):Nat->List Int->Nat->List (List Int)->aOr
 | 0,_,s,P=>⟨.out,s,P⟩
 | g+1,A,s,P=>
  if s=0 then ⟨.out,s,P⟩ else
  if bJ F A then ⟨.closed,s-1,P ++ [bM A]⟩ else
  match jA n F A with
  | none=>⟨.model (vG n F A),s-1,P⟩
  | some k=>
   match cE n F g (A ++ [-(k:Int)]) (s-1) P with
   | ⟨.closed,s1,P1⟩=>
    match cE n F g (A ++ [(k:Int)]) s1 P1 with
    | ⟨.closed,s2,P2⟩=>⟨.closed,s2,P2 ++ [bM A]⟩
    | r=>r
   | r=>r
theorem jN {n:Nat} {F:List (List Int)} {A:List Int} (h:jA n F A=none) : ∀ k,1<=k->k<=n->Kn F A k:=by
 intro k h1 h2
 have:=(List.find?_eq_none.1 h) k (List.mem_range'_1.2 ⟨h1,by omega⟩)
 simpa using this
theorem gL {n:Nat} {F:List (List Int)} {A:List Int} {k:Nat} (h:jA n F A=some k):1<=k/\k<=n/\¬ Kn F A k/\∀ j,1<=j->j<k->Kn F A j:=by
 unfold jA at h
 have h1:=List.find?_some h
 have h2:=List.mem_range'_1.1 (List.mem_of_find?_eq_some h)
 refine ⟨h2.1,by omega,by simpa using h1,fun j hj1 hj2=> ?_⟩
 obtain ⟨-,pa,pb,e,hno⟩:=List.find?_eq_some_iff_append.1 h
 have hjm:j∈pa:=by
  have hk:(List.range' 1 n)[pa.length]? = some k:=by rw [e];simp
  have hkk:pa.length=k-1:=by
   obtain ⟨hl,he⟩:=List.getElem?_eq_some_iff.1 hk
   rw [List.getElem_range'] at he
   omega
  have hj:(List.range' 1 n)[j-1]? = some j:=by
   rw [List.getElem?_range' (by omega)]
   congr 1;omega
  rw [e,List.getElem?_append_left (by omega)] at hj
  exact List.mem_of_getElem? hj
 have:=hno j hjm
 simpa using this
theorem xN {n:Nat} {F:List (List Int)} {A:List Int} (h : ∀ k,1<=k->k<=n->Kn F A k):jA n F A=none:=by
 cases e:jA n F A with
 | none=>rfl
 | some j=>
  obtain ⟨a,b,c,-⟩:=gL e
  exact absurd (h j a b) c
theorem lI (n:Nat) (F:List (List Int)) (A:List Int):(vG n F A).length=n:=by simp [vG]
open Classical in
theorem xQ {n:Nat} {F:List (List Int)} {A:List Int} {j:Nat} (h:j<n):(vG n F A).getD j false=decide (Der F A ((j+1:Nat):Int)):=by
 unfold vG
 rw [List.getD_eq_getElem?_getD,List.getElem?_map,List.getElem?_range' h]
 simp only [Option.map_some,Option.getD_some]
 congr 3;omega
theorem aAk (A:List Int):bM (bM A)=A:=by
 simp [bM,List.map_map,Function.comp_def]
theorem oK {A:List Int} {y:Int}:y∈bM A ↔ -y∈A:=by
 unfold bM
 rw [List.mem_map]
 constructor
 ·rintro ⟨x,hx,rfl⟩;rw [Int.neg_neg];exact hx
 ·intro h;exact ⟨-y,h,Int.neg_neg y⟩
theorem aMn {F:List (List Int)} {A:List Int} {k:Int} (h1:bM (A ++ [-k])∈F) (h2:bM (A ++ [k])∈F):bJ F A:=by
 refine .inl ⟨k,?_,?_⟩
 ·refine .unit h1 (oK.2 (by simp)) fun y hy hne=> ?_
  have:=oK.1 hy
  rw [List.mem_append,List.mem_singleton] at this
  rcases this with h | h
  ·exact .told h
  ·exact absurd (by omega) hne
 ·refine .unit h2 (oK.2 (by simp)) fun y hy hne=> ?_
  have:=oK.1 hy
  rw [List.mem_append,List.mem_singleton] at this
  rcases this with h | h
  ·exact .told h
  ·exact absurd (by omega) hne
theorem rI {F P:List (List Int)} {c:List Int} (h:iN F P P.length) (hc:vZ (F++P) c):iN F (P ++ [c]) (P ++ [c]).length:=by
 intro i d hi hd
 by_cases hl:i<P.length
 ·rw [List.getElem?_append_left hl] at hd
  rw [List.take_append_of_le_length (by omega)]
  exact h i d hl hd
 ·have e:i=P.length:=by simp at hi;omega
  subst e
  simp at hd
  subst hd
  simpa using hc
theorem mJ (n:Nat) (F:List (List Int)) (A:List Int) (s:Nat) (P:List (List Int)):cE n F 0 A s P=⟨.out,s,P⟩:=rfl
theorem pQ (n:Nat) (F:List (List Int)) (g:Nat) (A:List Int) (P:List (List Int)):cE n F (g+1) A 0 P=⟨.out,0,P⟩:=by
 rw [cE];exact if_pos rfl
theorem nM {n:Nat} {F:List (List Int)} {g:Nat} {A:List Int} {s:Nat} {P:List (List Int)} (hs:s≠0) (h:bJ F A):cE n F (g+1) A s P=⟨.closed,s-1,P ++ [bM A]⟩:=by
 rw [cE,if_neg hs,if_pos h]
theorem kO {n:Nat} {F:List (List Int)} {g:Nat} {A:List Int} {s:Nat} {P:List (List Int)} (hs:s≠0) (h : ¬ bJ F A) (hl:jA n F A=none):cE n F (g+1) A s P=⟨.model (vG n F A),s-1,P⟩:=by
 rw [cE,if_neg hs,if_neg h,hl]
theorem eQ {n:Nat} {F:List (List Int)} {g:Nat} {A:List Int} {s:Nat} {P:List (List Int)} {k:Nat} (hs:s≠0) (h : ¬ bJ F A) (hl:jA n F A=some k) (hc:(cE n F g (A ++ [-(k:Int)]) (s-1) P).o ≠ .closed) :
  cE n F (g+1) A s P=cE n F g (A ++ [-(k:Int)]) (s-1) P:=by
 rw [cE,if_neg hs,if_neg h,hl]
 dsimp only
 generalize cE n F g (A ++ [-(k:Int)]) (s-1) P=r at hc ⊢
 obtain ⟨o,s1,P1⟩:=r
 cases o<;>first | rfl | exact absurd rfl hc
theorem eK {n:Nat} {F:List (List Int)} {g:Nat} {A:List Int} {s s1:Nat} {P P1:List (List Int)} {k:Nat} (hs:s≠0) (h : ¬ bJ F A) (hl:jA n F A=some k) (h1:cE n F g (A ++ [-(k:Int)]) (s-1) P=⟨.closed,s1,P1⟩) (hc:(cE n F g (A ++ [(k:Int)]) s1 P1).o ≠ .closed) :
  cE n F (g+1) A s P=cE n F g (A ++ [(k:Int)]) s1 P1:=by
 rw [cE,if_neg hs,if_neg h,hl]
 simp only [h1]
 generalize cE n F g (A ++ [(k:Int)]) s1 P1=r at hc ⊢
 obtain ⟨o,s2,P2⟩:=r
 cases o<;>first | rfl | exact absurd rfl hc
theorem pP {n:Nat} {F:List (List Int)} {g:Nat} {A:List Int} {s s1 s2:Nat} {P P1 P2:List (List Int)} {k:Nat} (hs:s≠0) (h : ¬ bJ F A) (hl:jA n F A=some k) (h1:cE n F g (A ++ [-(k:Int)]) (s-1) P=⟨.closed,s1,P1⟩) (h2:cE n F g (A ++ [(k:Int)]) s1 P1=⟨.closed,s2,P2⟩) :
  cE n F (g+1) A s P=⟨.closed,s2,P2 ++ [bM A]⟩:=by
 rw [cE,if_neg hs,if_neg h,hl]
 simp only [h1,h2]
structure aDq (n:Nat) (F:List (List Int)) (A:List Int) (s:Nat) (P:List (List Int)) (s':Nat) (P':List (List Int)):Prop where
 pre:P <+: P'
 last:P'.getLast? = some (bM A)
 come:iN F P P.length->iN F P' P'.length
 few:P'.length+s'<=P.length+s
 lits:(∀ c∈P,c.length<=60/\aL n c)->∀ c∈P',c.length<=60/\aL n c
theorem iX {n:Nat} {F:List (List Int)} : ∀ (g:Nat) (A:List Int) (s:Nat) (P:List (List Int)) (s':Nat) (P':List (List Int)),A.length+g<=61->aL n A->cE n F g A s P=⟨.closed,s',P'⟩->aDq n F A s P s' P'
 | 0,A,s,P,s',P',_,_,h=>by rw [mJ] at h;injection h with h;cases h
 | g+1,A,s,P,s',P',hg,hA,h=>by
  have hown:(∀ c∈P,c.length<=60/\aL n c)->(bM A).length<=60/\aL n (bM A):=fun _=>⟨by simp [bM];omega,tV hA⟩
  by_cases hs:s=0
  ·subst hs;rw [pQ] at h;injection h with h;cases h
  by_cases hf:bJ F A
  ·rw [nM hs hf] at h
   injection h with _ h1 h2
   subst h1 h2
   refine ⟨List.prefix_append _ _,by simp,fun hc=>rI hc ?_,by simp;omega,fun hl c hc=> ?_⟩
   ·unfold vZ;rw [aAk]
    exact hf.more (fun d hd=>List.mem_append_left _ hd) fun x hx=> .told hx
   ·rcases List.mem_append.1 hc with hc | hc
    ·exact hl c hc
    ·rw [List.mem_singleton.1 hc];exact hown hl
  ·cases hl:jA n F A with
   | none=>rw [kO hs hf hl] at h;injection h with h;cases h
   | some k=>
    obtain ⟨hk1,hk2,-,-⟩:=gL hl
    have hlit:Lit n (k:Int):=by unfold Lit;omega
    have hA1:aL n (A ++ [-(k:Int)]):=fun x hx=>by
     rcases List.mem_append.1 hx with hx | hx
     ·exact hA x hx
     ·rw [List.mem_singleton.1 hx];exact hlit.neg
    have hA2:aL n (A ++ [(k:Int)]):=fun x hx=>by
     rcases List.mem_append.1 hx with hx | hx
     ·exact hA x hx
     ·rw [List.mem_singleton.1 hx];exact hlit
    cases e1:cE n F g (A ++ [-(k:Int)]) (s-1) P with
    | mk o1 s1 P1=>
     cases o1 with
     | out=>rw [eQ hs hf hl (by rw [e1];simp),e1] at h;injection h with h;cases h
     | model m=>rw [eQ hs hf hl (by rw [e1];simp),e1] at h;injection h with h;cases h
     | closed=>
      have i1:=iX g _ _ _ _ _ (by simp;omega) hA1 e1
      cases e2:cE n F g (A ++ [(k:Int)]) s1 P1 with
      | mk o2 s2 P2=>
       cases o2 with
       | out=>rw [eK hs hf hl e1 (by rw [e2];simp),e2] at h;injection h with h;cases h
       | model m=>rw [eK hs hf hl e1 (by rw [e2];simp),e2] at h;injection h with h;cases h
       | closed=>
        have i2:=iX g _ _ _ _ _ (by simp;omega) hA2 e2
        rw [pP hs hf hl e1 e2] at h
        injection h with _ h1 h2
        subst h1 h2
        have a1:=i1.few
        have a2:=i2.few
        refine ⟨(i1.pre.trans i2.pre).trans (List.prefix_append _ _),by simp,fun hc=>rI (i2.come (i1.come hc)) ?_,by simp;omega,fun hll c hc=> ?_⟩
        ·unfold vZ;rw [aAk]
         refine aMn (k:=k) (List.mem_append_right _ (i2.pre.subset (List.mem_of_getLast? i1.last))) (List.mem_append_right _ (List.mem_of_getLast? i2.last))
        ·rcases List.mem_append.1 hc with hc | hc
         ·exact i2.lits (i1.lits hll) c hc
         ·rw [List.mem_singleton.1 hc];exact hown hll
def Mod (n:Nat) (F:List (List Int)) (m:List Bool):Prop:=m.length=n/\∀ c∈F,∃ x∈c,inM m x=true
def nU (A:List Int) (m:List Bool):Prop:= ∀ x∈A,inM m x=true
def kS (m o:List Bool):Prop:=m=o∨∃ j,j<m.length/\(∀ i<j,m.getD i false=o.getD i false)/\m.getD j false=false/\o.getD j false=true
theorem mA {m o:List Bool} (hl:m.length=o.length) (h : ∀ i<m.length,m.getD i false=o.getD i false):m=o:=by
 refine List.ext_getElem hl fun i h1 h2=> ?_
 have:=h i h1
 rwa [List.getD_eq_getElem?_getD,List.getD_eq_getElem?_getD,List.getElem?_eq_getElem h1,List.getElem?_eq_getElem h2,Option.getD_some,Option.getD_some] at this
theorem kS.anti {m o:List Bool} (h:kS m o) (h':kS o m):m=o:=by
 rcases h with h | ⟨j,h1,h2,h3,h4⟩
 ·exact h
 rcases h' with h' | ⟨j',h1',h2',h3',h4'⟩
 ·exact h'.symm
 rcases Nat.lt_trichotomy j j' with e | e | e
 ·have:=h2' j e;rw [h3,h4] at this;cases this
 ·subst e;rw [h3] at h4';cases h4'
 ·have:=h2 j' e;rw [h3',h4'] at this;cases this
theorem lE {m:List Bool} {k:Nat} (h:1<=k):inM m (k:Int)=m.getD (k-1) false:=by
 unfold inM
 have h1:decide ((0:Int)<k)=true:=by simp;omega
 rw [h1];simp
theorem oB {m:List Bool} {k:Nat} (h:1<=k):inM m (-(k:Int)) = !m.getD (k-1) false:=by
 rw [dM m (by omega),lE h]
theorem xR {n:Nat} {F:List (List Int)} {A:List Int} (hF : ∀ c∈F,aL n c) (hA:aL n A) (hf : ¬ bJ F A) (hl:jA n F A=none):Mod n F (vG n F A)/\nU A (vG n F A):=by
 have hall:=jN hl
 have hder : ∀ x,Lit n x->Der F A x->inM (vG n F A) x=true:=by
  intro x hx hd
  obtain ⟨h0,hn⟩:=hx
  rcases Int.lt_or_gt_of_ne h0 with h | h
  ·obtain ⟨k,rfl⟩ : ∃ k:Nat,x = -(k:Int):=⟨x.natAbs,by omega⟩
   rw [oB (by omega),xQ (by omega)]
   have:((k-1+1:Nat):Int)=k:=by omega
   rw [this]
   have hno : ¬ Der F A (k:Int):=fun h'=>hf (.inl ⟨_,h',hd⟩)
   simp [hno]
  ·obtain ⟨k,rfl⟩ : ∃ k:Nat,x=(k:Int):=⟨x.natAbs,by omega⟩
   rw [lE (by omega),xQ (by omega)]
   have:((k-1+1:Nat):Int)=k:=by omega
   rw [this]
   simp [hd]
 refine ⟨⟨lI _ _ _,fun c hc=> ?_⟩,fun x hx=>hder x (hA x hx) (.told hx)⟩
 refine Classical.byContradiction fun hno=>hf (.inr ⟨c,hc,fun y hy=> ?_⟩)
 have hy':=hF c hc y hy
 rcases hall y.natAbs (by have:=hy'.1;omega) hy'.2 with h | h
 ·rcases Int.lt_or_gt_of_ne hy'.1 with h0 | h0
  ·rwa [show -y=(y.natAbs:Int) by omega]
  ·exact absurd ⟨y,hy,hder y hy' (by rwa [show y=(y.natAbs:Int) by omega])⟩ hno
 ·rcases Int.lt_or_gt_of_ne hy'.1 with h0 | h0
  ·exact absurd ⟨y,hy,hder y hy' (by rwa [show y = -(y.natAbs:Int) by omega])⟩ hno
  ·rwa [show -y = -(y.natAbs:Int) by omega]
theorem aUj {n:Nat} {F:List (List Int)} {A:List Int} {m o:List Bool} (hF : ∀ c∈F,aL n c) (hm:Mod n F m) (hAm:nU A m) (ho:Mod n F o) (hAo:nU A o) {k:Nat} (h1:1<=k) (h:Kn F A k):m.getD (k-1) false=o.getD (k-1) false:=by
 rcases h with h | h
 ·have a:=der_holds hF hm.2 hAm h
  have b:=der_holds hF ho.2 hAo h
  rw [lE h1] at a b
  rw [a,b]
 ·have a:=der_holds hF hm.2 hAm h
  have b:=der_holds hF ho.2 hAo h
  rw [oB h1] at a b
  revert a b
  cases m.getD (k-1) false<;>cases o.getD (k-1) false<;>simp
theorem aEj {n:Nat} {F:List (List Int)} {A:List Int} {s s':Nat} {P':List (List Int)} (hF : ∀ c∈F,aL n c) (h:aDq n F A s [] s' P') {o:List Bool} (ho:Mod n F o) : ¬ nU A o:=by
 intro hA
 have hc:=h.come (fun i c hi=>by simp at hi)
 have hl:=h.lits (by simp)
 obtain ⟨x,hx,hxo⟩:=all_holds hF (fun c hc=>(hl c hc).2) ho.2 P'.length (Nat.le_refl _) hc (bM A) (by rw [List.take_length];exact List.mem_of_getLast? h.last)
 have hy:=oK.1 hx
 have:=hA _ hy
 rw [dM o ((hl _ (List.mem_of_getLast? h.last)).2 x hx).1,hxo] at this
 cases this
theorem lT {n:Nat} {F:List (List Int)} (hF : ∀ c∈F,aL n c) : ∀ (g:Nat) (A:List Int) (s:Nat) (P:List (List Int)) (s':Nat) (P':List (List Int)),aL n A->cE n F g A s P=⟨.closed,s',P'⟩->∀ o,Mod n F o->¬ nU A o
 | 0,A,s,P,s',P',_,h=>by rw [mJ] at h;injection h with h;cases h
 | g+1,A,s,P,s',P',hA,h=>by
  intro o ho hAo
  by_cases hs:s=0
  ·subst hs;rw [pQ] at h;injection h with h;cases h
  by_cases hf:bJ F A
  ·exact mW hF hA ho.2 hAo hf
  ·cases hl:jA n F A with
   | none=>rw [kO hs hf hl] at h;injection h with h;cases h
   | some k=>
    obtain ⟨hk1,hk2,-,-⟩:=gL hl
    have hlit:Lit n (k:Int):=by unfold Lit;omega
    have hA1:aL n (A ++ [-(k:Int)]):=fun x hx=>by
     rcases List.mem_append.1 hx with hx | hx
     ·exact hA x hx
     ·rw [List.mem_singleton.1 hx];exact hlit.neg
    have hA2:aL n (A ++ [(k:Int)]):=fun x hx=>by
     rcases List.mem_append.1 hx with hx | hx
     ·exact hA x hx
     ·rw [List.mem_singleton.1 hx];exact hlit
    cases e1:cE n F g (A ++ [-(k:Int)]) (s-1) P with
    | mk o1 s1 P1=>
     cases o1 with
     | out=>rw [eQ hs hf hl (by rw [e1];simp),e1] at h;injection h with h;cases h
     | model m=>rw [eQ hs hf hl (by rw [e1];simp),e1] at h;injection h with h;cases h
     | closed=>
      have i1:=lT hF g _ _ _ _ _ hA1 e1 o ho
      cases e2:cE n F g (A ++ [(k:Int)]) s1 P1 with
      | mk o2 s2 P2=>
       cases o2 with
       | out=>rw [eK hs hf hl e1 (by rw [e2];simp),e2] at h;injection h with h;cases h
       | model m=>rw [eK hs hf hl e1 (by rw [e2];simp),e2] at h;injection h with h;cases h
       | closed=>
        have i2:=lT hF g _ _ _ _ _ hA2 e2 o ho
        cases ek:inM o (k:Int) with
        | true=>
         refine i2 fun x hx=> ?_
         rcases List.mem_append.1 hx with hx | hx
         ·exact hAo x hx
         ·rw [List.mem_singleton.1 hx];exact ek
        | false=>
         refine i1 fun x hx=> ?_
         rcases List.mem_append.1 hx with hx | hx
         ·exact hAo x hx
         ·rw [List.mem_singleton.1 hx,dM o (by omega),ek];rfl
theorem rB {n:Nat} {F:List (List Int)} (hF : ∀ c∈F,aL n c) : ∀ (g:Nat) (A:List Int) (s:Nat) (P:List (List Int)) (s':Nat) (P':List (List Int)) (m:List Bool),aL n A->cE n F g A s P=⟨.model m,s',P'⟩->Mod n F m/\nU A m/\∀ o,Mod n F o->nU A o->kS m o
 | 0,A,s,P,s',P',m,_,h=>by rw [mJ] at h;injection h with h;cases h
 | g+1,A,s,P,s',P',m,hA,h=>by
  by_cases hs:s=0
  ·subst hs;rw [pQ] at h;injection h with h;cases h
  by_cases hf:bJ F A
  ·rw [nM hs hf] at h;injection h with h;cases h
  ·cases hl:jA n F A with
   | none=>
    rw [kO hs hf hl] at h
    injection h with h _ _
    injection h with h
    subst h
    obtain ⟨h1,h2⟩:=xR hF hA hf hl
    refine ⟨h1,h2,fun o ho hAo=> .inl (mA (by rw [lI,ho.1]) fun i hi=> ?_)⟩
    rw [lI] at hi
    exact aUj hF h1 h2 ho hAo (k:=i+1) (by omega) (jN hl (i+1) (by omega) (by omega))
   | some k=>
    obtain ⟨hk1,hk2,hkn,hbel⟩:=gL hl
    have hlit:Lit n (k:Int):=by unfold Lit;omega
    have hA1:aL n (A ++ [-(k:Int)]):=fun x hx=>by
     rcases List.mem_append.1 hx with hx | hx
     ·exact hA x hx
     ·rw [List.mem_singleton.1 hx];exact hlit.neg
    have hA2:aL n (A ++ [(k:Int)]):=fun x hx=>by
     rcases List.mem_append.1 hx with hx | hx
     ·exact hA x hx
     ·rw [List.mem_singleton.1 hx];exact hlit
    have hput : ∀ (o:List Bool) (x:Int),nU A o->inM o x=true->nU (A ++ [x]) o:=fun o x hAo hx y hy=>by
     rcases List.mem_append.1 hy with hy | hy
     ·exact hAo y hy
     ·rw [List.mem_singleton.1 hy];exact hx
    cases e1:cE n F g (A ++ [-(k:Int)]) (s-1) P with
    | mk o1 s1 P1=>
     cases o1 with
     | out=>rw [eQ hs hf hl (by rw [e1];simp),e1] at h;injection h with h;cases h
     | model m1=>
      rw [eQ hs hf hl (by rw [e1];simp),e1] at h
      injection h with h _ _
      injection h with h
      subst h
      obtain ⟨j1,j2,j3⟩:=rB hF g _ _ _ _ _ _ hA1 e1
      have hAm:nU A m1:=fun x hx=>j2 x (List.mem_append_left _ hx)
      refine ⟨j1,hAm,fun o ho hAo=> ?_⟩
      cases ek:inM o (k:Int) with
      | false=>exact j3 o ho (hput o _ hAo (by rw [dM o (by omega),ek];rfl))
      | true=>
       have hk:=j2 (-(k:Int)) (by simp)
       rw [oB hk1] at hk
       rw [lE hk1] at ek
       refine .inr ⟨k-1,by rw [j1.1];omega,fun i hi=> ?_,by simpa using hk,ek⟩
       exact aUj hF j1 hAm ho hAo (k:=i+1) (by omega) (hbel (i+1) (by omega) (by omega))
     | closed=>
      have i1:=lT hF g _ _ _ _ _ hA1 e1
      cases e2:cE n F g (A ++ [(k:Int)]) s1 P1 with
      | mk o2 s2 P2=>
       cases o2 with
       | out=>rw [eK hs hf hl e1 (by rw [e2];simp),e2] at h;injection h with h;cases h
       | model m2=>
        rw [eK hs hf hl e1 (by rw [e2];simp),e2] at h
        injection h with h _ _
        injection h with h
        subst h
        obtain ⟨j1,j2,j3⟩:=rB hF g _ _ _ _ _ _ hA2 e2
        refine ⟨j1,fun x hx=>j2 x (List.mem_append_left _ hx),fun o ho hAo=> ?_⟩
        cases ek:inM o (k:Int) with
        | true=>exact j3 o ho (hput o _ hAo ek)
        | false=>exact absurd (hput o _ hAo (by rw [dM o (by omega),ek];rfl)) (i1 o ho)
       | closed=>rw [pP hs hf hl e1 e2] at h;injection h with h;cases h
noncomputable def gS (n:Nat) (F:List (List Int)) (s:Nat):aOr:=cE n F 61 [] s []
theorem aJi {n:Nat} {F:List (List Int)} {s:Nat} (hF : ∀ c∈F,aL n c) {m:List Bool} (h:(gS n F s).o=.model m):Mod n F m/\∀ o,Mod n F o->kS m o:=by
 unfold gS at h
 cases e:cE n F 61 [] s [] with
 | mk o s' P'=>
  rw [e] at h
  cases h
  obtain ⟨a,-,b⟩:=rB hF _ _ _ _ _ _ _ (by intro x hx;simp at hx) e
  exact ⟨a,fun o ho=>b o ho (by intro x hx;simp at hx)⟩
theorem aGn {n:Nat} {F:List (List Int)} {s:Nat} (hF : ∀ c∈F,aL n c) (h:(gS n F s).o=.closed):rE F (gS n F s).P/\(gS n F s).P.length<=s/\(∀ c∈(gS n F s).P,c.length<=60/\aL n c)/\∀ o,¬ Mod n F o:=by
 unfold gS at h ⊢
 cases e:cE n F 61 [] s [] with
 | mk o s' P'=>
  rw [e] at h
  cases h
  have c:=iX 61 _ _ _ _ _ (by simp) (by intro x hx;simp at hx) e
  refine ⟨⟨c.come (fun i d hi=>by simp at hi),c.last⟩,by have:=c.few;simp at this ⊢;omega,c.lits (by simp),fun o ho=> ?_⟩
  exact aEj hF c ho (by intro x hx;simp at hx)
end Go.Proofs.YtonlloiemgdfkaaGreatDoor.Cn
namespace Go.Proofs.YtonlloiemgdfkaaGreatDoor.Cn
def vL (n c:Nat) (F:List (List Int)):Prop:= ∀ B:List Int,aL c B->(∀ j:Nat,1<=j->j<=c->(j:Int)∈B∨-(j:Int)∈B)->bJ F B∨jA n F B=none
theorem aIo {n c:Nat} {F:List (List Int)} {A:List Int} {k:Nat} (hd:vL n c F) (hf : ¬ bJ F A) (hl:jA n F A=some k):k<=c:=by
 classical
 refine Decidable.byContradiction fun hk=> ?_
 obtain ⟨h1,h2,h3,h4⟩:=gL hl
 have hkn : ∀ j:Nat,1<=j->j<=c->Kn F A j:=fun j hj1 hj2=>h4 j hj1 (by omega)
 have hin : ∀ x∈(List.range' 1 c).map (fun (j:Nat)=>if Der F A (j:Int) then (j:Int) else -(j:Int)),Der F A x/\Lit c x:=by
  intro x hx
  obtain ⟨j,hj,rfl⟩:=List.mem_map.1 hx
  have hj:=List.mem_range'_1.1 hj
  by_cases h:Der F A (j:Int)
  ·rw [if_pos h];exact ⟨h,by omega,by omega⟩
  ·rw [if_neg h];exact ⟨(hkn j hj.1 (by omega)).resolve_left h,by omega,by omega⟩
 have hcov : ∀ j:Nat,1<=j->j<=c->(j:Int)∈(List.range' 1 c).map (fun (j:Nat)=>if Der F A (j:Int) then (j:Int) else -(j:Int))∨-(j:Int)∈(List.range' 1 c).map (fun (j:Nat)=>if Der F A (j:Int) then (j:Int) else -(j:Int)):=fun j hj1 hj2=>by
  have hm:(if Der F A (j:Int) then (j:Int) else -(j:Int))∈(List.range' 1 c).map (fun (j:Nat)=>if Der F A (j:Int) then (j:Int) else -(j:Int)):=List.mem_map.2 ⟨j,List.mem_range'_1.2 ⟨hj1,by omega⟩,rfl⟩
  by_cases h:Der F A (j:Int)
  ·rw [if_pos h] at hm;exact .inl hm
  ·rw [if_neg h] at hm;exact .inr hm
 rcases hd _ (fun x hx=>(hin x hx).2) hcov with h | h
 ·exact hf (h.more (fun _ h=>h) fun x hx=>(hin x hx).1)
 ·rcases jN h k h1 h2 with h | h
  ·exact h3 (.inl (h.more (fun _ h=>h) fun x hx=>(hin x hx).1))
  ·exact h3 (.inr (h.more (fun _ h=>h) fun x hx=>(hin x hx).1))
theorem yA : ∀ {c:Nat} {l:List Nat},l.Nodup->(∀ p∈l,1<=p/\p<=c)->l.length<=c
 | 0,l,_,h=>by
  cases l with
  | nil=>simp
  | cons a l=>have:=h a List.mem_cons_self;omega
 | c+1,l,hn,h=>by
  by_cases hm:c+1∈l
  ·have h1:=yA (c:=c) (l:=l.erase (c+1)) (hn.erase _) fun p hp=>by
    have h2:=h p (List.mem_of_mem_erase hp)
    have:p≠c+1:=fun e=>by subst e;exact (List.Nodup.not_mem_erase hn) hp
    omega
   rw [List.length_erase_of_mem hm] at h1
   omega
  ·have:=yA (c:=c) hn fun p hp=>by
    have h2:=h p hp
    have:p≠c+1:=fun e=>hm (e ▸ hp)
    omega
   omega
theorem yM {n c:Nat} {F:List (List Int)} (hd:vL n c F) : ∀ (u g:Nat) (A:List Int) (s:Nat) (P:List (List Int)),A.length+u=c->(A.map Int.natAbs).Nodup->aL c A->u+1<=g->2 ^ (u+1)<=s+1->
  (cE n F g A s P).o ≠ .out/\s+1<=(cE n F g A s P).s+2 ^ (u+1)
 | _,0,_,_,_,_,_,_,hg,_=>by omega
 | u,g+1,A,s,P,hlen,hnd,hA,hg,hs=>by
  have hpos:2<=2 ^ (u+1):=by rw [Nat.pow_succ];have:=Nat.one_le_two_pow (n:=u);omega
  have hs0:s≠0:=by omega
  by_cases hf:bJ F A
  ·rw [nM hs0 hf];exact ⟨by simp,by show s+1<=s-1+_;omega⟩
  cases hl:jA n F A with
  | none=>rw [kO hs0 hf hl];exact ⟨by simp,by show s+1<=s-1+_;omega⟩
  | some k=>
   have hkc:=aIo hd hf hl
   obtain ⟨h1,h2,h3,h4⟩:=gL hl
   have hkA:k ∉ A.map Int.natAbs:=fun hm=>by
    obtain ⟨x,hx,e⟩:=List.mem_map.1 hm
    rcases Int.natAbs_eq_iff.1 e with e | e
    ·exact h3 (.inl (.told (e ▸ hx)))
    ·exact h3 (.inr (.told (e ▸ hx)))
   have hlt:A.length+1<=c:=by
    have:=yA (c:=c) (l:=k :: A.map Int.natAbs) (List.nodup_cons.2 ⟨hkA,hnd⟩) fun p hp=>by
     rcases List.mem_cons.1 hp with rfl | hp
     ·exact ⟨h1,hkc⟩
     ·obtain ⟨x,hx,rfl⟩:=List.mem_map.1 hp
      have:=hA x hx
      unfold Lit at this
      omega
    simpa using this
   obtain ⟨u',rfl⟩ : ∃ u',u=u'+1:=⟨u-1,by omega⟩
   have hT:2 ^ (u'+1+1)=2*2 ^ (u'+1):=by rw [Nat.pow_succ];omega
   have hone:=Nat.one_le_two_pow (n:=u'+1)
   have hnd' : ∀ x:Int,x.natAbs=k->((A ++ [x]).map Int.natAbs).Nodup:=fun x hx=>by
    rw [List.map_append,List.nodup_append]
    refine ⟨hnd,by simp,fun a ha b hb e=> ?_⟩
    have hb:b=x.natAbs:=by simpa using hb
    exact hkA (by rw [← hx,← hb,← e];exact ha)
   have hA' : ∀ x:Int,x.natAbs=k->aL c (A ++ [x]):=fun x hx y hy=>by
    rcases List.mem_append.1 hy with hy | hy
    ·exact hA y hy
    ·rw [List.mem_singleton.1 hy];unfold Lit;omega
   have i1:=yM hd u' g (A ++ [-(k:Int)]) (s-1) P (by simp;omega) (hnd' _ (by omega)) (hA' _ (by omega)) (by omega) (by omega)
   cases e1:cE n F g (A ++ [-(k:Int)]) (s-1) P with
   | mk o1 s1 P1=>
    rw [e1] at i1
    cases o1 with
    | out=>exact absurd rfl i1.1
    | model m=>rw [eQ hs0 hf hl (by rw [e1];simp),e1];exact ⟨by simp,by have:=i1.2;simp only at this ⊢;omega⟩
    | closed=>
     have h5:=i1.2
     simp only at h5
     have i2:=yM hd u' g (A ++ [(k:Int)]) s1 P1 (by simp;omega) (hnd' _ (by omega)) (hA' _ (by omega)) (by omega) (by omega)
     cases e2:cE n F g (A ++ [(k:Int)]) s1 P1 with
     | mk o2 s2 P2=>
      rw [e2] at i2
      have h6:=i2.2
      simp only at h6
      cases o2 with
      | out=>exact absurd rfl i2.1
      | model m=>rw [eK hs0 hf hl e1 (by rw [e2];simp),e2];exact ⟨by simp,by simp only;omega⟩
      | closed=>rw [pP hs0 hf hl e1 e2];exact ⟨by simp,by simp only;omega⟩
theorem aRt {n c s:Nat} {F:List (List Int)} (hd:vL n c F) (hc:c<=60) (hs:2 ^ (c+1)<=s):(gS n F s).o ≠ .out:=by
 unfold gS
 exact (yM hd c 61 [] s [] (by simp) (by simp) (by intro x hx;simp at hx) (by omega) (by omega)).1
def chL (m:List Bool):List Int:=(List.range m.length).map fun (v:Nat)=>if m.getD v false then (v:Int)+1 else -(v:Int)-1
theorem dT (m:List Bool):(chL m).length=m.length:=by simp [chL]
theorem fH (m:List Bool):aL m.length (chL m):=by
 intro x hx
 obtain ⟨v,hv,rfl⟩:=List.mem_map.1 hx
 have:=List.mem_range.1 hv
 unfold Lit
 split<;>omega
theorem iO {m:List Bool} {v:Nat} (hv:v<m.length):(chL m)[v]? = some (if m.getD v false then (v:Int)+1 else -(v:Int)-1):=by
 unfold chL
 rw [List.getElem?_map,List.getElem?_range hv]
 rfl
theorem aPk {m:List Bool} {v:Nat} (hv:v<m.length):chL (m.set v !(m.getD v false))=(chL m).set v (-((chL m).getD v 0)):=by
 refine List.ext_getElem? fun w=> ?_
 by_cases hw:w<m.length
 ·rw [iO (by simpa using hw)]
  by_cases e:v=w
  ·subst e
   rw [List.getElem?_set_self (by rw [dT];exact hv),List.getD_eq_getElem?_getD (l:=chL m),iO hv]
   have h1:(m.set v !(m.getD v false)).getD v false = !(m.getD v false):=by simp [List.getD_eq_getElem?_getD,hv]
   rw [h1]
   cases m.getD v false<;>simp<;>omega
  ·rw [List.getElem?_set_ne e,iO hw]
   have h1:(m.set v !(m.getD v false)).getD w false=m.getD w false:=by simp [List.getD_eq_getElem?_getD,List.getElem?_set_ne e]
   rw [h1]
 ·rw [List.getElem?_eq_none (by rw [dT,List.length_set];omega),List.getElem?_eq_none (by rw [List.length_set,dT];omega)]
def wA (n c:Nat) (F:List (List Int)) (may:List Bool->Bool):Prop:= ∀ m:List Bool,m.length=c->(may m=true->¬ bJ F (chL m)/\jA n F (chL m)=none)/\(may m=false->bJ F (chL m))
theorem wA.decides {n c:Nat} {F:List (List Int)} {may:List Bool->Bool} (h:wA n c F may):vL n c F:=by
 classical
 intro B hB hcov
 obtain ⟨m,hml,hmg⟩ : ∃ m:List Bool,m.length=c/\∀ v<c,m.getD v false=decide (((v:Int)+1)∈B):=⟨(List.range c).map fun (v:Nat)=>decide (((v:Int)+1)∈B),by simp,fun v hv=>by
  simp [List.getD_eq_getElem?_getD,List.getElem?_range hv]⟩
 have hsub : ∀ x∈chL m,Der F B x:=by
  intro x hx
  obtain ⟨v,hv,rfl⟩:=List.mem_map.1 hx
  have hv:=List.mem_range.1 hv
  rw [hml] at hv
  rw [hmg v hv]
  by_cases hin:((v:Int)+1)∈B
  ·simp only [hin,decide_true,if_true];exact .told hin
  ·simp only [hin,decide_false,Bool.false_eq_true,if_false]
   have h1:=hcov (v+1) (by omega) (by omega)
   have e1:((v+1:Nat):Int)=(v:Int)+1:=by omega
   rw [e1] at h1
   have e2 : -(v:Int)-1 = -((v:Int)+1):=by omega
   rw [e2]
   exact .told (h1.resolve_left hin)
 obtain ⟨h1,h2⟩:=h m hml
 cases hm:may m with
 | false=>exact .inl ((h2 hm).more (fun _ h=>h) hsub)
 | true=>
  refine .inr (xN fun k hk1 hk2=> ?_)
  rcases jN (h1 hm).2 k hk1 hk2 with h3 | h3
  ·exact .inl (h3.more (fun _ h=>h) hsub)
  ·exact .inr (h3.more (fun _ h=>h) hsub)
def aJr (k:Nat) (b:Bool):Int:=if b then (k:Int) else -(k:Int)
structure mN (n:Nat) (F:List (List Int)) (A:List Int) (val:List Bool):Prop where
 len:val.length=n
 der : ∀ k,1<=k->k<=n->Der F A (aJr k (val.getD (k-1) false))
theorem mN.more {n:Nat} {F F':List (List Int)} {A:List Int} {val:List Bool} (h:mN n F A val) (hF : ∀ c∈F,c∈F'):mN n F' A val:=⟨h.len,fun k h1 h2=>(h.der k h1 h2).more hF fun _ h=> .told h⟩
theorem mN.lit {n:Nat} {F:List (List Int)} {A:List Int} {val:List Bool} (h:mN n F A val) {x:Int} (hx:Lit n x):(inM val x=true->Der F A x)/\(inM val x=false->Der F A (-x)):=by
 obtain ⟨h0,hn⟩:=hx
 rcases Int.lt_or_gt_of_ne h0 with hs | hs
 ·obtain ⟨k,rfl⟩ : ∃ k:Nat,x = -(k:Int):=⟨x.natAbs,by omega⟩
  have hd:=h.der k (by omega) (by omega)
  rw [oB (by omega)]
  unfold aJr at hd
  cases hv:val.getD (k-1) false with
  | true=>rw [hv] at hd;exact ⟨fun e=>(by cases e),fun _=>by rw [Int.neg_neg];simpa using hd⟩
  | false=>rw [hv] at hd;exact ⟨fun _=>by simpa using hd,fun e=>by cases e⟩
 ·obtain ⟨k,rfl⟩ : ∃ k:Nat,x=(k:Int):=⟨x.natAbs,by omega⟩
  have hd:=h.der k (by omega) (by omega)
  rw [lE (by omega)]
  unfold aJr at hd
  cases hv:val.getD (k-1) false with
  | true=>rw [hv] at hd;exact ⟨fun _=>by simpa using hd,fun e=>by cases e⟩
  | false=>rw [hv] at hd;exact ⟨fun e=>(by cases e),fun _=>by simpa using hd⟩
theorem mN.start (F:List (List Int)) (m:List Bool):mN m.length F (chL m) m:=⟨rfl,fun k h1 h2=> .told (by
 have:=List.mem_of_getElem? (iO (m:=m) (v:=k-1) (by omega))
 unfold aJr
 cases hv:m.getD (k-1) false with
 | true=>rw [hv] at this;simp only [if_true] at this ⊢;rwa [show ((k-1:Nat):Int)+1=(k:Int) by omega] at this
 | false=>rw [hv] at this;simp only [Bool.false_eq_true,if_false] at this ⊢;rwa [show -((k-1:Nat):Int)-1 = -(k:Int) by omega] at this)⟩
theorem mN.push {n:Nat} {F:List (List Int)} {A:List Int} {val:List Bool} (h:mN n F A val) {b:Bool} (hd:Der F A (aJr (n+1) b)):mN (n+1) F A (val ++ [b]):=by
 refine ⟨by simp [h.len],fun k h1 h2=> ?_⟩
 by_cases hk:k<=n
 ·have:=h.der k h1 hk
  rwa [show (val ++ [b]).getD (k-1) false=val.getD (k-1) false by rw [List.getD_eq_getElem?_getD,List.getElem?_append_left (by rw [h.len];omega),← List.getD_eq_getElem?_getD]]
 ·obtain rfl:k=n+1:=by omega
  rwa [show (val ++ [b]).getD (n+1-1) false=b by rw [Nat.add_sub_cancel,← h.len];simp [List.getD_eq_getElem?_getD]]
theorem mN.or {n:Nat} {F:List (List Int)} {A:List Int} {val:List Bool} {l:List Int} (h:mN n F A val) (hl:aL n l) (hlong : ∃ c∈F,∀ y,y∈c↔y = -((n:Int)+1)∨y∈l) (hshort : ∀ x∈l,∃ c∈F,∀ y,y∈c↔y=(n:Int)+1∨y = -x):mN (n+1) F A (val ++ [l.any (inM val)]):=by
 refine h.push ?_
 unfold aJr
 cases ha:l.any (inM val) with
 | true=>
  obtain ⟨x,hx,hxm⟩:=List.any_eq_true.1 ha
  obtain ⟨c,hc,hcy⟩:=hshort x hx
  have hd:=(h.lit (hl x hx)).1 hxm
  simp only [if_true]
  rw [show ((n+1:Nat):Int)=(n:Int)+1 by omega]
  refine .unit hc ((hcy _).2 (.inl rfl)) fun y hy hne=> ?_
  have:=((hcy y).1 hy).resolve_left hne
  rw [this,Int.neg_neg];exact hd
 | false=>
  have hall:=List.any_eq_false.1 ha
  obtain ⟨c,hc,hcy⟩:=hlong
  simp only [Bool.false_eq_true,if_false]
  rw [show -((n+1:Nat):Int) = -((n:Int)+1) by omega]
  refine .unit hc ((hcy _).2 (.inl rfl)) fun y hy hne=> ?_
  have hyl:=((hcy y).1 hy).resolve_left hne
  exact (h.lit (hl y hyl)).2 (by simpa using hall y hyl)
theorem mN.done {n:Nat} {F:List (List Int)} {A:List Int} {val:List Bool} (h:mN n F A val) (hF : ∀ c∈F,aL n c) (hA:aL n A) (hAv : ∀ x∈A,inM val x=true) (hM : ∀ c∈F,∃ x∈c,inM val x=true) : ¬ bJ F A/\jA n F A=none:=by
 refine ⟨mW hF hA hM hAv,xN fun k h1 h2=> ?_⟩
 have:=h.der k h1 h2
 unfold aJr at this
 split at this
 ·exact .inl this
 ·exact .inr this
theorem mN.bad {n:Nat} {F:List (List Int)} {A:List Int} {val:List Bool} (h:mN n F A val) {c:List Int} (hc:c∈F) (hl:aL n c) (hno : ∀ x∈c,inM val x=false):bJ F A:=
 .inr ⟨c,hc,fun y hy=>(h.lit (hl y hy)).2 (hno y hy)⟩
theorem aUw {m val:List Bool} (hv : ∀ v<m.length,val.getD v false=m.getD v false) : ∀ x∈chL m,inM val x=true:=by
 intro x hx
 obtain ⟨v,hv',rfl⟩:=List.mem_map.1 hx
 have hv':=List.mem_range.1 hv'
 have e:=hv v hv'
 cases hm:m.getD v false with
 | true=>
  simp only [if_true]
  rw [show (v:Int)+1=((v+1:Nat):Int) by omega,lE (by omega),Nat.add_sub_cancel,e,hm]
 | false=>
  simp only [Bool.false_eq_true,if_false]
  rw [show -(v:Int)-1 = -((v+1:Nat):Int) by omega,oB (by omega),Nat.add_sub_cancel,e,hm];rfl
end Go.Proofs.YtonlloiemgdfkaaGreatDoor.Cn
