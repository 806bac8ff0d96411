/- Steps of the proof: CnfFollows, RupBase, SatSpec, EncSteps, EncOk, EncVal, EncDraft, EncLits, EncRowsP, MapP. -/
import Derived.Test.YthhhicgjiilgmaaGreatDoorSd16
import Derived.Test.YthhhicgjiilgmaaGreatDoorSd17
import Derived.Test.YthhhicgjiilgmaaGreatDoorSd11
import Derived.Test.YthhhicgjiilgmaaGreatDoorSd13
import Derived.Maps.Own
import Derived.Maps.OwnSet
import Derived.WideKeyPair
set_option maxHeartbeats 16000000
set_option maxRecDepth 100000
namespace Go.Proofs.YthhhicgjiilgmaaGreatDoor.Cn
open Go.RowKit Go.Lib
def aGq (vars:Int) (F:List (List Int)) (A:List Int):Int:=if fM vars F≠0 then fM vars F else if 400<A.length then 2 else iZ A vars
def aEo (vars:Int) (F:List (List Int)) (A:List Int) (w:World) (e:Ending) (w':World):Prop:=
 aA w w'/\((aGq vars F A≠0/\e=.returned (.tuple #[.slice none 0 0,.bool false,.int .i64 (aGq vars F A)]))∨
  (aGq vars F A=0/\∃ n:Nat,vars=n/\((∃ v K L,e=.returned (.tuple #[v,.bool true,.int .i64 0])/\uA n F A K L/\(∀ x,x∈L↔Der F A x)/\¬ cB F A/\aK (fun b=>w.heap.size<=b/\b<w'.heap.size) w' (bW K) v)∨(e=.returned (.tuple #[.slice none 0 0,.bool false,.int .i64 0])/\cB F A))))
theorem aF.under {x x':XD} {w w':World} {N:Nat} (t:aF x.all x'.all w w') (hN:N<=w.heap.size) (h : ∀ b,x.all b->N<=b):Below N w w'/\∀ b,x'.all b->N<=b:=
 ⟨t.below hN fun b hb e=>by have:=h b e;omega,fun b hb=>(t.new b hb).elim (h b) fun e=>Nat.le_trans hN e⟩
theorem aAq (S:Nat->Prop) (vars:Int) (F:List (List Int)) (A:List Int) (p:Option Addr) (cap:Nat) (av:Value) (w:World) (hS : ∀ b,S b->b<w.heap.size) (hf:pB S w vars F p cap) (ha:aK S w A av) (hr : ∀ x∈A,InR x) :
  Calls Tryz.prog 24 #[.agg #[.int .i64 vars,.slice p F.length cap],av] w fun e w'=>aEo vars F A w e w':=by
 have HF:=hid hf
 have HA:=hid ha
 have HR:=hid hr
 obtain ⟨ap,ac,rfl,halen⟩:=ha.shape
 have HE:=hid (show aGq vars F A=if fM vars F≠0 then fM vars F else if 400<A.length then 2 else iZ A vars from rfl)
 clear hf ha hr
 go_enter Tryz.func24,Tryz.ntmps24
 go_wp2_with fail
 refine aU (fun W'=>aA w W'/\aD w.heap.size 34 #[.int .i64 vars,.slice p F.length cap] W') ⟨aA.alloc _ _,aD.new _ _ _⟩ ?_
 rintro W0 ⟨k0,b0⟩
 refine (mI S vars F p cap W0 (fun b hb=>Nat.lt_of_lt_of_le (hS b hb) k0.size) (HF.out.keep hS k0)).mono ?_
 rintro e w1 ⟨rfl,hw1⟩
 have k1:aA W0 w1:=by rw [hw1];exact aA.alloc _ _
 clear hw1
 have K1:=hid (k0.trans k1)
 have B1:=hid (b0.keep k1 b0.facts.2.2)
 clear k0 b0 k1
 obtain ⟨hcb,-,hlb⟩:=B1.out.facts
 have hc0:w1.cell? ⟨w.heap.size,0,none⟩=some (.int .i64 vars):=hcb 0
 have hc1:w1.cell? ⟨w.heap.size,1,none⟩=some (.slice p F.length cap):=hcb 1
 have HZ:=hid (fun h:fM vars F=0=>sI h)
 generalize fM vars F=r at HE HZ ⊢
 clear hcb
 by_cases hr:r=0
 ·subst hr
  have HE2:=hid (HE.out.trans (if_neg (by simp)))
  by_cases hl:400<A.length
  ·have hl':(400:Int)<A.length:=by omega
   have HE3:=hid (HE2.out.trans (if_pos hl))
   go_wp2_with fail
   refine bodyPost_ret (v:= .tuple #[.slice none 0 0,.bool false,.int .i64 2]) ?_ rfl ?_
   ·simp [results,Tryz.results24,go_sem]
   ·exact ⟨K1.out,.inl ⟨by rw [HE3.out];decide,by rw [HE3.out]⟩⟩
  ·have hl' : ¬ (400:Int)<A.length:=by omega
   have HE3:=hid (HE2.out.trans (if_neg hl))
   go_wp2_with fail
   refine (iP S A _ vars w1 (fun b hb=>Nat.lt_of_lt_of_le (hS b hb) K1.out.size) (HA.out.keep hS K1.out) HR.out).mono ?_
   rintro e w2 ⟨rfl,hw2⟩
   rw [hw2]
   clear hw2
   have HLZ:=hid (fun (n:Nat) (hv:vars=n) (h:iZ A vars=0)=>mT.1 (hv ▸ h:iZ A n=0))
   generalize iZ A vars=r2 at HE3 HLZ ⊢
   by_cases hr2:r2=0
   ·subst hr2
    obtain ⟨n,hvn,hn4,hFl,hcl⟩:=HZ.out (by trivial)
    have hal:=HLZ.out n hvn (by trivial)
    subst hvn
    have HAL:=hid hal
    have HCL:=hid hcl
    have HSW1:=hid (fun b (hb:S b)=>Nat.lt_of_lt_of_le (hS b hb) K1.out.size)
    clear hal hcl
    go_wp2_with fail
    refine (aLv n w1 (by omega)).mono ?_
    rintro e w2 ⟨x,B,rfl,hxn,hxf,k2,hlow⟩
    subst hxn
    have XF2:=hid hxf
    have K2:=hid (K1.out.trans k2)
    have B2:=hid (B1.out.keep k2 B1.out.facts.2.2)
    have HLOW:=hid hlow
    have HSZ2:=hid k2.size
    obtain ⟨hcb,-,hlb2⟩:=B2.out.facts
    have hd1:w2.cell? ⟨w.heap.size,1,none⟩=some (.slice p F.length cap):=hcb 1
    clear hxf k2 hc0 hc1 hcb hlow
    have HADD:=hid (aKz x B S _ [] F (.slice p F.length cap) w2 XF2.out (by omega) (HF.out.keep hS K2.out).row (fun b hb=>⟨Nat.lt_of_lt_of_le (HSW1.out b hb) HSZ2.out,fun e=>by have:=HLOW.out b e;have:=HSW1.out b hb;omega⟩) (by simp) HCL.out (by simp;omega))
    go_wp2_with fail
    refine HADD.out.mono ?_
    rintro e w3 ⟨rfl,fl,av,rv,cv,C,W,K',hx3,ht3⟩
    have XF3:=hid hx3
    obtain ⟨hb3,hl3⟩:=ht3.under HSZ2.out HLOW.out
    have B3:=hid hb3
    have HL3:=hid hl3
    have K3:=hid (show aA w w3 from Below.trans K2.out (Below.mono B3.out K1.out.size))
    clear hx3 ht3 hb3 hl3 hd1 HADD
    have HFR:=hid (show Calls Tryz.prog 69 #[.pointer (some ⟨x.bx,0,none⟩),.slice ap A.length ac] w3 _ from aHk (x.next fl av rv cv C W) B S K' ([]++F) A (.slice ap A.length ac) w3 XF3.out (by show x.n<=1000;omega) (HA.out.keep hS K3.out) (fun b hb=>⟨Nat.lt_of_lt_of_le (HSW1.out b hb) (Nat.le_trans HSZ2.out B3.out.size),fun e=>by have:=HL3.out b e;have:=HSW1.out b hb;omega⟩) (fun c hc=>(HCL.out c (by simpa using hc)).2) (by simp;omega) HAL.out)
    go_wp2_with fail
    refine HFR.out.mono ?_
    rintro e w4 ⟨C4,rv4,W4,hx4,ht4,hd⟩
    obtain ⟨hb4,-⟩:=ht4.under (Nat.le_trans HSZ2.out B3.out.size) HL3.out
    have K4:=hid (show aA w w4 from Below.trans K3.out (Below.mono hb4 K1.out.size))
    have HSZ:=hid K3.out.size
    have HD:=hid (show (∃ v K L,e=.returned (.tuple #[v,.bool true])/\uA x.n F A K L/\(∀ y,y∈L↔Der F A y)/\¬ cB F A/\aK (fun b=>w3.heap.size<=b/\b<w4.heap.size) w4 (bW K) v)∨(e=.returned (.tuple #[.slice none 0 0,.bool false])/\cB F A) from by
     rcases hd with ⟨v,K2,L,h1,h2,h3,h4,h5⟩ | h
     ·exact .inl ⟨v,K2,L,h1,h2,h3,h4,h5.mono (fun _ _=>rfl) fun b hb=>⟨hb.1,hb.2.1⟩⟩
     ·exact .inr h)
    clear hd hx4 ht4 hb4 HFR
    rcases HD.out with ⟨v,K,L,rfl,h1,h2,h3,h4⟩ | ⟨rfl,h1⟩
    ·have H:=hid (And.intro h1 (And.intro h2 (And.intro h3 h4)))
     clear h1 h2 h3 h4
     go_wp2_with fail
     refine bodyPost_ret (v:= .tuple #[v,.bool true,.int .i64 0]) ?_ rfl ?_
     ·simp [results,Tryz.results24,go_sem]
     ·exact ⟨K4.out,.inr ⟨HE3.out,x.n,rfl,.inl ⟨v,K,L,rfl,H.out.1,H.out.2.1,H.out.2.2.1,H.out.2.2.2.mono (fun _ _=>rfl) fun b hb=>⟨Nat.le_trans HSZ.out hb.1,hb.2⟩⟩⟩⟩
    ·have H:=hid h1
     clear h1
     go_wp2_with fail
     refine bodyPost_ret (v:= .tuple #[.slice none 0 0,.bool false,.int .i64 0]) ?_ rfl ?_
     ·simp [results,Tryz.results24,go_sem]
     ·exact ⟨K4.out,.inr ⟨HE3.out,x.n,rfl,.inr ⟨rfl,H.out⟩⟩⟩
   ·have hr':(r2 != 0)=true:=by simp [hr2]
    have hr2':=hid hr2
    clear hr2
    go_wp2_with fail
    refine bodyPost_ret (v:= .tuple #[.slice none 0 0,.bool false,.int .i64 r2]) ?_ rfl ?_
    ·simp [results,Tryz.results24,go_sem]
    ·exact ⟨K1.out,.inl ⟨by rw [HE3.out];exact hr2'.out,by rw [HE3.out]⟩⟩
 ·have hr':(r != 0)=true:=by simp [hr]
  have HE2:=hid (HE.out.trans (if_pos hr))
  have hrr:=hid hr
  clear hr
  go_wp2_with fail
  refine bodyPost_ret (v:= .tuple #[.slice none 0 0,.bool false,.int .i64 r]) ?_ rfl ?_
  ·simp [results,Tryz.results24,go_sem]
  ·exact ⟨K1.out,.inl ⟨by rw [HE2.out];exact hrr.out,by rw [HE2.out]⟩⟩
end Go.Proofs.YthhhicgjiilgmaaGreatDoor.Cn
namespace Go.Proofs.YthhhicgjiilgmaaGreatDoor.Cn
def Kn (F:List (List Int)) (A:List Int) (k:Nat):Prop:=Der F A k∨Der F A (-(k:Int))
open Classical in
noncomputable def rE (n:Nat) (F:List (List Int)) (A:List Int):Option Nat:=(List.range' 1 n).find? fun k=>decide (¬ Kn F A k)
open Classical in
noncomputable def aAm (n:Nat) (F:List (List Int)) (A:List Int):List Bool:=(List.range' 1 n).map fun k=>decide (Der F A (k:Nat))
open Classical in
theorem pC {n:Nat} {F:List (List Int)} {A:List Int} (h:rE n F A=none) : ∀ k,1<=k->k<=n->Kn F A k:=by
 intro k h1 h2
 have:=(List.find?_eq_none.1 h) k (List.mem_range'_1.2 ⟨h1,by omega⟩)
 simpa using this
theorem aEw {n:Nat} {F:List (List Int)} {A:List Int} {k:Nat} (h:rE n F A=some k):1<=k/\k<=n/\¬ Kn F A k/\∀ j,1<=j->j<k->Kn F A j:=by
 unfold rE at h
 have h1:=List.find?_some h
 have h2:=List.mem_range'_1.1 (List.mem_of_find?_eq_some h)
 refine ⟨h2.1,by omega,by simpa using h1,fun j hj1 hj2=> ?_⟩
 obtain ⟨-,pa,pb,e,hno⟩:=List.find?_eq_some_iff_append.1 h
 have hjm:j∈pa:=by
  have hk:(List.range' 1 n)[pa.length]? = some k:=by rw [e];simp
  have hkk:pa.length=k-1:=by
   obtain ⟨hl,he⟩:=List.getElem?_eq_some_iff.1 hk
   rw [List.getElem_range'] at he
   omega
  have hj:(List.range' 1 n)[j-1]? = some j:=by
   rw [List.getElem?_range' (by omega)]
   congr 1;omega
  rw [e,List.getElem?_append_left (by omega)] at hj
  exact List.mem_of_getElem? hj
 have:=hno j hjm
 simpa using this
theorem xZ {n:Nat} {F:List (List Int)} {A:List Int} (h : ∀ k,1<=k->k<=n->Kn F A k):rE n F A=none:=by
 cases e:rE n F A with
 | none=>rfl
 | some j=>
  obtain ⟨a,b,c,-⟩:=aEw e
  exact absurd (h j a b) c
theorem pX (n:Nat) (F:List (List Int)) (A:List Int):(aAm n F A).length=n:=by simp [aAm]
open Classical in
theorem sV {n:Nat} {F:List (List Int)} {A:List Int} {j:Nat} (h:j<n):(aAm n F A).getD j false=decide (Der F A ((j+1:Nat):Int)):=by
 unfold aAm
 rw [List.getD_eq_getElem?_getD,List.getElem?_map,List.getElem?_range' h]
 simp only [Option.map_some,Option.getD_some]
 congr 3;omega
def Mod (n:Nat) (F:List (List Int)) (m:List Bool):Prop:=m.length=n/\∀ c∈F,∃ x∈c,inM m x=true
def aNt (A:List Int) (m:List Bool):Prop:= ∀ x∈A,inM m x=true
theorem xU {m o:List Bool} (hl:m.length=o.length) (h : ∀ i<m.length,m.getD i false=o.getD i false):m=o:=by
 refine List.ext_getElem hl fun i h1 h2=> ?_
 have:=h i h1
 rwa [List.getD_eq_getElem?_getD,List.getD_eq_getElem?_getD,List.getElem?_eq_getElem h1,List.getElem?_eq_getElem h2,Option.getD_some,Option.getD_some] at this
theorem mC {m:List Bool} {k:Nat} (h:1<=k):inM m (k:Int)=m.getD (k-1) false:=by
 unfold inM
 have h1:decide ((0:Int)<k)=true:=by simp;omega
 rw [h1];simp
theorem rP {m:List Bool} {k:Nat} (h:1<=k):inM m (-(k:Int)) = !m.getD (k-1) false:=by
 rw [dW m (by omega),mC h]
theorem aHu {n:Nat} {F:List (List Int)} {A:List Int} (hF : ∀ c∈F,aS n c) (hA:aS n A) (hf : ¬ cB F A) (hl:rE n F A=none):Mod n F (aAm n F A)/\aNt A (aAm n F A):=by
 have hall:=pC hl
 have hder : ∀ x,Lit n x->Der F A x->inM (aAm n F A) x=true:=by
  intro x hx hd
  obtain ⟨h0,hn⟩:=hx
  rcases Int.lt_or_gt_of_ne h0 with h | h
  ·obtain ⟨k,rfl⟩ : ∃ k:Nat,x = -(k:Int):=⟨x.natAbs,by omega⟩
   rw [rP (by omega),sV (by omega)]
   have:((k-1+1:Nat):Int)=k:=by omega
   rw [this]
   have hno : ¬ Der F A (k:Int):=fun h'=>hf (.inl ⟨_,h',hd⟩)
   simp [hno]
  ·obtain ⟨k,rfl⟩ : ∃ k:Nat,x=(k:Int):=⟨x.natAbs,by omega⟩
   rw [mC (by omega),sV (by omega)]
   have:((k-1+1:Nat):Int)=k:=by omega
   rw [this]
   simp [hd]
 refine ⟨⟨pX _ _ _,fun c hc=> ?_⟩,fun x hx=>hder x (hA x hx) (.told hx)⟩
 refine Classical.byContradiction fun hno=>hf (.inr ⟨c,hc,fun y hy=> ?_⟩)
 have hy':=hF c hc y hy
 rcases hall y.natAbs (by have:=hy'.1;omega) hy'.2 with h | h
 ·rcases Int.lt_or_gt_of_ne hy'.1 with h0 | h0
  ·rwa [show -y=(y.natAbs:Int) by omega]
  ·exact absurd ⟨y,hy,hder y hy' (by rwa [show y=(y.natAbs:Int) by omega])⟩ hno
 ·rcases Int.lt_or_gt_of_ne hy'.1 with h0 | h0
  ·exact absurd ⟨y,hy,hder y hy' (by rwa [show y = -(y.natAbs:Int) by omega])⟩ hno
  ·rwa [show -y = -(y.natAbs:Int) by omega]
end Go.Proofs.YthhhicgjiilgmaaGreatDoor.Cn
namespace Go.Proofs.YthhhicgjiilgmaaGreatDoor.Cn
def chL (m:List Bool):List Int:=(List.range m.length).map fun (v:Nat)=>if m.getD v false then (v:Int)+1 else -(v:Int)-1
theorem dH (m:List Bool):(chL m).length=m.length:=by simp [chL]
theorem hY (m:List Bool):aS m.length (chL m):=by
 intro x hx
 obtain ⟨v,hv,rfl⟩:=List.mem_map.1 hx
 have:=List.mem_range.1 hv
 unfold Lit
 split<;>omega
theorem iV {m:List Bool} {v:Nat} (hv:v<m.length):(chL m)[v]? = some (if m.getD v false then (v:Int)+1 else -(v:Int)-1):=by
 unfold chL
 rw [List.getElem?_map,List.getElem?_range hv]
 rfl
theorem aHz {m:List Bool} {v:Nat} (hv:v<m.length):chL (m.set v !(m.getD v false))=(chL m).set v (-((chL m).getD v 0)):=by
 refine List.ext_getElem? fun w=> ?_
 by_cases hw:w<m.length
 ·rw [iV (by simpa using hw)]
  by_cases e:v=w
  ·subst e
   rw [List.getElem?_set_self (by rw [dH];exact hv),List.getD_eq_getElem?_getD (l:=chL m),iV hv]
   have h1:(m.set v !(m.getD v false)).getD v false = !(m.getD v false):=by simp [List.getD_eq_getElem?_getD,hv]
   rw [h1]
   cases m.getD v false<;>simp<;>omega
  ·rw [List.getElem?_set_ne e,iV hw]
   have h1:(m.set v !(m.getD v false)).getD w false=m.getD w false:=by simp [List.getD_eq_getElem?_getD,List.getElem?_set_ne e]
   rw [h1]
 ·rw [List.getElem?_eq_none (by rw [dH,List.length_set];omega),List.getElem?_eq_none (by rw [List.length_set,dH];omega)]
def aHf (n c:Nat) (F:List (List Int)) (may:List Bool->Bool):Prop:= ∀ m:List Bool,m.length=c->(may m=true->¬ cB F (chL m)/\rE n F (chL m)=none)/\(may m=false->cB F (chL m))
def aBs (k:Nat) (b:Bool):Int:=if b then (k:Int) else -(k:Int)
structure kG (n:Nat) (F:List (List Int)) (A:List Int) (val:List Bool):Prop where
 len:val.length=n
 der : ∀ k,1<=k->k<=n->Der F A (aBs k (val.getD (k-1) false))
theorem kG.more {n:Nat} {F F':List (List Int)} {A:List Int} {val:List Bool} (h:kG n F A val) (hF : ∀ c∈F,c∈F'):kG n F' A val:=⟨h.len,fun k h1 h2=>(h.der k h1 h2).more hF fun _ h=> .told h⟩
theorem kG.lit {n:Nat} {F:List (List Int)} {A:List Int} {val:List Bool} (h:kG n F A val) {x:Int} (hx:Lit n x):(inM val x=true->Der F A x)/\(inM val x=false->Der F A (-x)):=by
 obtain ⟨h0,hn⟩:=hx
 rcases Int.lt_or_gt_of_ne h0 with hs | hs
 ·obtain ⟨k,rfl⟩ : ∃ k:Nat,x = -(k:Int):=⟨x.natAbs,by omega⟩
  have hd:=h.der k (by omega) (by omega)
  rw [rP (by omega)]
  unfold aBs at hd
  cases hv:val.getD (k-1) false with
  | true=>rw [hv] at hd;exact ⟨fun e=>(by cases e),fun _=>by rw [Int.neg_neg];simpa using hd⟩
  | false=>rw [hv] at hd;exact ⟨fun _=>by simpa using hd,fun e=>by cases e⟩
 ·obtain ⟨k,rfl⟩ : ∃ k:Nat,x=(k:Int):=⟨x.natAbs,by omega⟩
  have hd:=h.der k (by omega) (by omega)
  rw [mC (by omega)]
  unfold aBs at hd
  cases hv:val.getD (k-1) false with
  | true=>rw [hv] at hd;exact ⟨fun _=>by simpa using hd,fun e=>by cases e⟩
  | false=>rw [hv] at hd;exact ⟨fun e=>(by cases e),fun _=>by simpa using hd⟩
theorem kG.start (F:List (List Int)) (m:List Bool):kG m.length F (chL m) m:=⟨rfl,fun k h1 h2=> .told (by
 have:=List.mem_of_getElem? (iV (m:=m) (v:=k-1) (by omega))
 unfold aBs
 cases hv:m.getD (k-1) false with
 | true=>rw [hv] at this;simp only [if_true] at this ⊢;rwa [show ((k-1:Nat):Int)+1=(k:Int) by omega] at this
 | false=>rw [hv] at this;simp only [Bool.false_eq_true,if_false] at this ⊢;rwa [show -((k-1:Nat):Int)-1 = -(k:Int) by omega] at this)⟩
theorem kG.push {n:Nat} {F:List (List Int)} {A:List Int} {val:List Bool} (h:kG n F A val) {b:Bool} (hd:Der F A (aBs (n+1) b)):kG (n+1) F A (val ++ [b]):=by
 refine ⟨by simp [h.len],fun k h1 h2=> ?_⟩
 by_cases hk:k<=n
 ·have:=h.der k h1 hk
  rwa [show (val ++ [b]).getD (k-1) false=val.getD (k-1) false by rw [List.getD_eq_getElem?_getD,List.getElem?_append_left (by rw [h.len];omega),← List.getD_eq_getElem?_getD]]
 ·obtain rfl:k=n+1:=by omega
  rwa [show (val ++ [b]).getD (n+1-1) false=b by rw [Nat.add_sub_cancel,← h.len];simp [List.getD_eq_getElem?_getD]]
theorem kG.or {n:Nat} {F:List (List Int)} {A:List Int} {val:List Bool} {l:List Int} (h:kG n F A val) (hl:aS n l) (hlong : ∃ c∈F,∀ y,y∈c↔y = -((n:Int)+1)∨y∈l) (hshort : ∀ x∈l,∃ c∈F,∀ y,y∈c↔y=(n:Int)+1∨y = -x):kG (n+1) F A (val ++ [l.any (inM val)]):=by
 refine h.push ?_
 unfold aBs
 cases ha:l.any (inM val) with
 | true=>
  obtain ⟨x,hx,hxm⟩:=List.any_eq_true.1 ha
  obtain ⟨c,hc,hcy⟩:=hshort x hx
  have hd:=(h.lit (hl x hx)).1 hxm
  simp only [if_true]
  rw [show ((n+1:Nat):Int)=(n:Int)+1 by omega]
  refine .unit hc ((hcy _).2 (.inl rfl)) fun y hy hne=> ?_
  have:=((hcy y).1 hy).resolve_left hne
  rw [this,Int.neg_neg];exact hd
 | false=>
  have hall:=List.any_eq_false.1 ha
  obtain ⟨c,hc,hcy⟩:=hlong
  simp only [Bool.false_eq_true,if_false]
  rw [show -((n+1:Nat):Int) = -((n:Int)+1) by omega]
  refine .unit hc ((hcy _).2 (.inl rfl)) fun y hy hne=> ?_
  have hyl:=((hcy y).1 hy).resolve_left hne
  exact (h.lit (hl y hyl)).2 (by simpa using hall y hyl)
theorem kG.done {n:Nat} {F:List (List Int)} {A:List Int} {val:List Bool} (h:kG n F A val) (hF : ∀ c∈F,aS n c) (hA:aS n A) (hAv : ∀ x∈A,inM val x=true) (hM : ∀ c∈F,∃ x∈c,inM val x=true) : ¬ cB F A/\rE n F A=none:=by
 refine ⟨aCz hF hA hM hAv,xZ fun k h1 h2=> ?_⟩
 have:=h.der k h1 h2
 unfold aBs at this
 split at this
 ·exact .inl this
 ·exact .inr this
theorem kG.bad {n:Nat} {F:List (List Int)} {A:List Int} {val:List Bool} (h:kG n F A val) {c:List Int} (hc:c∈F) (hl:aS n c) (hno : ∀ x∈c,inM val x=false):cB F A:=
 .inr ⟨c,hc,fun y hy=>(h.lit (hl y hy)).2 (hno y hy)⟩
theorem aMm {m val:List Bool} (hv : ∀ v<m.length,val.getD v false=m.getD v false) : ∀ x∈chL m,inM val x=true:=by
 intro x hx
 obtain ⟨v,hv',rfl⟩:=List.mem_map.1 hx
 have hv':=List.mem_range.1 hv'
 have e:=hv v hv'
 cases hm:m.getD v false with
 | true=>
  simp only [if_true]
  rw [show (v:Int)+1=((v+1:Nat):Int) by omega,mC (by omega),Nat.add_sub_cancel,e,hm]
 | false=>
  simp only [Bool.false_eq_true,if_false]
  rw [show -(v:Int)-1 = -((v+1:Nat):Int) by omega,rP (by omega),Nat.add_sub_cancel,e,hm];rfl
structure DS where
 n:Nat
 cl:List (List Int)
 pr:Int->Int->Int
def DS.clause (s:DS) (l:List Int):DS:=⟨s.n,s.cl ++ [l],s.pr⟩
def DS.someS (s:DS) (l:List Int):DS:=if l.length=1 then s else ⟨s.n+1,s.cl++l.map (fun x=> [(s.n:Int)+1,-x]) ++ [-((s.n:Int)+1) :: l],s.pr⟩
def DS.someL (s:DS) (l:List Int):Int:=if l.length=1 then l.getD 0 0 else (s.n:Int)+1
def DS.allS (s:DS) (l:List Int):DS:=s.someS (l.map fun x=> -x)
def DS.allL (s:DS) (l:List Int):Int:= -s.someL (l.map fun x=> -x)
def eX (f:Int->Int->Int) (a b x:Int):Int->Int->Int:=fun p q=>if p=a/\q=b then x else f p q
def DS.bothS (s:DS) (a b:Int):DS:=if s.pr a b=0 then ⟨(s.allS [a,b]).n,(s.allS [a,b]).cl,eX s.pr a b (s.allL [a,b])⟩ else s
def DS.bothL (s:DS) (a b:Int):Int:=if s.pr a b=0 then s.allL [a,b] else s.pr a b
def gE (but:Int) (nof:Bool) (tk fg:Int->Int) (x:DS × List Int) (z:Int):DS × List Int:=
 if z=but then x else if nof=true then (x.1,x.2 ++ [tk z]) else (x.1.bothS (tk z) (fg z),x.2 ++ [x.1.bothL (tk z) (fg z)])
def aBk (but:Int) (nof:Bool) (tk fg:Int->Int) (m:List Bool) (zs:List Int):Bool:=zs.any fun z=>decide (z≠but)&&inM m (tk z)&&(nof||inM m (fg z))
structure Sem (c:Nat) (K:List (Int × Int)) (s:DS) (V:List Bool->List Bool) (P:List Bool->Bool) (v q:Nat):Prop where
 le:c<=s.n
 pre : ∀ m,m.length=c->∀ j<c,(V m).getD j false=m.getD j false
 der : ∀ m,m.length=c->kG s.n s.cl (chL m) (V m)
 lits : ∀ x∈s.cl,aS s.n x/\x.length<=60
 may : ∀ m,m.length=c->((∀ x∈s.cl,∃ y∈x,inM (V m) y=true)↔P m=true)
 prs : ∃ ks:List (Int × Int),ks.Nodup/\(∀ k∈ks,k∈K)/\(∀ a b,s.pr a b≠0↔(a,b)∈ks)/\s.n<=v+ks.length/\s.cl.length<=q+3*ks.length
 pv : ∀ a b,s.pr a b≠0->Lit s.n (s.pr a b)/\Lit s.n a/\Lit s.n b/\∀ m,m.length=c->inM (V m) (s.pr a b)=(inM (V m) a&&inM (V m) b)
structure Gr (c:Nat) (s s':DS) (V V':List Bool->List Bool):Prop where
 n:s.n<=s'.n
 v : ∀ m,m.length=c->∀ x,Lit s.n x->inM (V' m) x=inM (V m) x
theorem Gr.refl (c:Nat) (s:DS) (V:List Bool->List Bool):Gr c s s V V:=⟨Nat.le_refl _,fun _ _ _ _=>rfl⟩
theorem Lit.le {n n':Nat} {x:Int} (h:Lit n x) (hn:n<=n'):Lit n' x:=⟨h.1,Nat.le_trans h.2 hn⟩
theorem aS.le {n n':Nat} {l:List Int} (h:aS n l) (hn:n<=n'):aS n' l:=fun x hx=>(h x hx).le hn
theorem Gr.trans {c:Nat} {s s' s'':DS} {V V' V'':List Bool->List Bool} (h:Gr c s s' V V') (h':Gr c s' s'' V' V''):Gr c s s'' V V'':=
 ⟨Nat.le_trans h.n h'.n,fun m hm x hx=>(h'.v m hm x (hx.le h.n)).trans (h.v m hm x hx)⟩
theorem Gr.any {c:Nat} {s s':DS} {V V':List Bool->List Bool} (h:Gr c s s' V V') {l:List Int} (hl:aS s.n l) {m:List Bool} (hm:m.length=c):l.any (inM (V' m))=l.any (inM (V m)):=by
 induction l with
 | nil=>rfl
 | cons x l ih=>rw [List.any_cons,List.any_cons,h.v m hm x (hl x List.mem_cons_self),ih fun y hy=>hl y (List.mem_cons_of_mem _ hy)]
theorem aEa {m m':List Bool} {n:Nat} (h : ∀ j<n,m'.getD j false=m.getD j false) {x:Int} (hx:Lit n x):inM m' x=inM m x:=by
 unfold inM
 obtain ⟨h0,hn⟩:=hx
 rw [h _ (by omega)]
theorem Sem.ch {c:Nat} {K:List (Int × Int)} {s:DS} {V:List Bool->List Bool} {P:List Bool->Bool} {v q:Nat} (h:Sem c K s V P v q) {m:List Bool} (hm:m.length=c) {x:Int} (hx:Lit c x):inM (V m) x=inM m x:=aEa (h.pre m hm) hx
theorem Sem.mono {c:Nat} {K:List (Int × Int)} {s:DS} {V:List Bool->List Bool} {P:List Bool->Bool} {v q v' q':Nat} (h:Sem c K s V P v q) (hv:v<=v') (hq:q<=q'):Sem c K s V P v' q':=by
 obtain ⟨ks,h1,h2,h3,h4,h5⟩:=h.prs
 exact ⟨h.le,h.pre,h.der,h.lits,h.may,⟨ks,h1,h2,h3,by omega,by omega⟩,h.pv⟩
theorem aKu {m:List Bool} {b:Bool} {n:Nat} (hl:m.length=n) {x:Int} (hx:Lit n x):inM (m ++ [b]) x=inM m x:=aEa (n:=n) (fun j hj=>by
 rw [List.getD_eq_getElem?_getD,List.getElem?_append_left (by omega),← List.getD_eq_getElem?_getD]) hx
theorem tK {m:List Bool} {b:Bool} {n:Nat} (hl:m.length=n):inM (m ++ [b]) ((n:Int)+1)=b:=by
 rw [show (n:Int)+1=((n+1:Nat):Int) by omega,mC (by omega),Nat.add_sub_cancel,← hl]
 simp [List.getD_eq_getElem?_getD]
theorem sC (n:Nat):Lit (n+1) ((n:Int)+1):=by unfold Lit;omega
theorem aGe (c:Nat) (K:List (Int × Int)):Sem c K ⟨c,[],fun _ _=>0⟩ id (fun _=>true) c 0:=
 ⟨Nat.le_refl _,fun _ _ _ _=>rfl,fun m hm=>by have:=kG.start [] m;rw [hm] at this;exact this,fun x hx=>by simp at hx,fun m _=>by simp,⟨[],by simp,by simp,by simp,by simp,by simp⟩,fun a b h=>absurd rfl h⟩
theorem kH {c:Nat} {K:List (Int × Int)} {s:DS} {V:List Bool->List Bool} {P:List Bool->Bool} {v q:Nat} (h:Sem c K s V P v q) {l:List Int} (hl:aS s.n l) (h60:l.length<=60) {P':List Bool->Bool} (hP : ∀ m,m.length=c->P' m=(P m&&l.any (inM (V m)))):Sem c K (s.clause l) V P' v (q+1):=by
 obtain ⟨ks,h1,h2,h3,h4,h5⟩:=h.prs
 refine ⟨h.le,h.pre,fun m hm=>(h.der m hm).more fun x hx=>List.mem_append_left _ hx,fun x hx=> ?_,fun m hm=> ?_,⟨ks,h1,h2,h3,h4,by show (s.cl ++ [l]).length<=_;simp;omega⟩,h.pv⟩
 ·rcases List.mem_append.1 hx with hx | hx
  ·exact h.lits x hx
  ·rw [List.mem_singleton.1 hx];exact ⟨hl,h60⟩
 ·rw [hP m hm,Bool.and_eq_true,← h.may m hm,List.any_eq_true]
  constructor
  ·intro H
   exact ⟨fun x hx=>H x (List.mem_append_left _ hx),H l (List.mem_append_right _ List.mem_cons_self)⟩
  ·rintro ⟨H1,H2⟩ x hx
   rcases List.mem_append.1 hx with hx | hx
   ·exact H1 x hx
   ·rw [List.mem_singleton.1 hx];exact H2
theorem lG {c:Nat} {K:List (Int × Int)} {s:DS} {V:List Bool->List Bool} {P:List Bool->Bool} {v q:Nat} (h:Sem c K s V P v q) {l:List Int} (hl:aS s.n l) (h59:l.length<=59) :
  ∃ V',Sem c K (s.someS l) V' P (v+1) (q+l.length+1)/\Gr c s (s.someS l) V V'/\Lit (s.someS l).n (s.someL l)/\∀ m,m.length=c->inM (V' m) (s.someL l)=l.any (inM (V m)):=by
 by_cases h1:l.length=1
 ·obtain ⟨x,rfl⟩ : ∃ x,l = [x]:=List.length_eq_one_iff.1 h1
  have eS:s.someS [x]=s:=by simp [DS.someS]
  have eL:s.someL [x]=x:=by simp [DS.someL]
  rw [eS,eL]
  exact ⟨V,h.mono (by omega) (by omega),Gr.refl ..,hl x List.mem_cons_self,fun m _=>by simp⟩
 ·have eS:s.someS l=⟨s.n+1,s.cl++l.map (fun x=> [(s.n:Int)+1,-x]) ++ [-((s.n:Int)+1) :: l],s.pr⟩:=by simp [DS.someS,h1]
  have eL:s.someL l=(s.n:Int)+1:=by simp [DS.someL,h1]
  rw [eS,eL]
  have hlen : ∀ m,m.length=c->(V m).length=s.n:=fun m hm=>(h.der m hm).len
  have happ : ∀ m,m.length=c->∀ x,Lit s.n x->inM (V m ++ [l.any (inM (V m))]) x=inM (V m) x:=fun m hm x hx=>aKu (hlen m hm) hx
  refine ⟨fun m=>V m ++ [l.any (inM (V m))],⟨Nat.le_succ_of_le h.le,fun m hm j hj=> ?_,fun m hm=> ?_,fun x hx=> ?_,fun m hm=> ?_,?_,fun a b hab=> ?_⟩,⟨Nat.le_succ _,happ⟩,sC _,fun m hm=>tK (hlen m hm)⟩
  ·rw [← h.pre m hm j hj,List.getD_eq_getElem?_getD,List.getElem?_append_left (by rw [hlen m hm];have:=h.le;omega),← List.getD_eq_getElem?_getD]
  ·refine ((h.der m hm).more fun x hx=>List.mem_append_left _ (List.mem_append_left _ hx)).or hl ⟨_,List.mem_append_right _ List.mem_cons_self,fun y=>by simp⟩ fun x hx=>⟨[(s.n:Int)+1,-x],List.mem_append_left _ (List.mem_append_right _ (List.mem_map.2 ⟨x,hx,rfl⟩)),fun y=>by simp⟩
  ·rcases List.mem_append.1 hx with hx | hx
   ·rcases List.mem_append.1 hx with hx | hx
    ·exact ⟨(h.lits x hx).1.le (Nat.le_succ _),(h.lits x hx).2⟩
    ·obtain ⟨z,hz,rfl⟩:=List.mem_map.1 hx
     refine ⟨fun y hy=> ?_,by simp⟩
     rcases List.mem_cons.1 hy with rfl | hy
     ·exact sC _
     ·rw [List.mem_singleton.1 hy];exact ((hl z hz).le (Nat.le_succ _)).neg
   ·rw [List.mem_singleton.1 hx]
    refine ⟨fun y hy=> ?_,by simp;omega⟩
    rcases List.mem_cons.1 hy with rfl | hy
    ·exact (sC _).neg
    ·exact (hl y hy).le (Nat.le_succ _)
  ·rw [← h.may m hm]
   constructor
   ·intro H x hx
    obtain ⟨y,hy,e⟩:=H x (List.mem_append_left _ (List.mem_append_left _ hx))
    exact ⟨y,hy,by rw [← happ m hm y ((h.lits x hx).1 y hy)];exact e⟩
   ·intro H x hx
    rcases List.mem_append.1 hx with hx | hx
    ·rcases List.mem_append.1 hx with hx | hx
     ·obtain ⟨y,hy,e⟩:=H x hx
      exact ⟨y,hy,(happ m hm y ((h.lits x hx).1 y hy)).trans e⟩
     ·obtain ⟨z,hz,rfl⟩:=List.mem_map.1 hx
      cases hb:inM (V m) z with
      | true=>exact ⟨_,List.mem_cons_self,(tK (hlen m hm)).trans (List.any_eq_true.2 ⟨z,hz,hb⟩)⟩
      | false=>exact ⟨-z,by simp,by rw [happ m hm _ (hl z hz).neg,dW _ (hl z hz).1,hb];rfl⟩
    ·rw [List.mem_singleton.1 hx]
     cases hb:l.any (inM (V m)) with
     | true=>
      obtain ⟨z,hz,e⟩:=List.any_eq_true.1 hb
      exact ⟨z,List.mem_cons_of_mem _ hz,by have:=happ m hm z (hl z hz);rw [hb] at this;exact this.trans e⟩
     | false=>exact ⟨_,List.mem_cons_self,by rw [dW _ (by omega),tK (hlen m hm)];rfl⟩
  ·obtain ⟨ks,h1,h2,h3,h4,h5⟩:=h.prs
   exact ⟨ks,h1,h2,h3,by show s.n+1<=_;omega,by simp;omega⟩
  ·obtain ⟨g1,g2,g3,g4⟩:=h.pv a b hab
   exact ⟨g1.le (Nat.le_succ _),g2.le (Nat.le_succ _),g3.le (Nat.le_succ _),fun m hm=>by rw [happ m hm _ g1,happ m hm _ g2,happ m hm _ g3];exact g4 m hm⟩
theorem aEm {m:List Bool} : ∀ {l:List Int},(∀ x∈l,x≠0)->(l.map fun x=> -x).any (inM m) = !l.all (inM m)
 | [],_=>rfl
 | x :: l,h=>by
  rw [List.map_cons,List.any_cons,List.all_cons,aEm fun y hy=>h y (List.mem_cons_of_mem _ hy),dW _ (h x List.mem_cons_self),Bool.not_and]
theorem aKd {n:Nat} {l:List Int} (h:aS n l):aS n (l.map fun x=> -x):=fun x hx=>by
 obtain ⟨y,hy,rfl⟩:=List.mem_map.1 hx;exact (h y hy).neg
theorem aDo {c:Nat} {K:List (Int × Int)} {s:DS} {V:List Bool->List Bool} {P:List Bool->Bool} {v q:Nat} (h:Sem c K s V P v q) {l:List Int} (hl:aS s.n l) (h59:l.length<=59) :
  ∃ V',Sem c K (s.allS l) V' P (v+1) (q+l.length+1)/\Gr c s (s.allS l) V V'/\Lit (s.allS l).n (s.allL l)/\∀ m,m.length=c->inM (V' m) (s.allL l)=l.all (inM (V m)):=by
 obtain ⟨V',h1,h2,h3,h4⟩:=lG h (aKd hl) (by simpa using h59)
 rw [List.length_map] at h1
 refine ⟨V',h1,h2,h3.neg,fun m hm=> ?_⟩
 show inM (V' m) (-s.someL _)=_
 rw [dW _ h3.1,h4 m hm,aEm fun x hx=>(hl x hx).1,Bool.not_not]
theorem aHm {c:Nat} {K:List (Int × Int)} {s:DS} {V:List Bool->List Bool} {P:List Bool->Bool} {v q:Nat} (h:Sem c K s V P v q) {a b:Int} (ha:Lit s.n a) (hb:Lit s.n b) (hK:(a,b)∈K) :
  ∃ V',Sem c K (s.bothS a b) V' P v q/\Gr c s (s.bothS a b) V V'/\Lit (s.bothS a b).n (s.bothL a b)/\∀ m,m.length=c->inM (V' m) (s.bothL a b)=(inM (V m) a&&inM (V m) b):=by
 by_cases h0:s.pr a b=0
 ·have hl:aS s.n [a,b]:=fun x hx=>by
   rcases List.mem_cons.1 hx with rfl | hx
   ·exact ha
   ·rw [List.mem_singleton.1 hx];exact hb
  obtain ⟨V',h1,h2,h3,h4⟩:=aDo h hl (by simp)
  have e4 : ∀ m,m.length=c->inM (V' m) (s.allL [a,b])=(inM (V m) a&&inM (V m) b):=fun m hm=>by rw [h4 m hm];simp
  have eS:s.bothS a b=⟨(s.allS [a,b]).n,(s.allS [a,b]).cl,eX s.pr a b (s.allL [a,b])⟩:=by simp [DS.bothS,h0]
  have eL:s.bothL a b=s.allL [a,b]:=by simp [DS.bothL,h0]
  have epr:(s.allS [a,b]).pr=s.pr:=by simp [DS.allS,DS.someS]
  rw [eS,eL]
  obtain ⟨ks,g1,g2,g3,g4,g5⟩:=h1.prs
  rw [epr] at g3
  have hnot:(a,b) ∉ ks:=fun hin=>(g3 a b).2 hin h0
  refine ⟨V',⟨h1.le,h1.pre,h1.der,h1.lits,h1.may,⟨(a,b) :: ks,List.nodup_cons.2 ⟨hnot,g1⟩,fun k hk=> ?_,fun p r=> ?_,by simp only [List.length_cons] at *;omega,by simp only [List.length_cons,List.length_nil] at *;omega⟩,fun p r hpr=> ?_⟩,⟨h2.n,h2.v⟩,h3,e4⟩
  ·rcases List.mem_cons.1 hk with rfl | hk
   ·exact hK
   ·exact g2 k hk
  ·show eX s.pr a b (s.allL [a,b]) p r≠0↔_
   unfold eX
   rw [List.mem_cons,Prod.mk.injEq]
   by_cases e:p=a/\r=b
   ·rw [if_pos e];exact ⟨fun _=> .inl e,fun _=>h3.1⟩
   ·rw [if_neg e,g3 p r];exact ⟨.inr,fun hh=>hh.resolve_left e⟩
  ·show Lit _ (eX s.pr a b (s.allL [a,b]) p r)/\_/\_/\∀ m,_->inM (V' m) (eX s.pr a b (s.allL [a,b]) p r)=_
   have hpr:eX s.pr a b (s.allL [a,b]) p r≠0:=hpr
   unfold eX at hpr ⊢
   by_cases e:p=a/\r=b
   ·rw [if_pos e]
    obtain ⟨rfl,rfl⟩:=e
    exact ⟨h3,ha.le h2.n,hb.le h2.n,fun m hm=>by rw [e4 m hm,h2.v m hm _ ha,h2.v m hm _ hb]⟩
   ·rw [if_neg e] at hpr ⊢
    have:=h1.pv p r (by rw [epr];exact hpr)
    rw [epr] at this
    exact this
 ·have eS:s.bothS a b=s:=by simp [DS.bothS,h0]
  have eL:s.bothL a b=s.pr a b:=by simp [DS.bothL,h0]
  rw [eS,eL]
  obtain ⟨g1,-,-,g4⟩:=h.pv a b h0
  exact ⟨V,h,Gr.refl ..,g1,g4⟩
theorem qU {c:Nat} {K:List (Int × Int)} {P:List Bool->Bool} {v q:Nat} {but:Int} {nof:Bool} {tk fg:Int->Int} : ∀ {zs:List Int} {s:DS} {acc:List Int} {V:List Bool->List Bool},Sem c K s V P v q->aS s.n acc->(∀ z∈zs,Lit c (tk z)/\(nof=false->Lit c (fg z)/\(tk z,fg z)∈K))->
  ∃ V',Sem c K (zs.foldl (gE but nof tk fg) (s,acc)).1 V' P v q/\Gr c s (zs.foldl (gE but nof tk fg) (s,acc)).1 V V'/\aS (zs.foldl (gE but nof tk fg) (s,acc)).1.n (zs.foldl (gE but nof tk fg) (s,acc)).2/\(zs.foldl (gE but nof tk fg) (s,acc)).2.length<=acc.length+zs.length/\
   ∀ m,m.length=c->(zs.foldl (gE but nof tk fg) (s,acc)).2.any (inM (V' m))=(acc.any (inM (V m))||aBk but nof tk fg m zs)
 | [],s,acc,V,h,hacc,_=>⟨V,h,Gr.refl ..,hacc,by simp,fun m _=>by simp [aBk]⟩
 | z :: zs,s,acc,V,h,hacc,hz=>by
  have hz' : ∀ y∈zs,Lit c (tk y)/\(nof=false->Lit c (fg y)/\(tk y,fg y)∈K):=fun y hy=>hz y (List.mem_cons_of_mem _ hy)
  obtain ⟨k1,k2⟩:=hz z List.mem_cons_self
  rw [List.foldl_cons]
  have hB : ∀ m,aBk but nof tk fg m (z :: zs)=((decide (z≠but)&&inM m (tk z)&&(nof||inM m (fg z)))||aBk but nof tk fg m zs):=fun m=>by unfold aBk;rw [List.any_cons]
  by_cases e:z=but
  ·have eF:gE but nof tk fg (s,acc) z=(s,acc):=by simp [gE,e]
   rw [eF]
   obtain ⟨V',i1,i2,i3,i4,i5⟩:=qU h hacc hz'
   refine ⟨V',i1,i2,i3,by simp;omega,fun m hm=> ?_⟩
   rw [i5 m hm,hB]
   simp [e]
  ·by_cases en:nof=true
   ·have eF:gE but nof tk fg (s,acc) z=(s,acc ++ [tk z]):=by simp [gE,e,en]
    rw [eF]
    have hacc':aS s.n (acc ++ [tk z]):=fun x hx=>by
     rcases List.mem_append.1 hx with hx | hx
     ·exact hacc x hx
     ·rw [List.mem_singleton.1 hx];exact k1.le h.le
    obtain ⟨V',i1,i2,i3,i4,i5⟩:=qU h hacc' hz'
    refine ⟨V',i1,i2,i3,by simp at i4 ⊢;omega,fun m hm=> ?_⟩
    rw [i5 m hm,hB,List.any_append,List.any_cons,List.any_nil,h.ch hm k1]
    simp [e,en,Bool.or_assoc]
   ·have en:nof=false:=by simpa using en
    obtain ⟨k3,k4⟩:=k2 en
    have eF:gE but nof tk fg (s,acc) z=(s.bothS (tk z) (fg z),acc ++ [s.bothL (tk z) (fg z)]):=by simp [gE,e,en]
    rw [eF]
    obtain ⟨V1,j1,j2,j3,j4⟩:=aHm h (k1.le h.le) (k3.le h.le) k4
    have hacc':aS (s.bothS (tk z) (fg z)).n (acc ++ [s.bothL (tk z) (fg z)]):=fun x hx=>by
     rcases List.mem_append.1 hx with hx | hx
     ·exact (hacc x hx).le j2.n
     ·rw [List.mem_singleton.1 hx];exact j3
    obtain ⟨V',i1,i2,i3,i4,i5⟩:=qU j1 hacc' hz'
    refine ⟨V',i1,j2.trans i2,i3,by simp at i4 ⊢;omega,fun m hm=> ?_⟩
    rw [i5 m hm,hB,List.any_append,List.any_cons,List.any_nil,j2.any hacc hm,j4 m hm,h.ch hm k1,h.ch hm k3]
    simp [e,en,Bool.or_assoc]
theorem vL : ∀ {ks K:List (Int × Int)},ks.Nodup->(∀ k∈ks,k∈K)->ks.length<=K.length
 | [],_,_,_=>by simp
 | k :: ks,K,hn,h=>by
  obtain ⟨h1,h2⟩:=List.nodup_cons.1 hn
  have hk:=h k List.mem_cons_self
  have:=vL (K:=K.erase k) h2 fun x hx=>(List.mem_erase_of_ne (fun e=>h1 (by rw [← e];exact hx))).2 (h x (List.mem_cons_of_mem _ hx))
  rw [List.length_erase_of_mem hk] at this
  have:0<K.length:=List.length_pos_of_mem hk
  simp
  omega
theorem Sem.size {c:Nat} {K:List (Int × Int)} {s:DS} {V:List Bool->List Bool} {P:List Bool->Bool} {v q:Nat} (h:Sem c K s V P v q):s.n<=v+K.length/\s.cl.length<=q+3*K.length:=by
 obtain ⟨ks,h1,h2,-,h4,h5⟩:=h.prs
 have:=vL h1 h2
 omega
theorem Sem.ok {c:Nat} {K:List (Int × Int)} {s:DS} {V:List Bool->List Bool} {P:List Bool->Bool} {v q:Nat} (h:Sem c K s V P v q):aHf s.n c s.cl P:=by
 intro m hm
 have hA:aS s.n (chL m):=fun x hx=>(hY m x hx).le (by rw [hm];exact h.le)
 have hAv : ∀ x∈chL m,inM (V m) x=true:=aMm fun v hv=>h.pre m hm v (by omega)
 refine ⟨fun hp=>(h.der m hm).done (fun x hx=>(h.lits x hx).1) hA hAv ((h.may m hm).2 hp),fun hp=> ?_⟩
 have hnot : ¬ ∀ x∈s.cl,∃ y∈x,inM (V m) y=true:=fun H=>by
  have:=(h.may m hm).1 H
  rw [hp] at this;cases this
 obtain ⟨x,hx⟩:=Classical.not_forall.1 hnot
 obtain ⟨hx,hno⟩:=Classical.not_imp.1 hx
 refine (h.der m hm).bad hx (h.lits x hx).1 fun y hy=> ?_
 cases hb:inM (V m) y with
 | false=>rfl
 | true=>exact absurd ⟨y,hy,hb⟩ hno
def sg (x:Int) (b:Bool):Int:=if b=true then x else -x
theorem nA {n:Nat} {x:Int} (h:Lit n x) (b:Bool):Lit n (sg x b):=by
 unfold sg
 split
 ·exact h
 ·exact h.neg
theorem wG {m:List Bool} {x:Int} (h:x≠0) (b:Bool):inM m (sg x b)=(inM m x==b):=by
 unfold sg
 cases b with
 | true=>simp
 | false=>simp [dW m h]
theorem aDt (m:List Bool) (v:Nat):inM m ((v:Int)+1)=m.getD v false:=by
 rw [show (v:Int)+1=((v+1:Nat):Int) by omega,mC (by omega),Nat.add_sub_cancel]
def CT.tkL (c:CT) (i:Nat):Int:=sg ((c.order.idxOf i:Int)+1) (!c.ins.contains i)
def CT.fgL (c:CT) (i k:Nat):Int:=sg (((c.base i+k:Nat):Int)+1) (!c.on i k)
theorem CT.tk_in (c:CT) (m:List Bool) (i:Nat):inM m (c.tkL i)=c.takes m i:=by
 unfold CT.tkL CT.takes
 rw [wG (by omega),aDt]
 cases m.getD (c.order.idxOf i) false<;>cases c.ins.contains i<;>rfl
theorem CT.fg_in (c:CT) (m:List Bool) (i k:Nat):inM m (c.fgL i k)=(m.getD (c.base i+k) false != c.on i k):=by
 unfold CT.fgL
 rw [wG (by omega),aDt]
 cases m.getD (c.base i+k) false<;>cases c.on i k<;>rfl
theorem CT.tk_lit {c:CT} (h:c.Ok) {i:Nat} (hi:i<c.nf.length):Lit c.many (c.tkL i):=by
 have h1:=List.idxOf_lt_length_iff.2 ((CT.order_mem h i).2 hi)
 rw [CT.order_len h] at h1
 refine nA ?_ _
 unfold Lit CT.many
 omega
theorem lN : ∀ (l:List Nat) (i k:Nat),i<l.length->k<l.getD i 0->(l.take i).sum+k<l.sum
 | [],i,k,h,_=>by simp at h
 | a :: l,0,k,_,hk=>by simp at hk ⊢;omega
 | a :: l,i+1,k,h,hk=>by
  have:=lN l i k (by simpa using h) (by simpa using hk)
  simp
  omega
theorem CT.fg_lit (c:CT) {i k:Nat} (hi:i<c.nf.length) (hk:k<c.nf.getD i 0):Lit c.many (c.fgL i k):=by
 have:=lN c.nf i k hi hk
 refine nA ?_ _
 unfold Lit CT.many CT.base
 omega
def CT.keys (c:CT):List (Int × Int):=(List.range c.nf.length).flatMap fun i=>(List.range (c.nf.getD i 0)).flatMap fun k=> [(c.tkL i,c.fgL i k),(c.tkL i,-c.fgL i k)]
theorem CT.keys_mem (c:CT) {i k:Nat} (hi:i<c.nf.length) (hk:k<c.nf.getD i 0) (b:Bool):(c.tkL i,sg (c.fgL i k) b)∈c.keys:=by
 unfold CT.keys
 refine List.mem_flatMap.2 ⟨i,List.mem_range.2 hi,List.mem_flatMap.2 ⟨k,List.mem_range.2 hk,?_⟩⟩
 unfold sg
 cases b<;>simp
theorem aIp (n:Nat) (f:Nat->Int × Int) (g:Nat->Int × Int):((List.range n).flatMap fun k=> [f k,g k]).length=2*n:=by
 induction n with
 | zero=>simp
 | succ n ih=>rw [List.range_succ,List.flatMap_append,List.length_append,ih];simp;omega
theorem aDr (c:CT) : ∀ i,i<=c.nf.length->((List.range i).flatMap fun i=>(List.range (c.nf.getD i 0)).flatMap fun k=> [(c.tkL i,c.fgL i k),(c.tkL i,-c.fgL i k)]).length=2*(c.nf.take i).sum
 | 0,_=>by simp
 | i+1,h=>by
  rw [List.range_succ,List.flatMap_append,List.length_append,aDr c i (by omega),List.take_succ_eq_append_getElem (by omega),List.sum_append,List.flatMap_cons,List.flatMap_nil,List.append_nil,aIp]
  simp [List.getD_eq_getElem?_getD,List.getElem?_eq_getElem (show i<c.nf.length by omega)]
  omega
theorem CT.keys_len (c:CT):c.keys.length=2*c.nf.sum:=by
 have:=aDr c c.nf.length (Nat.le_refl _)
 rw [List.take_length] at this
 exact this
def CT.t1 (c:CT):Nat->List Int
 | 0=>List.replicate c.nf.length 0
 | j+1=>(c.t1 j).set (c.ins.getD j 0) (-((j:Int)+1))
theorem CT.t1_len (c:CT) : ∀ j,(c.t1 j).length=c.nf.length
 | 0=>by simp [CT.t1]
 | j+1=>by rw [CT.t1,List.length_set,CT.t1_len c j]
theorem CT.t1_get {c:CT} (h:c.Ok) : ∀ j,j<=c.ins.length->∀ i,(c.t1 j).getD i 0=if (c.ins.take j).contains i=true then -((c.ins.idxOf i:Int)+1) else 0
 | 0,_,i=>by
  rw [CT.t1,List.getD_eq_getElem?_getD,List.getElem?_replicate]
  split<;>simp
 | j+1,hj,i=>by
  have hin:c.ins[j]? = some c.ins[j]:=List.getElem?_eq_getElem (by omega)
  have hg:c.ins.getD j 0=c.ins[j]:=by rw [List.getD_eq_getElem?_getD,hin];rfl
  rw [CT.t1,hg,List.take_succ_eq_append_getElem (by omega)]
  have hlt:=h.lt c.ins[j] (List.getElem_mem _)
  by_cases e:c.ins[j]=i
  ·subst e
   rw [List.getD_eq_getElem?_getD,List.getElem?_set_self (by rw [CT.t1_len];exact hlt),pE (rC h.up) hin,if_pos (by rw [List.contains_eq_mem,decide_eq_true_eq];exact List.mem_append_right _ List.mem_cons_self)]
   rfl
  ·have e2:(c.ins.take j ++ [c.ins[j]]).contains i=(c.ins.take j).contains i:=by
    rw [Bool.eq_iff_iff]
    simp only [List.contains_eq_mem,List.mem_append,List.mem_singleton,decide_eq_true_eq]
    constructor
    ·rintro (h | h)
     ·exact h
     ·exact absurd h.symm e
    ·exact .inl
   rw [List.getD_eq_getElem?_getD,List.getElem?_set_ne e,← List.getD_eq_getElem?_getD,CT.t1_get h j (by omega) i,e2]
def CT.t2 (c:CT):Nat->List Int × Int
 | 0=>(c.t1 c.ins.length,(c.ins.length:Int))
 | k+1=>if (c.t2 k).1.getD k 0=0 then ((c.t2 k).1.set k ((c.t2 k).2+1),(c.t2 k).2+1) else c.t2 k
theorem CT.t2_len (c:CT) : ∀ k,(c.t2 k).1.length=c.nf.length
 | 0=>CT.t1_len c _
 | k+1=>by
  rw [CT.t2]
  split
  ·rw [List.length_set,CT.t2_len c k]
  ·exact CT.t2_len c k
theorem aBr (p:Nat->Bool) {n k:Nat} (hk:k<n) (hp:p k=true):((List.range n).filter p).idxOf k=((List.range k).filter p).length:=by
 have hsp:List.range n=List.range k++(k :: List.range' (k+1) (n-k-1)):=by
  rw [List.range_eq_range',List.range_eq_range',← List.range'_succ,show n-k-1+1=n-k by omega]
  have:= @List.range'_append_1 0 k (n-k)
  rw [Nat.zero_add,show k+(n-k)=n by omega] at this
  exact this.symm
 rw [hsp,List.filter_append,List.filter_cons_of_pos hp,List.idxOf_append,if_neg (fun h=>by have:=List.mem_range.1 (List.mem_filter.1 h).1;omega),List.idxOf_cons_self]
 omega
theorem CT.tk_other {c:CT} {k:Nat} (hk:k<c.nf.length) (hn:c.ins.contains k=false):c.tkL k=((c.ins.length+((List.range k).filter fun i=> !c.ins.contains i).length:Nat):Int)+1:=by
 unfold CT.tkL CT.order sg
 have h1:k ∉ c.ins:=by simpa using hn
 rw [hn,Bool.not_false,if_pos rfl,List.idxOf_append,if_neg h1,aBr (fun i=> !c.ins.contains i) hk (by rw [hn];rfl)]
 omega
theorem CT.tk_ins {c:CT} {k:Nat} (hn:c.ins.contains k=true):c.tkL k = -((c.ins.idxOf k:Int)+1):=by
 unfold CT.tkL CT.order sg
 have h1:k∈c.ins:=by simpa using hn
 rw [hn,Bool.not_true,if_neg (by decide),List.idxOf_append,if_pos h1]
theorem CT.t2_get {c:CT} (h:c.Ok) : ∀ k,k<=c.nf.length->(c.t2 k).2=((c.ins.length+((List.range k).filter fun i=> !c.ins.contains i).length:Nat):Int)/\∀ i,i<c.nf.length->(c.t2 k).1.getD i 0=if i<k∨c.ins.contains i=true then c.tkL i else 0
 | 0,_=>⟨by simp [CT.t2],fun i hi=>by
   rw [CT.t2]
   show (c.t1 c.ins.length).getD i 0=_
   rw [CT.t1_get h _ (Nat.le_refl _),List.take_length]
   by_cases e:c.ins.contains i=true
   ·rw [if_pos e,if_pos (.inr e),CT.tk_ins e]
   ·rw [if_neg e,if_neg (fun h=>h.elim (by omega) e)]⟩
 | k+1,hk=>by
  obtain ⟨h1,h2⟩:=CT.t2_get h k (by omega)
  have hgk:=h2 k (by omega)
  rw [CT.t2,List.range_succ,List.filter_append]
  cases e:c.ins.contains k with
  | true=>
   rw [e,if_pos (.inr rfl)] at hgk
   have hne:c.tkL k≠0:=(CT.tk_lit h (by omega)).1
   rw [if_neg (by rw [hgk];exact hne)]
   refine ⟨by rw [h1,List.filter_cons_of_neg (by simpa using e)];simp,fun i hi=> ?_⟩
   rw [h2 i hi]
   by_cases hik:i=k
   ·subst hik;rw [if_pos (.inr e),if_pos (.inr e)]
   ·by_cases h3:i<k∨c.ins.contains i=true
    ·rw [if_pos h3,if_pos (h3.imp (by omega) id)]
    ·rw [if_neg h3,if_neg (fun h=>h3 (h.imp (by omega) id))]
  | false=>
   rw [e,if_neg (by simp)] at hgk
   rw [if_pos hgk]
   have h5:=CT.tk_other (c:=c) (k:=k) (by omega) e
   refine ⟨by rw [h1,List.filter_cons_of_pos (by simp only [e,Bool.not_false])];simp;omega,fun i hi=> ?_⟩
   show ((c.t2 k).1.set k ((c.t2 k).2+1)).getD i 0=_
   by_cases hik:k=i
   ·subst hik
    rw [List.getD_eq_getElem?_getD,List.getElem?_set_self (by rw [CT.t2_len];omega),h1,if_pos (.inl (by omega)),h5]
    rfl
   ·rw [List.getD_eq_getElem?_getD,List.getElem?_set_ne hik,← List.getD_eq_getElem?_getD,h2 i hi]
    by_cases h3:i<k∨c.ins.contains i=true
    ·rw [if_pos h3,if_pos (h3.imp (by omega) id)]
    ·rw [if_neg h3,if_neg (fun h=>h3 (h.imp (by omega) id))]
def CT.tks (c:CT):List Int:=(List.range c.nf.length).map c.tkL
theorem CT.tks_get (c:CT) {i:Nat} (hi:i<c.nf.length):c.tks[i]? = some (c.tkL i):=by
 unfold CT.tks
 rw [List.getElem?_map,List.getElem?_range hi];rfl
theorem CT.tks_len (c:CT):c.tks.length=c.nf.length:=by simp [CT.tks]
theorem CT.t2_done {c:CT} (h:c.Ok):c.t2 c.nf.length=(c.tks,(c.nf.length:Int)):=by
 obtain ⟨h1,h2⟩:=CT.t2_get h c.nf.length (Nat.le_refl _)
 refine Prod.ext ?_ ?_
 ·refine List.ext_getElem? fun i=> ?_
  by_cases hi:i<c.nf.length
  ·have:=h2 i hi
   rw [if_pos (.inl hi),List.getD_eq_getElem?_getD,List.getElem?_eq_getElem (by rw [CT.t2_len];exact hi)] at this
   rw [CT.tks_get c hi,List.getElem?_eq_getElem (by rw [CT.t2_len];exact hi)]
   exact congrArg some this
  ·rw [List.getElem?_eq_none (by rw [CT.t2_len];omega),List.getElem?_eq_none (by rw [CT.tks_len];omega)]
 ·rw [h1]
  have:=CT.order_len h
  unfold CT.order at this
  rw [List.length_append] at this
  show _=(c.nf.length:Int)
  omega
theorem CT.t2_le {c:CT} (h:c.Ok) {k:Nat} (hk:k<=c.nf.length):0<=(c.t2 k).2/\(c.t2 k).2<=2*c.nf.length:=by
 obtain ⟨h1,-⟩:=CT.t2_get h k hk
 have h2:=List.length_filter_le (fun i=> !c.ins.contains i) (List.range k)
 rw [List.length_range] at h2
 have h3:=CT.order_len h
 unfold CT.order at h3
 rw [List.length_append] at h3
 omega
def CT.f3 (c:CT) (i k:Nat) (x y:Int):Int:=if 0<=x/\0<=y/\y<c.nf.getD x.toNat 0/\(x<i∨x=i/\y<k) then ((c.base x.toNat+y.toNat:Nat):Int)+1 else 0
theorem CT.f3_zero (c:CT):c.f3 0 0=fun _ _=>0:=by
 funext x y
 unfold CT.f3
 rw [if_neg (by omega)]
theorem CT.f3_put (c:CT) {i k:Nat} (hk:k<c.nf.getD i 0):eX (c.f3 i k) (i:Int) (k:Int) (((c.base i+k:Nat):Int)+1)=c.f3 i (k+1):=by
 funext x y
 unfold eX
 by_cases e:x=(i:Int)/\y=(k:Int)
 ·obtain ⟨rfl,rfl⟩:=e
  rw [if_pos ⟨rfl,rfl⟩,CT.f3,if_pos ⟨by omega,by omega,by rw [Int.toNat_natCast];omega,by omega⟩,Int.toNat_natCast,Int.toNat_natCast]
 ·rw [if_neg e]
  unfold CT.f3
  by_cases h:0<=x/\0<=y/\y<c.nf.getD x.toNat 0/\(x<i∨x=i/\y<k)
  ·rw [if_pos h,if_pos ⟨h.1,h.2.1,h.2.2.1,by omega⟩]
  ·rw [if_neg h,if_neg (fun g=>h ⟨g.1,g.2.1,g.2.2.1,by omega⟩)]
theorem CT.f3_next (c:CT) {i k:Nat} (hk:k=c.nf.getD i 0):c.f3 i k=c.f3 (i+1) 0:=by
 subst hk
 funext x y
 unfold CT.f3
 by_cases h:0<=x/\0<=y/\y<c.nf.getD x.toNat 0/\(x<i∨x=i/\y<c.nf.getD i 0)
 ·rw [if_pos h,if_pos ⟨h.1,h.2.1,h.2.2.1,by omega⟩]
 ·rw [if_neg h,if_neg (fun g=>h ⟨g.1,g.2.1,g.2.2.1,by
   by_cases hx:x=i
   ·right
    have:=g.2.2.1
    rw [hx,Int.toNat_natCast] at this
    exact ⟨hx,this⟩
   ·left;omega⟩)]
def CT.f4 (c:CT) (on:List (Int × Int)) (j:Nat) (x y:Int):Int:=if (on.take j).contains (x,y)=true then -(c.f3 c.nf.length 0 x y) else c.f3 c.nf.length 0 x y
theorem CT.f4_zero (c:CT) (on:List (Int × Int)):c.f4 on 0=c.f3 c.nf.length 0:=by
 funext x y
 simp [CT.f4]
theorem CT.f4_put (c:CT) {on:List (Int × Int)} (hn:on.Nodup) {j:Nat} (hj:j<on.length):eX (c.f4 on j) on[j].1 on[j].2 (-(c.f4 on j on[j].1 on[j].2))=c.f4 on (j+1):=by
 have hnot:(on.take j).contains on[j]=false:=by
  have:on[j] ∉ on.take j:=fun hm=>by
   obtain ⟨i,hi,e⟩:=List.getElem_of_mem hm
   rw [List.getElem_take] at e
   rw [List.length_take] at hi
   rw [List.nodup_iff_pairwise_ne,List.pairwise_iff_getElem] at hn
   exact hn i j (by omega) hj (by omega) e
  simpa using this
 funext x y
 unfold eX
 by_cases e:x=on[j].1/\y=on[j].2
 ·rw [if_pos e]
  obtain ⟨rfl,rfl⟩:=e
  have h2:(on.take (j+1)).contains (on[j].1,on[j].2)=true:=by rw [List.take_succ_eq_append_getElem hj,List.contains_eq_mem,decide_eq_true_eq];exact List.mem_append_right _ List.mem_cons_self
  unfold CT.f4
  rw [if_pos h2,if_neg (by rw [show (on[j].1,on[j].2)=on[j] from rfl,hnot];decide)]
 ·rw [if_neg e]
  unfold CT.f4
  have h2:(on.take (j+1)).contains (x,y)=(on.take j).contains (x,y):=by
   rw [List.take_succ_eq_append_getElem hj,Bool.eq_iff_iff]
   simp only [List.contains_eq_mem,List.mem_append,List.mem_singleton,decide_eq_true_eq]
   constructor
   ·rintro (h | h)
    ·exact h
    ·exact absurd ⟨congrArg Prod.fst h,congrArg Prod.snd h⟩ e
   ·exact .inl
  rw [h2]
def CT.fgs (c:CT) (on:List (Int × Int)):Int->Int->Int:=c.f4 on on.length
theorem CT.fgs_get {c:CT} {on:List (Int × Int)} (hc : ∀ i k:Nat,c.on i k=on.contains ((i:Int),(k:Int))) {i k:Nat} (hi:i<c.nf.length) (hk:k<c.nf.getD i 0):c.fgs on (i:Int) (k:Int)=c.fgL i k:=by
 unfold CT.fgs CT.f4 CT.fgL sg
 rw [List.take_length,hc i k]
 have h3:c.f3 c.nf.length 0 (i:Int) (k:Int)=((c.base i+k:Nat):Int)+1:=by
  rw [CT.f3,if_pos ⟨by omega,by omega,by rw [Int.toNat_natCast];omega,by omega⟩,Int.toNat_natCast,Int.toNat_natCast]
 rw [h3]
 cases on.contains ((i:Int),(k:Int))<;>simp
theorem CT.f3_le (c:CT) (i k:Nat) (x y:Int) (hi:i<=c.nf.length) (hk:0<k->i<c.nf.length):0<=c.f3 i k x y/\c.f3 i k x y<=c.many:=by
 unfold CT.f3
 by_cases h:0<=x/\0<=y/\y<c.nf.getD x.toNat 0/\(x<i∨x=i/\y<k)
 ·rw [if_pos h]
  have:=CT.fg_lit c (i:=x.toNat) (k:=y.toNat) (by omega) (by omega)
  unfold CT.fgL sg Lit at this
  have h2:(((c.base x.toNat+y.toNat:Nat):Int)+1).natAbs<=c.many:=by
   split at this
   ·exact this.2
   ·have:=this.2;omega
  omega
 ·rw [if_neg h];omega
theorem CT.f4_le (c:CT) (on:List (Int × Int)) (j:Nat) (x y:Int):(c.f4 on j x y).natAbs<=c.many:=by
 have:=CT.f3_le c c.nf.length 0 x y (Nat.le_refl _) (by omega)
 unfold CT.f4
 split<;>omega
def rI (row:List Int) (x:Int):List Int:=row.set (x.natAbs-1) x
theorem wX {m:List Bool} {x:Int} (hx:Lit m.length x):rI (chL m) x=chL (m.set (x.natAbs-1) (decide (0<x))):=by
 obtain ⟨h0,h1⟩:=hx
 unfold rI
 refine List.ext_getElem? fun v=> ?_
 by_cases hv:v<m.length
 ·rw [iV (by simpa using hv)]
  by_cases e:x.natAbs-1=v
  ·subst e
   rw [List.getElem?_set_self (by rw [dH];omega)]
   have h2:(m.set (x.natAbs-1) (decide (0<x))).getD (x.natAbs-1) false=decide (0<x):=by simp [List.getD_eq_getElem?_getD,hv]
   rw [h2]
   by_cases hp:0<x
   ·simp only [hp,decide_true,if_true];congr 1;omega
   ·simp only [hp,decide_false,Bool.false_eq_true,if_false];congr 1;omega
  ·rw [List.getElem?_set_ne e,iV hv]
   have h2:(m.set (x.natAbs-1) (decide (0<x))).getD v false=m.getD v false:=by simp [List.getD_eq_getElem?_getD,List.getElem?_set_ne e]
   rw [h2]
 ·rw [List.getElem?_eq_none (by rw [List.length_set,dH];omega),List.getElem?_eq_none (by rw [dH,List.length_set];omega)]
def tE (n:Nat):Nat->List Int
 | 0=>List.replicate n 0
 | k+1=>rI (tE n k) (-((k:Int)+1))
theorem oI (n:Nat) : ∀ k,(tE n k).length=n
 | 0=>by simp [tE]
 | k+1=>by rw [tE,rI,List.length_set,oI n k]
theorem aAd (n:Nat) : ∀ k,k<=n->∀ v,v<k->(tE n k)[v]? = some (-(v:Int)-1)
 | 0,_,v,h=>by omega
 | k+1,hk,v,h=>by
  rw [tE,rI,show (-((k:Int)+1)).natAbs-1=k by omega]
  by_cases e:k=v
  ·subst e
   rw [List.getElem?_set_self (by rw [oI];omega)];congr 1;omega
  ·rw [List.getElem?_set_ne e,aAd n k (by omega) v (by omega)]
theorem aFi (n:Nat):tE n n=chL (List.replicate n false):=by
 refine List.ext_getElem? fun v=> ?_
 by_cases hv:v<n
 ·rw [aAd n n (Nat.le_refl _) v hv,iV (by simpa using hv)]
  simp [List.getD_eq_getElem?_getD,hv]
 ·rw [List.getElem?_eq_none (by rw [oI];omega),List.getElem?_eq_none (by rw [dH];simp;omega)]
end Go.Proofs.YthhhicgjiilgmaaGreatDoor.Cn
namespace Go.Proofs.YthhhicgjiilgmaaGreatDoor.Cn
open Go.RowKit Go.Lib
def SmP (x:Int):Prop:=x.natAbs<=1000000
theorem aBf {x:Int} (h:SmP x):(Go.Lit.int .i64 x).wf=true:=by
 unfold SmP at h
 have e1:IntKind.i64.min = -9223372036854775808:=by decide
 have e2:IntKind.i64.max=9223372036854775807:=by decide
 simp [Go.Lit.wf]
 omega
theorem aNy:WideMaps.ArrKey Tryz.prog 75 3 2:=⟨Tryz.underlying75,by kernel_rfl,by kernel_rfl,by kernel_rfl⟩
theorem nR:Maps.Keyed Tryz.prog 75:=Maps.Keyed.of_law aNy.law
theorem aFt : ∃ m,Tryz.prog.types.size=m+1:=⟨Tryz.prog.types.size-1,by kernel_rfl⟩
def aLs (x y:Int):Go.Lit:= .string (keyBytes [.int .i64 x,.int .i64 y])
theorem lO {x y:Int} (hx:SmP x) (hy:SmP y):keyOf Tryz.prog 75 (.agg #[.int .i64 x,.int .i64 y])=some (aLs x y):=WideMaps.keyOf_pair aNy Tryz.underlying3 aFt (aBf hx) (aBf hy)
theorem aKo {x y x' y':Int} (hx:SmP x) (hy:SmP y) (hx':SmP x') (hy':SmP y') (h:aLs x y=aLs x' y'):x=x'/\y=y':=by
 have h1:=lO hx hy
 have h2:=lO hx' hy'
 rw [h] at h1
 have:=nR.inj h1 h2
 simp only [Value.agg.injEq,Array.mk.injEq,List.cons.injEq,Value.int.injEq,true_and,and_true] at this
 exact this
theorem pG:Tryz.prog.underlying 90=some (.map 75 3):=Tryz.underlying90
def fL (g n:Nat) (f:Int->Int->Int) (w:World):Prop:= ∃ D:DataW Unit,w.ownsMap Tryz.prog 75 (plainElem Tryz.prog 3) g n D/\∀ x y,SmP x->SmP y->D.atKey (aLs x y) (.lit (.int .i64 0))=.lit (.int .i64 (f x y))
theorem fL.lt {g n:Nat} {f:Int->Int->Int} {w:World} (h:fL g n f w):g<w.heap.size:=by obtain ⟨D,h,-⟩:=h;exact h.lt
theorem fL.mono {g n n':Nat} {f:Int->Int->Int} {w:World} (h:fL g n f w) (hn:n<=n'):fL g n' f w:=by obtain ⟨D,h,h2⟩:=h;exact ⟨D,h.mono hn,h2⟩
theorem fL.at {g n:Nat} {f:Int->Int->Int} {w w':World} (h:fL g n f w) (hb:w'.heap[g]? = w.heap[g]?):fL g n f w':=by
 obtain ⟨D,⟨es,clock,hm,hr⟩,h2⟩:=h
 exact ⟨D,⟨es,clock,hb.trans hm,hr⟩,h2⟩
theorem fL.keep {g n:Nat} {f:Int->Int->Int} {w w':World} (h:fL g n f w) (k:aA w w'):fL g n f w':=h.at (k.block g h.lt)
theorem oV (w:World):fL w.heap.size 0 (fun _ _=>0) (w.alloc (.map #[] 0)):=⟨.map [],World.ownsMap_made w _ _ _,fun x y _ _=>by simp [DataW.atKey]⟩
theorem fL.look {g n:Nat} {f:Int->Int->Int} {w:World} {t:TypeId} (h:fL g n f w) (ht:Tryz.prog.underlying t=some (.map 75 3)) {x y:Int} (hx:SmP x) (hy:SmP y):(Instr.lookup t (.map (some g)) (.agg #[.int .i64 x,.int .i64 y]) false).run Tryz.prog w=.ok (.int .i64 (f x y)) w:=by
 obtain ⟨D,h1,h2⟩:=h
 obtain ⟨c,hrun,hv,-⟩:=h1.lookup_int nR ht Tryz.underlying3 (by kernel_rfl) (lO hx hy)
 rw [h2 x y hx hy] at hv
 have e:f x y=c:=by simpa using hv
 rw [hrun,e]
theorem fL.put {g n:Nat} {f:Int->Int->Int} {w:World} {t:TypeId} (h:fL g n f w) (ht:Tryz.prog.underlying t=some (.map 75 3)) {x y v:Int} (hx:SmP x) (hy:SmP y) (hv:SmP v) (hl:n<1000000) : ∃ w',(Instr.mapUpdate t (.map (some g)) (.agg #[.int .i64 x,.int .i64 y]) (.int .i64 v)).run Tryz.prog w=.ok () w'/\fL g (n+1) (eX f x y v) w'/\w.grownBy w' (some g):=by
 obtain ⟨D,h1,h2⟩:=h
 obtain ⟨w',hrun,hown,hgr⟩:=h1.update nR ht (by unfold maxLen;omega) (lO hx hy) (plainElem_int Tryz.underlying3 (aBf hv))
 refine ⟨w',hrun,⟨_,hown,fun p q hp hq=> ?_⟩,hgr⟩
 unfold eX
 by_cases e:p=x/\q=y
 ·obtain ⟨rfl,rfl⟩:=e
  rw [Maps.atKey_put_same h1.isMap (nR.key (lO hx hy))];simp
 ·rw [Maps.atKey_put_other (fun hh=>e (aKo hp hq hx hy hh)),h2 p q hp hq,if_neg e]
end Go.Proofs.YthhhicgjiilgmaaGreatDoor.Cn
