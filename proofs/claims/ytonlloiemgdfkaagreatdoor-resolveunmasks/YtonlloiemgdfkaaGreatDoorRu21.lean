/- Steps of the proof: ResP, NeedNeeded, TreeForest, ValidSmall, ValidAllowed, ResSmall, EncRead, EncBoundN, EncAsked, EncChooseM. -/
import Derived.Test.YtonlloiemgdfkaaGreatDoorRu19
import Derived.Test.YtonlloiemgdfkaaGreatDoorRu20
import Derived.Test.YtonlloiemgdfkaaGreatDoorRu07
import Derived.Test.YtonlloiemgdfkaaGreatDoorRu09
import Derived.BigRegion
import Derived.Deep.RegionHeld3
import Derived.Test.YtonlloiemgdfkaaGreatDoorRu18
set_option maxHeartbeats 16000000
set_option maxRecDepth 100000
namespace Go.Proofs.YtonlloiemgdfkaaGreatDoor
open Go.RowKit
theorem eI {m:List Bool} {c i:Nat} (h:i<c):(m.take c).getD i false=m.getD i false:=by
 rw [List.getD_eq_getElem?_getD,List.getD_eq_getElem?_getD,List.getElem?_take,if_pos h]
theorem aKk {m o:List Bool} (c:Nat) (hl:m.length=o.length) (h:Cn.nE m o):Cn.nE (m.take c) (o.take c):=by
 rcases h with rfl | ⟨j,hj,h1,h2,h3⟩
 ·exact .inl rfl
 ·by_cases hc:j<c
  ·exact .inr ⟨j,by rw [List.length_take];omega,fun i hi=>by rw [eI (by omega),eI (by omega)];exact h1 i hi,by rw [eI hc];exact h2,by rw [eI hc];exact h3⟩
  ·refine .inl (Cn.oP (by rw [List.length_take,List.length_take,hl]) fun i hi=> ?_)
   rw [List.length_take] at hi
   rw [eI (by omega),eI (by omega),h1 i (by omega)]
theorem aQa {m:List Bool} {c:Nat} (hc:c<=m.length):Cn.lI (Cn.chL (m.take c)) m:=by
 intro x hx
 obtain ⟨v,hv,rfl⟩:=List.mem_map.1 hx
 have hv:=List.mem_range.1 hv
 rw [List.length_take] at hv
 rw [eI (by omega)]
 unfold Cn.inM
 cases hm:m.getD v false with
 | true=>rw [if_pos rfl,show ((v:Int)+1).natAbs-1=v by omega,hm,decide_eq_true (by omega)];rfl
 | false=>rw [if_neg (by simp),show (-(v:Int)-1).natAbs-1=v by omega,hm,decide_eq_false (by omega)];rfl
theorem aNk {n c:Nat} {F:List (List Int)} {may:List Bool->Bool} (hE:Cn.rY n c F may) (hF : ∀ x∈F,Cn.aK n x) (hc:c<=n) {m:List Bool} (hm:Cn.Mod n F m):may (m.take c)=true:=by
 have hl:(m.take c).length=c:=by rw [List.length_take,hm.1];omega
 cases h:may (m.take c) with
 | true=>rfl
 | false=>exact absurd ((hE _ hl).2 h) (Cn.kO hF (fun x hx=>⟨(Cn.lL _ x hx).1,by have:=(Cn.lL _ x hx).2;omega⟩) hm.2 (aQa (by rw [hm.1];exact hc)))
theorem aFj {n c:Nat} {F:List (List Int)} {may:List Bool->Bool} (hE:Cn.rY n c F may) (hF : ∀ x∈F,Cn.aK n x) (hc:c<=n) {d:List Bool} (hd:d.length=c) (h:may d=true) : ∃ o,Cn.Mod n F o/\o.take c=d:=by
 obtain ⟨h1,h2⟩:=(hE d hd).1 h
 obtain ⟨h3,h4⟩:=Cn.aAo hF (fun x hx=>⟨(Cn.lL d x hx).1,by have:=(Cn.lL d x hx).2;omega⟩) h1 h2
 refine ⟨_,h3,Cn.oP (by rw [List.length_take,h3.1];omega) fun i hi=> ?_⟩
 rw [List.length_take,h3.1] at hi
 rw [eI (by omega)]
 have h5:=h4 _ (List.mem_of_getElem? (Cn.aEs (m:=d) (v:=i) (by omega)))
 unfold Cn.inM at h5
 revert h5
 cases hm:d.getD i false with
 | true=>rw [if_pos rfl,show ((i:Int)+1).natAbs-1=i by omega,decide_eq_true (by omega)];intro h5;simpa using h5
 | false=>rw [if_neg (by simp),show (-(i:Int)-1).natAbs-1=i by omega,decide_eq_false (by omega)];intro h5;simpa using h5
theorem zX {α β:Type} {f g:α->Option β} : ∀ {l:List α},(∀ x∈l,f x=g x)->l.filterMap f=l.filterMap g
 | [],_=>rfl
 | a :: l,h=>by rw [List.filterMap_cons,List.filterMap_cons,h a (by simp),zX fun x hx=>h x (by simp [hx])]
theorem aLn {c:Cn.CT} (h:c.Ok) {m m':List Bool} (e : ∀ v,v<c.many->m.getD v false=m'.getD v false):c.set m=c.set m':=by
 have hN:c.nf.length<=c.many:=by unfold Cn.CT.many;omega
 unfold Cn.CT.set
 refine zX fun i hi=> ?_
 have hi:=List.mem_range.1 hi
 have e1:c.takes m i=c.takes m' i:=by
  unfold Cn.CT.takes
  rw [e _ (by have:=Cn.CT.idx_lt h hi;omega)]
 have e2:c.flags m i=c.flags m' i:=by
  unfold Cn.CT.flags
  refine List.map_congr_left fun k hk=> ?_
  rw [e _ (Cn.CT.base_lt_many c hi (List.mem_range.1 hk))]
 rw [e1,e2]
theorem aHx {ps:List PK} {wi:WI} (h:(aB ps wi).Ok) (m:List Bool):bZ ps wi (m.take (aB ps wi).many)=bZ ps wi m:=by
 unfold bZ
 rw [aLn h fun v hv=>eI hv]
def pO (ps:List PK) (wi:WI) (c:List Bool):Prop:=c.length=(aB ps wi).many/\eK ps wi (bZ ps wi c)=true/\∀ d:List Bool,d.length=(aB ps wi).many->eK ps wi (bZ ps wi d)=true->Cn.nE c d
def fS (ps:List PK) (wi:WI):Prop:= ∀ d:List Bool,d.length=(aB ps wi).many->eK ps wi (bZ ps wi d)=false
theorem pO.one {ps:List PK} {wi:WI} {c d:List Bool} (h:pO ps wi c) (h':pO ps wi d):c=d:=(h.2.2 d h'.1 h'.2.1).anti (h'.2.2 c h.1 h.2.1)
theorem pO.some {ps:List PK} {wi:WI} {c:List Bool} (h:pO ps wi c) (h':fS ps wi):False:=by have:=h' c h.1;rw [h.2.1] at this;cases this
noncomputable def dQ (ps:List PK) (wi:WI) (steps:Int):Cn.Ans:=Cn.pI ((dH ps wi).n:Nat) (dH ps wi).cl steps
theorem aMx {ps:List PK} {wi:WI} (h:bO ps wi=0):Cn.gP ((dH ps wi).n:Nat) (dH ps wi).cl=0:=by
 obtain ⟨-,h2,h3,h4,-⟩:=rP h
 exact Cn.aCx h2 h3 fun c hc=>⟨(h4 c hc).2,(h4 c hc).1⟩
theorem pD {ps:List PK} {wi:WI} (h:bO ps wi=0):(dQ ps wi 40000).er=0:=by
 have h14:=(rV wi (dD h).1).1
 have hp:(2 ^ ((aB ps wi).many+1):Nat)<=2 ^ 15:=Nat.pow_le_pow_right (by omega) (by omega)
 unfold dQ
 rw [Cn.tW (aMx h) (by omega) (by omega)]
 have hne:=Cn.aLs (n:=(dH ps wi).n) (c:=(aB ps wi).many) (s:=(40000:Int).toNat) (vN h).decides (by omega) (by show _<=40000;omega)
 unfold Cn.eY
 generalize (Cn.fR (dH ps wi).n (dH ps wi).cl (40000:Int).toNat)=r at hne ⊢
 cases hr:r.o with
 | out=>exact absurd hr hne
 | model m=>rfl
 | closed=>rfl
theorem xZ {ps:List PK} {wi:WI} (h:bO ps wi=0) {s:Int} (he:(dQ ps wi s).er=0):((dQ ps wi s).P = []/\(aB ps wi).many<=(dQ ps wi s).m.length/\(dQ ps wi s).m.length<=400/\pO ps wi ((dQ ps wi s).m.take (aB ps wi).many))∨((dQ ps wi s).P ≠ []/\fS ps wi/\Cn.aIt (dH ps wi).cl (dQ ps wi s).P/\(dQ ps wi s).P.length<=40000/\∀ c∈(dQ ps wi s).P,c.length<=60/\Cn.aK (dH ps wi).n c):=by
 obtain ⟨g1,g2,g3,g4,-⟩:=rP h
 have hE:=vN h
 obtain ⟨n,hn,-,-,-,-,ha⟩:=Cn.aNy he
 obtain rfl:(dH ps wi).n=n:=by omega
 have hF : ∀ x∈(dH ps wi).cl,Cn.aK (dH ps wi).n x:=fun x hx=>(g4 x hx).1
 rcases ha with ⟨h1,h2,h3⟩ | ⟨h1,-,h3,h4,h5,h6⟩
 ·refine .inl ⟨h1,?_,?_,?_,aNk hE hF g1 h2,fun d hd hv=> ?_⟩
  ·show _<=(Cn.pI _ _ s).m.length
   rw [h2.1];exact g1
  ·show (Cn.pI _ _ s).m.length<=_
   rw [h2.1];exact g2
  ·show ((Cn.pI _ _ s).m.take _).length=_
   rw [List.length_take,h2.1];omega
  ·obtain ⟨o,ho,rfl⟩:=aFj hE hF g1 hd hv
   exact aKk _ (h2.1.trans ho.1.symm) (h3 o ho)
 ·refine .inr ⟨h1,fun d hd=> ?_,h3,h4,h5⟩
  cases hv:eK ps wi (bZ ps wi d) with
  | false=>rfl
  | true=>
   obtain ⟨o,ho,-⟩:=aFj hE hF g1 hd hv
   exact absurd ho (h6 o)
theorem aBb {ps:List PK} {wi:WI} {c:List Bool} {s:Int} (h:bO ps wi=0) (he:(dQ ps wi s).er=0) (hb:pO ps wi c):(dQ ps wi s).P = []/\bZ ps wi (dQ ps wi s).m=bZ ps wi c:=by
 rcases xZ h he with ⟨h1,-,-,h4⟩ | ⟨-,h2,-⟩
 ·refine ⟨h1,?_⟩
  rw [← aHx (oL (dD h).2.1),h4.one hb]
 ·exact (hb.some h2).elim
theorem aBc {ps:List PK} {wi:WI} {s:Int} (h:bO ps wi=0) (he:(dQ ps wi s).er=0) (hn:fS ps wi):(dQ ps wi s).P ≠ []:=by
 rcases xZ h he with ⟨-,-,-,h4⟩ | ⟨h1,-⟩
 ·exact (h4.some hn).elim
 ·exact h1
theorem aPp {ps:List PK} {wi:WI} (h:bO ps wi=0):(∃ c,pO ps wi c)∨fS ps wi:=by
 rcases xZ h (pD h) with ⟨-,-,-,h4⟩ | ⟨-,h2,-⟩
 ·exact .inl ⟨_,h4⟩
 ·exact .inr h2
def xM (c:UInt8):NT:= .node 1 ⟨⟨#[c]⟩,0,0,0,⟨#[]⟩,false⟩ ⟨#[]⟩ false []
end Go.Proofs.YtonlloiemgdfkaaGreatDoor
namespace Go.Proofs.YtonlloiemgdfkaaGreatDoor
def nIf:NT:= .node 5 At.zero ⟨#[120]⟩ false [xM 98]
def tL:NT:= .node 3 At.zero ⟨#[]⟩ false [nIf]
def lY:NT:= .node 3 At.zero ⟨#[]⟩ false []
def F1:List UInt8:= [97,32,49,32,49,32,120,44,121,32,120,63,32,40,32,98,32,41,10]
def F2:List UInt8:= [97,32,49,32,49,32,120,44,121,32,40,32,120,63,32,40,32,98,32,41,32,41,10,98,32,50,32,49,32,32,40,32,41,10]
theorem aFg {c:UInt8} (h:aO [c]=true):(xM c).ok:=by
 unfold xM
 rw [NT.ok]
 exact ⟨kS 1 _ (Or.inl rfl) (by show chk [c] 0 0 0 [] false=0;unfold chk;rw [if_neg (by simp [h]),if_neg (by decide),if_neg (by decide)]),trivial⟩
theorem aPf:nIf.ok:=by
 unfold nIf
 rw [NT.ok,okL,okL]
 exact ⟨aAq _ _ _ (by decide),aFg (by decide),trivial⟩
theorem aNl:tL.ok:=by
 unfold tL
 rw [NT.ok,okL,okL]
 exact ⟨fB 3 _ (Or.inl rfl),aPf,trivial⟩
theorem aKv:lY.ok:=by
 unfold lY
 rw [NT.ok,okL]
 exact ⟨fB 3 _ (Or.inl rfl),trivial⟩
theorem qW:eU nIf=false/\eU tL=false/\eU lY=false:=by
 have i1:aN 1=2:=jF (by decide) (by decide)
 have i2:aN 2=3:=jF (by decide) (by decide)
 refine ⟨?_,?_,?_⟩<;>simp [eU,nIf,tL,lY,xM,bV,bQ,fN,i1,i2]
theorem aKu:eB tL=0:=cL.2 ⟨qW.2.1,aNl⟩
theorem aHh:eB lY=0:=cL.2 ⟨qW.2.2,aKv⟩
theorem aQn:Lib.itoa 1 = [49]:=aAg (k:=1) (by decide)
theorem aQo:Lib.itoa 2 = [50]:=aAg (k:=2) (by decide)
theorem aBi:tL.sorted = [[120]]:=by
 have:tL.flags = [⟨#[120]⟩]:=by simp [tL,nIf,xM,NT.flags,cU]
 unfold NT.sorted
 rw [this,List.map_cons,List.map_nil,List.mergeSort_singleton]
 rfl
theorem yD:lY.sorted = []:=by
 have:lY.flags = []:=by simp [lY,NT.flags,cU]
 unfold NT.sorted
 rw [this,List.map_nil,List.mergeSort_nil];exact jB
theorem xP:aO [97]=true:=by decide
theorem aPg:aO [98]=true:=by decide
end Go.Proofs.YtonlloiemgdfkaaGreatDoor
namespace Go.Proofs.YtonlloiemgdfkaaGreatDoor
open Go.RowKit
end Go.Proofs.YtonlloiemgdfkaaGreatDoor
namespace Go.Proofs.YtonlloiemgdfkaaGreatDoor
def nB1:NT:= .node 3 At.zero ⟨#[]⟩ false [xM 98]
def aGz:NT:= .node 2 ⟨⟨#[99]⟩,0,0,0,⟨#[]⟩,false⟩ ⟨#[]⟩ false []
def tM:NT:= .node 3 At.zero ⟨#[]⟩ false [aGz]
def q0:PK:=⟨⟨#[97]⟩,1,1,[],nB1⟩
def q1:PK:=⟨⟨#[97]⟩,2,1,[⟨#[120]⟩],tL⟩
def q2:PK:=⟨⟨#[98]⟩,1,1,[],tM⟩
def q3:PK:=⟨⟨#[99]⟩,1,1,[],lY⟩
def aY:List PK:= [q0,q1,q2,q3]
def F3:List UInt8:= [97,32,49,32,49,32,32,40,32,98,32,41,10,97,32,50,32,49,32,120,32,40,32,120,63,32,40,32,98,32,41,32,41,10,98,32,49,32,49,32,32,40,32,33,99,32,41,10,99,32,49,32,49,32,32,40,32,41,10]
theorem aNe:aGz.ok:=by
 unfold aGz
 rw [NT.ok]
 have h:aO [99]=true:=by decide
 exact ⟨kS 2 _ (Or.inr rfl) (by show chk [99] 0 0 0 [] false=0;unfold chk;rw [if_neg (by simp [h]),if_neg (by decide),if_neg (by decide)]),trivial⟩
theorem aPe:nB1.ok:=by
 unfold nB1
 rw [NT.ok,okL,okL]
 exact ⟨fB 3 _ (Or.inl rfl),aFg (by decide),trivial⟩
theorem aNn:tM.ok:=by
 unfold tM
 rw [NT.ok,okL,okL]
 exact ⟨fB 3 _ (Or.inl rfl),aNe,trivial⟩
theorem pH:eU nB1=false/\eU tM=false:=by
 have i1:aN 1=2:=jF (by decide) (by decide)
 refine ⟨?_,?_⟩<;>simp [eU,nB1,tM,aGz,xM,bV,bQ,fN,i1]
theorem aNm:eB nB1=0:=cL.2 ⟨pH.1,aPe⟩
theorem aKw:eB tM=0:=cL.2 ⟨pH.2,aNn⟩
theorem aEj:nI aY=F3:=by
 simp [nI,lU,aY,q0,q1,q2,q3,nB1,tM,aGz,tL,nIf,lY,NT.text,xM,NT.words,bJ,eO,bW,aQn,aQo,F3,Lib.join]
theorem aDx:nB1.sorted = []:=by
 have:nB1.flags = []:=by simp [nB1,xM,NT.flags,cU]
 unfold NT.sorted
 rw [this,List.map_nil,List.mergeSort_nil];exact jB
theorem aBj:tM.sorted = []:=by
 have:tM.flags = []:=by simp [tM,aGz,NT.flags,cU]
 unfold NT.sorted
 rw [this,List.map_nil,List.mergeSort_nil];exact jB
theorem aJy:dU [(⟨#[120]⟩:ByteArray)]=0:=by
 have n1:aO [120]=true:=by decide
 simp [dU,aV,flE,n1]
theorem aOy:gG [(⟨#[120]⟩:ByteArray)] [120]=true:=by unfold gG;rw [Lib.containsS_iff];simp
theorem aPh:aO [99]=true:=by decide
theorem aOr:eG q0=0:=by
 have hk:nB1.kind=3:=rfl
 simp [eG,q0,xP,dU,aV,gO,hk,aNm,aDx]
theorem aOs:eG q1=0:=by
 have hk:tL.kind=3:=rfl
 simp [eG,q1,xP,aJy,gO,hk,aKu,aBi,aOy]
theorem aOt:eG q2=0:=by
 have hk:tM.kind=3:=rfl
 simp [eG,q2,aPg,dU,aV,gO,hk,aKw,aBj]
theorem aOu:eG q3=0:=by
 have hk:lY.kind=3:=rfl
 simp [eG,q3,aPh,dU,aV,gO,hk,aHh,yD]
theorem aGg:eA q1 q0=true:=by simp [eA,q0,q1]
theorem aGh:eA q2 q1=true:=by
 have h1:leS ⟨#[98]⟩ ⟨#[97]⟩=false:=by unfold leS;rw [Lib.toList_data,Lib.toList_data];decide
 simp [eA,q1,q2,h1]
theorem aGi:eA q3 q2=true:=by
 have h1:leS ⟨#[99]⟩ ⟨#[98]⟩=false:=by unfold leS;rw [Lib.toList_data,Lib.toList_data];decide
 simp [eA,q3,q2,h1]
theorem sH:dC aY=0:=by
 have s1:eD aY 1=0:=rfl
 have s2:eD aY 2=1:=rfl
 have s3:eD aY 3=1:=rfl
 have s4:eD aY 4=1:=rfl
 have h8 : ¬ 8<aY.length:=by decide
 have hl:aY.length=4:=rfl
 unfold dC
 rw [if_neg h8]
 have e0:pkE aY 0=0:=by unfold pkE;rw [show aY.getD 0 PK.zero=q0 from rfl,aOr];simp [s1,hl]
 have e1:pkE aY 1=0:=by unfold pkE;rw [show aY.getD 1 PK.zero=q1 from rfl,show aY.getD (1-1) PK.zero=q0 from rfl,aOs,aGg];simp [s2,hl]
 have e2:pkE aY 2=0:=by unfold pkE;rw [show aY.getD 2 PK.zero=q2 from rfl,show aY.getD (2-1) PK.zero=q1 from rfl,aOt,aGh];simp [s3,hl]
 have e3:pkE aY 3=0:=by unfold pkE;rw [show aY.getD 3 PK.zero=q3 from rfl,show aY.getD (3-1) PK.zero=q2 from rfl,aOu,aGi];simp [s4,hl]
 rw [hl]
 simp [aV,e0,e1,e2,e3]
theorem aMl:rdT F3=(0,0,aY):=by
 rw [← aEj]
 exact aLg sH (by rw [aEj];decide)
def atA:At:=⟨⟨#[97]⟩,0,0,0,⟨#[]⟩,false⟩
end Go.Proofs.YtonlloiemgdfkaaGreatDoor
namespace Go.Proofs.YtonlloiemgdfkaaGreatDoor
open Go.RowKit Go.Sort
theorem aDt (w:World) (hE:Env w) (hM:jU w) :
  Calls Tryz.prog 66 #[] w fun e w'=> ∃ v,e=.returned (.tuple #[.agg #[v],.bool true])/\bC (fun b=>w.heap.size<=b/\b<w'.heap.size) w' aY v/\aA w w'/\iV v:=by
 have HE:=hid hE
 have HM:=hid hM
 clear hE hM
 go_enter Tryz.func66,Tryz.ntmps66
 go_wp2_with fail
 refine bD (fun W'=>aA w W'/\aE w.heap.size 24 (.slice none 0 0) W') ⟨aA.alloc _ _,aE.new _ _ _⟩ ?_
 rintro W0 ⟨k0,v0⟩
 refine (uD _ W0 (HE.out.keep k0) (HM.out.keep k0)).mono ?_
 rintro e w1 ⟨v1,rfl,-,hp1,k1,hcap1⟩
 have hrd:rdT (ByteArray.mk #[97,32,49,32,49,32,32,40,32,98,32,41,10,97,32,50,32,49,32,120,32,40,32,120,63,32,40,32,98,32,41,32,41,10,98,32,49,32,49,32,32,40,32,33,99,32,41,10,99,32,49,32,49,32,32,40,32,41,10]).data.toList=(0,0,aY):=aMl
 rw [hrd] at hp1 ⊢
 simp only at hp1 ⊢
 obtain ⟨p1,c1,rfl,-⟩:=hp1.len
 have hlen:aY.length=4:=rfl
 rw [hlen] at hp1 hcap1 ⊢
 have HCAP:=hid hcap1
 clear hcap1
 have K0s:=k0.size
 have hW0:w.heap.size+1<=W0.heap.size:=v0.facts.2.2
 have HP1:Hid (bC (fun b=>w.heap.size+1<=b/\b<w1.heap.size) w1 aY (.slice p1 4 c1)):=bC.mono (fun _ _=>rfl) (fun b hb=>⟨Nat.le_trans hW0 hb.1,hb.2⟩) hp1
 have K1:=hid (k0.trans k1)
 have V1:=hid (v0.keep k1 v0.facts.2.2)
 have hsz1:w.heap.size+1<=w1.heap.size:=by have:=V1.out.facts.2.2;omega
 clear k0 v0 hp1 k1 hrd hlen
 go_upto_region 2 with fail
 refine bR (fun W'=>aA w W'/\aA w1 W'/\aE w.heap.size 24 (.slice none 0 0) W'/\aE w1.heap.size 24 (.slice p1 4 c1) W') ⟨K1.out.alloc' _,aA.alloc _ _,V1.out.keep (aA.alloc _ _) V1.out.facts.2.2,aE.new _ _ _⟩ ?_
 rintro W2 ⟨k2,k12,v2,t2⟩
 have K2:=hid k2
 have K12:=hid k12
 have V2:=hid v2
 obtain ⟨g1,z1,l1⟩:=v2.facts
 obtain ⟨g2,z2,l2⟩:=t2.facts
 clear k2 k12 v2 t2
 go_region
 have v3:=V2.out.set (.slice p1 4 c1)
 have HQ:Hid (aE w.heap.size 24 (.slice p1 4 c1) (W2.setCell ⟨w.heap.size,0,none⟩ (.slice p1 4 c1)).drew/\aA w (W2.setCell ⟨w.heap.size,0,none⟩ (.slice p1 4 c1)).drew/\bC (fun b=>w.heap.size<=b/\b<(W2.setCell ⟨w.heap.size,0,none⟩ (.slice p1 4 c1)).drew.heap.size) (W2.setCell ⟨w.heap.size,0,none⟩ (.slice p1 4 c1)).drew aY (.slice p1 4 c1)):=by
  have ap:=jJ w.heap.size W2 (.slice p1 4 c1)
  have hz:W2.heap.size<=(W2.setCell ⟨w.heap.size,0,none⟩ (.slice p1 4 c1)).heap.size:=ap.size
  refine ⟨v3.keep (aAk _) v3.facts.2.2,aA.trans (show aA w (W2.setCell ⟨w.heap.size,0,none⟩ (.slice p1 4 c1)) from Below.trans K2.out (ap.below K2.out.size fun b hb e=>by have:b=w.heap.size:=e;omega)) (aAk _),?_⟩
  refine bC.mono (fun p hp=> ?_) (fun b hb=>⟨by omega,Nat.lt_of_lt_of_le hb.2 (Nat.le_trans K12.out.size hz)⟩) HP1.out
  exact (ap.cell p (Nat.lt_of_lt_of_le hp.2 K12.out.size) (fun e=>by have e':p.block=w.heap.size:=e;have:=hp.1;omega)).trans (K12.out.cell (p:=p) hp.2)
 clear v3 g1 z1 g2 z2
 go_wp2_with fail
 refine cC (v:= .tuple #[.agg #[.slice p1 4 c1],.bool true]) (fun W'=>aE w.heap.size 24 (.slice p1 4 c1) W'/\aA w W'/\bC (fun b=>w.heap.size<=b/\b<W'.heap.size) W' aY (.slice p1 4 c1)) ?_ rfl ?_
 ·exact HQ.out
 rintro W ⟨hb,hk,hp⟩
 obtain ⟨hcW,-,-⟩:=hb.facts
 exact ⟨by simp [results,Tryz.results66,go_sem,hcW],_,rfl,hp,hk,HCAP.out⟩
theorem jW {W:World} {n:Nat} (h:W.heap.size=n) (cs:Array Value) (T:TypeId):aT n cs (W.alloc (.cells cs T)):=h ▸ aT.new W cs T
def inW (W:World) (b:Nat):Prop:=b<W.heap.size
end Go.Proofs.YtonlloiemgdfkaaGreatDoor
namespace Go.Proofs.YtonlloiemgdfkaaGreatDoor
open Go.RowKit
def aEf:Nat->List (List Bool)
 | 0=> [[]]
 | n+1=>(aEf n).map (false :: ·)++(aEf n).map (true :: ·)
theorem tJ : ∀ {d:List Bool},d∈aEf d.length
 | []=>by simp [aEf]
 | a :: d=>by
  have:=tJ (d:=d)
  rw [List.length_cons,aEf,List.mem_append]
  cases a
  ·exact .inl (List.mem_map.2 ⟨d,this,rfl⟩)
  ·exact .inr (List.mem_map.2 ⟨d,this,rfl⟩)
def aNj:List Bool->List Bool->Bool
 | a :: m,b :: o=>if a=b then aNj m o else !a
 | _,_=>true
theorem aFi : ∀ {m o:List Bool},m.length=o.length->aNj m o=true->Cn.nE m o
 | [],[],_,_=> .inl rfl
 | a :: m,b :: o,hl,h=>by
  rw [aNj] at h
  by_cases e:a=b
  ·subst e
   rw [if_pos rfl] at h
   rcases aFi (by simpa using hl) h with rfl | ⟨j,hj,h1,h2,h3⟩
   ·exact .inl rfl
   ·refine .inr ⟨j+1,by simpa using hj,fun i hi=> ?_,by simpa using h2,by simpa using h3⟩
    cases i with
    | zero=>rfl
    | succ i=>simpa using h1 i (by omega)
  ·rw [if_neg e] at h
   have ha:a=false:=by simpa using h
   subst ha
   have hb:b=true:=by cases b;exact absurd rfl e;rfl
   subst hb
   exact .inr ⟨0,by simp,fun i hi=>by omega,rfl,rfl⟩
theorem aEq {ps:List PK} {wi:WI} {c:List Bool} {n:Nat} (hn:(aB ps wi).many=n) (hc:c.length=n) (hv:eK ps wi (bZ ps wi c)=true) (h:((aEf n).all fun d=> !eK ps wi (bZ ps wi d)||aNj c d)=true):pO ps wi c:=by
 refine ⟨hc.trans hn.symm,hv,fun d hd hdv=>aFi (by rw [hd,hn];exact hc) ?_⟩
 have:=List.all_eq_true.1 h d (by rw [← hn,← hd];exact tJ)
 rw [hdv] at this
 simpa using this
theorem aNq {ps:List PK} {wi:WI} {n:Nat} (hn:(aB ps wi).many=n) (h:((aEf n).all fun d=> !eK ps wi (bZ ps wi d))=true):fS ps wi:=fun d hd=>by
 have:=List.all_eq_true.1 h d (by rw [← hn,← hd];exact tJ)
 simpa using this
def aGd:At:=⟨⟨#[97]⟩,0,0,0,⟨#[120]⟩,true⟩
def wR:WI:=⟨[atA],[⟨3,[]⟩],[],[]⟩
def wX (ma:List Int):WI:=⟨[aGd],[⟨3,[]⟩],ma,[]⟩
def cR:List Bool:= [false,false,true,false,false]
def cX:List Bool:= [true,false,true,true,true]
theorem aOi:eM aY [⟨3,[]⟩]=0:=by
 unfold eM;rw [sH]
 show aMv aY [⟨3,[]⟩]=0
 decide
theorem aPi:aO [120]=true:=by decide
theorem aOq:bO aY wR=0:=by
 have h2:taE [atA]=0:=by
  have:iC atA=0:=by
   show chk [97] 0 0 0 [] false=0
   unfold chk
   rw [if_neg (by simp [xP]),if_neg (by decide),if_neg (by decide)]
  simp [taE,aV,this]
 unfold bO
 rw [show wR.ins = [⟨3,[]⟩] from rfl,show wR.ts = [atA] from rfl,show wR.ma = [] from rfl,show wR.on = [] from rfl,aOi,h2]
 rfl
theorem pS {ma:List Int} (h:ma = []∨ma = [0]∨ma = [0,2]):bO aY (wX ma)=0:=by
 have h2:taE [aGd]=0:=by
  have:iC aGd=0:=by
   show chk [97] 0 0 0 [120] true=0
   unfold chk
   rw [if_neg (by simp [xP,aPi]),if_neg (by decide),if_neg (by decide)]
  simp [taE,aV,this]
 unfold bO
 rw [show (wX ma).ins = [⟨3,[]⟩] from rfl,show (wX ma).ts = [aGd] from rfl,show (wX ma).ma=ma from rfl,show (wX ma).on = [] from rfl,aOi,h2]
 rcases h with rfl | rfl | rfl<;>rfl
theorem aOo:pO aY wR cR:=aEq (n:=5) (by decide) rfl (by decide +kernel) (by decide +kernel)
theorem aCa {ma:List Int} (h:ma = []∨ma = [0]):pO aY (wX ma) cX:=by
 rcases h with rfl | rfl<;>exact aEq (n:=5) (by decide) rfl (by decide +kernel) (by decide +kernel)
theorem aLa:fS aY (wX [0,2]):=aNq (n:=5) (by decide) (by decide +kernel)
theorem aQs:bZ aY wR cR = [⟨1,[false]⟩,⟨3,[]⟩]:=rfl
theorem aQt (ma:List Int):bZ aY (wX ma) cX = [⟨1,[true]⟩,⟨2,[]⟩]:=rfl
structure DR (ps:List PK) (wi:WI) (x:Cn.DD) (L:Nat) (w:World):Prop where
 tk:Cn.aH x.ro w (aB ps wi).tks x.tv
 fg : ∃ k,Cn.fV x.g1 k ((aB ps wi).fgs wi.on) w
 gl:x.ro x.g1
 pk:bC (fun b=>b<L) w ps x.pv
 many:x.many=(aB ps wi).many
 cap:iV x.pv
 ro : ∀ b,x.ro b->b<w.heap.size/\¬ x.own b
theorem DR.other {ps:List PK} {wi:WI} {x:Cn.DD} {L:Nat} {w w':World} (h:DR ps wi x L w) (hs:w.heap.size<=w'.heap.size) (k:Below L w w') (hb : ∀ b,x.ro b->w'.heap[b]? = w.heap[b]?):DR ps wi x L w':=by
 obtain ⟨n,hf⟩:=h.fg
 exact ⟨h.tk.mono (fun p hp=>World.cell?_of_block (w:=w) (hb _ hp)) fun _ h=>h,⟨n,hf.at (hb _ h.gl)⟩,h.gl,h.pk.keep (B:=L) (fun _ h=>h) k,h.many,h.cap,fun b hr=>⟨Nat.lt_of_lt_of_le (h.ro b hr).1 hs,(h.ro b hr).2⟩⟩
theorem DR.keep {ps:List PK} {wi:WI} {x:Cn.DD} {L:Nat} {w w':World} (h:DR ps wi x L w) (hL:L<=w.heap.size) (k:aA w w'):DR ps wi x L w':=h.other k.size (Below.mono k hL) fun b hr=>k.block b (h.ro b hr).1
theorem jX {x:Cn.DD} {L:Nat} {s:Cn.DS} {O':Nat->Prop} {w w':World} (d:Cn.DM x L s w) (t:Cn.aF x.own O' w w'):Below L w w':=t.below d.L fun b hb ho=>by have:=(d.lt ho).1;omega
theorem DR.turn {ps:List PK} {wi:WI} {x:Cn.DD} {L:Nat} {s:Cn.DS} {w w':World} {v:Value} {k:Nat} {cc:Nat->Prop} (h:DR ps wi x L w) (d:Cn.DM x L s w) (t:Cn.aF x.own (x.to v k cc).own w w'):DR ps wi (x.to v k cc) L w':=by
 have h2:=h.other t.size (jX d t) fun b hr=>t.block b (h.ro b hr).1 (h.ro b hr).2
 exact ⟨h2.tk,h2.fg,h2.gl,h2.pk,h2.many,h2.cap,fun b hr=>⟨(h2.ro b hr).1,fun ho=>(t.new b ho).elim (h.ro b hr).2 fun hge=>by have:=(h.ro b hr).1;omega⟩⟩
theorem oV {L:Nat} {w w':World} (hL:L<=w.heap.size) (k:aA w w'):Below L w w':=Below.mono k hL
theorem tV (x:Int) (b:Bool) (w:World) (h:x.natAbs<=900000):Calls Tryz.prog 116 #[.int .i64 x,.bool b] w fun e w'=>e=.returned (.int .i64 (Cn.sg x b))/\w'=w:=by
 have h1:x<=900000:=by omega
 have h2 : -900000<=x:=by omega
 cases b with
 | true=>
  go_enter Tryz.func116,Tryz.ntmps116
  go_wp2_with fail
  go_ret
  exact ⟨rfl,rfl⟩
 | false=>
  go_enter Tryz.func116,Tryz.ntmps116
  go_wp2_with fail
  go_ret
  exact ⟨rfl,rfl⟩
theorem uF:Tryz.prog.underlying 156=some (.map 105 3):=Tryz.underlying156
theorem zU (ps:List PK) (wi:WI) (x:Cn.DD) (L:Nat) (s:Cn.DS) (i:Nat) (nm:ByteArray) (w:World) (h:Cn.DM x L s w) (hr:DR ps wi x L w) (h8:ps.length<=8) (hi:i<ps.length) (hf:aP (ps.getD i PK.zero).fl nm<(ps.getD i PK.zero).fl.length) (hf2:(ps.getD i PK.zero).fl.length<=2) :
  Calls Tryz.prog 164 #[.pointer (some ⟨x.b,0,none⟩),.int .i64 i,.string nm] w fun e w'=>e=.returned (.int .i64 ((aB ps wi).fgL i (aP (ps.getD i PK.zero).fl nm)))/\aA w w':=by
 obtain ⟨pb,po,pc,hpv,hpb,-,hrow⟩:=hr.pk.get hi
 obtain ⟨cs,hcs,hpj⟩:=hrow i hi
 obtain ⟨k,a,fl,nt,kids,kp,fp,kc,fc,-,hfl0,rfl,hf0,-⟩:=hpj.spelt
 have c3:w.cell? ⟨pb,po+i*14+3,none⟩=some (.slice fp ps[i].fl.length fc):=hcs 3 _ rfl
 have hq:ps.getD i PK.zero=ps[i]:=jD ps i hi
 have hnf:=lZ wi hi
 have hnl:=cO ps wi
 rw [hq] at hf hf2 hnf ⊢
 obtain ⟨n,hm⟩:=hr.fg
 have hlt:=Cn.CT.fgs_get (c:=aB ps wi) (on:=wi.on) (fun i k=>rfl) (i:=i) (k:=aP ps[i].fl nm) (by rw [hnl];exact hi) (by rw [hnf];exact hf)
 have HI:=hid (show ∀ W,aA w W->Calls Tryz.prog 89 #[.slice fp ps[i].fl.length fc,.string nm] W fun e w'=>e=.returned (.int .i64 (aP ps[i].fl nm:Nat))/\w'=W from fun W kW=>by
  have hL:=h.L
  have:=aGy (fun b=>b<L) ps[i].fl (.slice fp ps[i].fl.length fc) nm W (hf0.keep (B:=w.heap.size) (fun b hb=>Nat.lt_of_lt_of_le hb hL) kW)
  rw [if_pos hf] at this
  exact this)
 have hsk:Cn.SmP ((aP ps[i].fl nm:Nat):Int):=by unfold Cn.SmP;omega
 have hsi:Cn.SmP ((i:Nat):Int):=by unfold Cn.SmP;omega
 have hlk:=hm.look uF hsi hsk
 have hlkd:=(hm.keep (aA.drew (aA.refl w))).look uF hsi hsk
 rw [hlt] at hlk hlkd
 generalize (aB ps wi).fgL i (aP ps[i].fl nm)=r at hlk hlkd ⊢
 generalize ps[i].fl=fs at c3 HI hlk hlkd hf hf2 hfl0 hsk
 generalize aP fs nm=kf at HI hlk hlkd hf hsk
 have hb2:w.cell? ⟨x.b,2,none⟩=some (.map (some x.g1)):=h.cell 2
 have hb3:w.cell? ⟨x.b,3,none⟩=some (.slice (some ⟨pb,po,none⟩) ps.length pc):=(h.cell 3).trans (congrArg some hpv)
 have hbl:=h.box.facts.2.2
 have hpl:pb<w.heap.size:=Nat.lt_of_lt_of_le hpb h.L
 have hiI:(i:Int)<(ps.length:Int):=by omega
 have HS:=hid (show w.cell? ⟨x.b,2,none⟩=some (.map (some x.g1))/\w.cell? ⟨x.b,3,none⟩=some (.slice (some ⟨pb,po,none⟩) ps.length pc)/\w.cell? ⟨pb,po+i*14+3,none⟩=some (.slice fp fs.length fc)/\(Instr.lookup 156 (.map (some x.g1)) (.agg #[.int .i64 i,.int .i64 kf]) false).run Tryz.prog w=.ok (.int .i64 r) w from ⟨hb2,hb3,c3,hlk⟩)
 have HSd:=hid (show w.drew.cell? ⟨x.b,2,none⟩=some (.map (some x.g1))/\w.drew.cell? ⟨x.b,3,none⟩=some (.slice (some ⟨pb,po,none⟩) ps.length pc)/\w.drew.cell? ⟨pb,po+i*14+3,none⟩=some (.slice fp fs.length fc)/\(Instr.lookup 156 (.map (some x.g1)) (.agg #[.int .i64 i,.int .i64 kf]) false).run Tryz.prog w.drew=.ok (.int .i64 r) w.drew from ⟨hb2,hb3,c3,hlkd⟩)
 clear hcs hpj hrow hf0 hm h hr hpv hq hnf hnl hlt
 go_enter Tryz.func164,Tryz.ntmps164
 go_upto_region 1 with fail
 go_region_held3 (fun W'=>W'.cell? ⟨x.b,2,none⟩=some (.map (some x.g1))/\W'.cell? ⟨x.b,3,none⟩=some (.slice (some ⟨pb,po,none⟩) ps.length pc)/\W'.cell? ⟨pb,po+i*14+3,none⟩=some (.slice fp fs.length fc)/\(Instr.lookup 156 (.map (some x.g1)) (.agg #[.int .i64 i,.int .i64 kf]) false).run Tryz.prog W'=.ok (.int .i64 r) W')
  (first | with_reducible exact HS.out | with_reducible exact HSd.out | go_keep)
  (first | (go_at_call 89;refine (HI.out _ (aA.drew (aA.refl _))).mono ?_;rintro e w7 ⟨rfl,hw7⟩;rw [hw7];clear hw7))
 go_wp2_with fail
 go_ret
 exact ⟨rfl,aA.drew (aA.refl _)⟩
end Go.Proofs.YtonlloiemgdfkaaGreatDoor
namespace Go.Proofs.YtonlloiemgdfkaaGreatDoor
theorem oG {ps:List PK} {wi:WI} (hok:(aB ps wi).Ok) (h8:ps.length<=8) {s:Cn.DS} {m c:Nat} (h:Cn.Bd s m c) (hm:(aB ps wi).many<=m) (but:Int) (a:At):Cn.Bd (cT ps (aB ps wi) but s a).1 (m+8) (c+24)/\(∀ y∈(cT ps (aB ps wi) but s a).2,y.natAbs<=m+8)/\(cT ps (aB ps wi) but s a).2.length<=8:=by
 obtain ⟨h1,h2,h3⟩:=Cn.aBy (but:=but) (nof:=a.f.toList.isEmpty) (tk:=fun z=>(aB ps wi).tkL z.toNat) (fg:=fgA ps (aB ps wi) a) (bS ps a ps.length) s [] m c h (fun z hz=>by
  exact Nat.le_trans (oF hok a z hz).1.2 hm) (fun y hy=>by simp at hy)
 have hl:=fY ps a ps.length
 unfold cT
 exact ⟨h1.mono (by omega) (by omega),fun y hy=>Nat.le_trans (h2 y hy) (by omega),by simp at h3;omega⟩
mutual
theorem aOe {ps:List PK} {wi:WI} (hok:(aB ps wi).Ok) (h8:ps.length<=8) {i:Nat} (hi:i<ps.length) : ∀ (t:NT) (s:Cn.DS) (m c:Nat),Cn.Bd s m c->(aB ps wi).many<=m->(∀ f∈t.flags,aP (ps.getD i PK.zero).fl f<(ps.getD i PK.zero).fl.length)->t.size<=50->
  Cn.Bd (ndS ps (aB ps wi) i t s).1 (m+10*t.size) (c+100*t.size)/\(ndS ps (aB ps wi) i t s).2.natAbs<=m+10*t.size
 | .node kd a fl nt kids,s,m,c,h,hm,hfl,hsz=>by
  rw [NT.flags] at hfl
  rw [NT.size] at hsz ⊢
  obtain ⟨g1,g2⟩:=aJj hok h8 hi kids s m c h hm (fun f hf=>hfl f (List.mem_append_right _ hf)) (by omega)
  have hlen:=rT ps (aB ps wi) i kids s
  have hkl:=rU kids
  rw [ndS]
  generalize kdS ps (aB ps wi) i kids s=Q at g1 g2 hlen ⊢
  by_cases k1:kd=1
  ·rw [if_pos k1]
   obtain ⟨j1,j2,j3⟩:=oG hok h8 g1 (by omega) (-1) a
   exact ⟨(j1.some (k:=8) j3).mono (by omega) (by omega),Nat.le_trans (j1.someL fun y hy=>Nat.le_trans (j2 y hy) (by omega)) (by omega)⟩
  rw [if_neg k1]
  by_cases k2:kd=2
  ·rw [if_pos k2]
   obtain ⟨j1,j2,j3⟩:=oG hok h8 g1 (by omega) i a
   refine ⟨(j1.some (k:=8) j3).mono (by omega) (by omega),?_⟩
   show (-(_:Int)).natAbs<=_
   rw [Int.natAbs_neg]
   exact Nat.le_trans (j1.someL fun y hy=>Nat.le_trans (j2 y hy) (by omega)) (by omega)
  rw [if_neg k2]
  by_cases k4:kd=4
  ·rw [if_pos k4]
   exact ⟨(g1.some (k:=50) (by omega)).mono (by omega) (by omega),Nat.le_trans (g1.someL fun y hy=>Nat.le_trans (g2 y hy) (by omega)) (by omega)⟩
  rw [if_neg k4]
  have a1:=g1.all (k:=50) (l:=Q.2) (by omega)
  have a2:(Q.1.allL Q.2).natAbs<=m+10*bI kids+1:=g1.allL fun y hy=>Nat.le_trans (g2 y hy) (Nat.le_succ _)
  by_cases k5:kd=5
  ·rw [if_pos k5]
   have hf:=Cn.CT.fg_lit (aB ps wi) (i:=i) (k:=aP (ps.getD i PK.zero).fl fl) (by rw [cO];exact hi) (by rw [lZ wi hi];exact hfl fl (by simp [k5]))
   have hf2:=(Cn.qG hf nt).2
   have a3:((Q.1.allS Q.2).someL [Cn.sg ((aB ps wi).fgL i (aP (ps.getD i PK.zero).fl fl)) nt,Q.1.allL Q.2]).natAbs<=m+10*bI kids+1+1:=a1.someL fun y hy=>by
    rcases List.mem_cons.1 hy with rfl | hy
    ·omega
    ·rw [List.mem_singleton.1 hy];omega
   exact ⟨(a1.some (k:=2) (by simp)).mono (by omega) (by omega),Nat.le_trans (show (ifS _ (qL Q)).2.natAbs<=_ from a3) (by omega)⟩
  ·rw [if_neg k5]
   exact ⟨a1.mono (by omega) (by omega),Nat.le_trans (show (qL Q).2.natAbs<=_ from a2) (by omega)⟩
theorem aJj {ps:List PK} {wi:WI} (hok:(aB ps wi).Ok) (h8:ps.length<=8) {i:Nat} (hi:i<ps.length) : ∀ (ts:List NT) (s:Cn.DS) (m c:Nat),Cn.Bd s m c->(aB ps wi).many<=m->(∀ f∈cU ts,aP (ps.getD i PK.zero).fl f<(ps.getD i PK.zero).fl.length)->bI ts<=49->
  Cn.Bd (kdS ps (aB ps wi) i ts s).1 (m+10*bI ts) (c+100*bI ts)/\∀ y∈(kdS ps (aB ps wi) i ts s).2,y.natAbs<=m+10*bI ts
 | [],s,m,c,h,_,_,_=>by rw [kdS];exact ⟨h.mono (by omega) (by omega),by simp⟩
 | t :: ts,s,m,c,h,hm,hfl,hsz=>by
  rw [cU] at hfl
  rw [bI] at hsz ⊢
  obtain ⟨g1,g2⟩:=aOe hok h8 hi t s m c h hm (fun f hf=>hfl f (List.mem_append_left _ hf)) (by omega)
  obtain ⟨j1,j2⟩:=aJj hok h8 hi ts _ _ _ g1 (by omega) (fun f hf=>hfl f (List.mem_append_right _ hf)) (by omega)
  rw [kdS]
  refine ⟨j1.mono (by omega) (by omega),fun y hy=> ?_⟩
  rcases List.mem_cons.1 hy with rfl | hy
  ·omega
  ·exact Nat.le_trans (j2 y hy) (by omega)
end
end Go.Proofs.YtonlloiemgdfkaaGreatDoor
namespace Go.Proofs.YtonlloiemgdfkaaGreatDoor
open Go.RowKit
def aEp (ps:List PK) (c:Cn.CT) (but:Int) (a:At):Cn.DS × List Int->Int->Cn.DS × List Int:=Cn.gF but a.f.toList.isEmpty (fun z=>c.tkL z.toNat) (fgA ps c a)
def aMi (x:Cn.DD) (L:Nat) (r:Cn.DS × List Int) (w:World) (e:Ending) (w':World):Prop:=
 ∃ (lp:Option Addr) (lc:Nat) (v:Value) (k:Nat) (cc:Nat->Prop),e=.returned (.slice lp r.2.length lc)/\(lp=none->lc=0)/\Cn.aH (fun b=>w.heap.size<=b/\b<w'.heap.size/\¬ (x.to v k cc).own b) w' r.2 (.slice lp r.2.length lc)/\Cn.DM (x.to v k cc) L r.1 w'/\Cn.aF x.own (x.to v k cc).own w w'
theorem aFl {B:Nat} {zs:List Int} {p:Option Addr} {n c:Nat} {w:World} (h:Cn.aQ B (.slice p n c) zs w):p=none->c=0:=by
 rintro rfl
 obtain ⟨-,⟨e,-⟩ | ⟨g,cap,cur,e,-⟩⟩:=h
 ·cases e;rfl
 ·cases e
theorem aAu {B:Nat} {zs:List Int} {p:Option Addr} {n c:Nat} {w:World} {O:Nat->Prop} (h:Cn.aQ B (.slice p n c) zs w) (hl:zs.length<=1000000) (ho : ∀ g,(Value.slice p n c).ownBlock=some g->¬ O g):Cn.aH (fun b=>B<=b/\b<w.heap.size/\¬ O b) w zs (.slice p n c):=by
 obtain ⟨p',c',e1,e2,e3⟩:=h.nums hl
 cases e1
 refine ⟨p,c,rfl,e2,fun h0=> ?_⟩
 obtain ⟨b,off,rfl,hb,hc⟩:=e3 h0
 exact ⟨b,off,rfl,⟨hb.1,hb.2,ho b (by
  obtain ⟨-,⟨e,-⟩ | ⟨g,cap,cur,e,-⟩⟩:=h
  ·cases e
  ·cases e;rfl)⟩,hc⟩
theorem aGt {α β:Type} (F:α->β->α) (a:α) {zs:List β} {j:Nat} {z:β} (h:zs[j]? = some z):(zs.take (j+1)).foldl F a=F ((zs.take j).foldl F a) z:=by
 obtain ⟨hj,rfl⟩:=List.getElem?_eq_some_iff.1 h
 rw [List.take_succ_eq_append_getElem hj,List.foldl_append]
 rfl
theorem aMt {ps:List PK} {wi:WI} (hok:(aB ps wi).Ok) (h8:ps.length<=8) {s:Cn.DS} {m c:Nat} (h:Cn.Bd s m c) (hm:(aB ps wi).many<=m) (but:Int) (a:At) (j:Nat):Cn.Bd (((bS ps a ps.length).take j).foldl (aEp ps (aB ps wi) but a) (s,[])).1 (m+8) (c+24)/\(((bS ps a ps.length).take j).foldl (aEp ps (aB ps wi) but a) (s,[])).2.length<=8:=by
 obtain ⟨h1,h2,h3⟩:=Cn.aBy (but:=but) (nof:=a.f.toList.isEmpty) (tk:=fun z=>(aB ps wi).tkL z.toNat) (fg:=fgA ps (aB ps wi) a) ((bS ps a ps.length).take j) s [] m c h (fun z hz=>Nat.le_trans (oF hok a z (List.mem_of_mem_take hz)).1.2 hm) (fun y hy=>by simp at hy)
 have hl:=fY ps a ps.length
 have ht:((bS ps a ps.length).take j).length<=8:=by rw [List.length_take];omega
 exact ⟨h1.mono (by omega) (by omega),by simp only [List.length_nil] at h3;exact Nat.le_trans h3 (by omega)⟩
theorem wC {x x':Cn.DD} {lv:Value} {w w':World} (h : ∀ g,lv.ownBlock=some g->g<w.heap.size/\¬ x.own g) (t:Cn.aF x.own x'.own w w') : ∀ g,lv.ownBlock=some g->¬ x'.own g:=fun g hg ho=>by
 rcases t.new g ho with h1 | h1
 ·exact (h g hg).2 h1
 ·have:=(h g hg).1;omega
theorem aLz {O O':Nat->Prop} {w7 wr w5:World} {v:Value} (t:Cn.aF O O' w7 wr) (g:wr.grownBy w5 v.ownBlock) (hv : ∀ c,v.ownBlock=some c->w7.heap.size<=c):Cn.aF O O' w7 w5:=
 ⟨g.os.trans t.os,g.tape.trans t.tape,g.output.trans t.output,Nat.le_trans t.size g.size,fun b hb hn=>(g.block b (Nat.lt_of_lt_of_le hb t.size) (fun e=>by have:=hv b e.symm;omega)).trans (t.block b hb hn),t.new⟩
theorem sR {wr w5:World} {v:Value} (g:wr.grownBy w5 v.ownBlock) {b o:Nat} (hb:b<wr.heap.size) (hv:v.ownBlock≠some b):w5.cell? ⟨b,o,none⟩=wr.cell? ⟨b,o,none⟩:=World.cell?_of_block (w:=wr) (g.block b hb (fun e=>hv e.symm))
theorem sE {x:Cn.DD} {L:Nat} {s2:Cn.DS} {O:Nat->Prop} {acc:List Int} {z:Int} {lv v5:Value} {w7 wr w5:World} {o:Obj} (ow:Cn.aQ w7.heap.size lv acc wr) (ap : ∀ g,lv.ownBlock=some g->¬ x.own g) (d:Cn.DM x L s2 wr) (t:Cn.aF O x.own w7 wr) (h1:w5.ownsRow w7.heap.size 3 1 v5 (acc.length+1) (acc.map (Value.int .i64) ++ [.int .i64 z])) (h2:(wr.alloc o).grownBy w5 lv.ownBlock) (h4:v5.ownBlock=lv.ownBlock∨v5.ownBlock=some (wr.alloc o).heap.size) :
  Cn.aQ w7.heap.size v5 (acc ++ [z]) w5/\(∀ g,v5.ownBlock=some g->¬ x.own g)/\Cn.DM x L s2 w5/\Cn.aF O x.own w7 w5:=by
 have g5:=Cn.bU h2
 refine ⟨?_,fun g hg ho=> ?_,d.other g5.size fun b ho=>g5.block b (d.lt ho).2 (fun e=>ap b e.symm ho),aLz t g5 fun c hc=>(Cn.bL ow hc).1⟩
 ·unfold Cn.aQ
  rw [List.length_append,List.map_append]
  exact h1
 ·rcases Cn.mW h4 with e | ⟨g',e,hge⟩
  ·exact ap g (e ▸ hg) ho
  ·rw [e] at hg
   have:=Option.some.inj hg
   have:=(d.lt ho).2
   omega
theorem vI (ps:List PK) (wi:WI) (x:Cn.DD) (L:Nat) (s:Cn.DS) (an af:ByteArray) (aop av asl:Int) (aon:Bool) (but:Int) (w:World) (m c:Nat) (hT:dC ps=0) (hA:iC ⟨an,aop,av,asl,af,aon⟩=0) (hok:(aB ps wi).Ok) (h:Cn.DM x L s w) (hr:DR ps wi x L w) (hb:Cn.Bd s m c) (hm:(aB ps wi).many<=m) (hm2:m<=400000) (hc2:c<=400000) :
  Calls Tryz.prog 107 #[.pointer (some ⟨x.b,0,none⟩),.agg #[.string an,.int .i64 aop,.int .i64 av,.int .i64 asl,.string af,.bool aon],.int .i64 but] w fun e w'=>aMi x L (cT ps (aB ps wi) but s ⟨an,aop,av,asl,af,aon⟩) w e w':=by
 obtain ⟨i0,hi,hz0,hz1,hz2⟩:=info_parts cW
 have h8:=(dG hT).1
 have HD:=hid h
 have HR:=hid hr
 have HLL:=hid h.L
 have HE:=hid (show kR ps ⟨an,aop,av,asl,af,aon⟩=0 by unfold kR;rw [hT];simpa using hA)
 have HBJ:=hid (fun j=>aMt hok h8 hb hm but ⟨an,aop,av,asl,af,aon⟩ j)
 obtain ⟨pp,pc,hpv,hpl⟩:=hr.pk.len
 have HPV:=hid hpv
 have hbl:=h.box.facts.2.2
 have hb3:w.cell? ⟨x.b,3,none⟩=some (.slice pp ps.length pc):=(h.cell 3).trans (congrArg some hpv)
 have HPK:=hid (hpv ▸ hr.pk)
 have HLITS:=hid (oF hok ⟨an,aop,av,asl,af,aon⟩)
 have HASK:Hid (cT ps (aB ps wi) but s ⟨an,aop,av,asl,af,aon⟩=(bS ps ⟨an,aop,av,asl,af,aon⟩ ps.length).foldl (aEp ps (aB ps wi) but ⟨an,aop,av,asl,af,aon⟩) (s,[])):=rfl
 have HML:=hid (fY ps ⟨an,aop,av,asl,af,aon⟩ ps.length)
 clear h hr hb hpv hA
 go_enter Tryz.func107,Tryz.ntmps107
 go_upto_region 1 with fail
 refine bR (fun W'=>aA w W'/\aT w.heap.size #[.string an,.int .i64 aop,.int .i64 av,.int .i64 asl,.string af,.bool aon] W') ⟨aA.alloc _ _,aT.new _ _ _⟩ ?_
 rintro W1 ⟨k1,b1⟩
 have K1:=hid k1
 have B1:=hid b1
 have D1:=hid (HD.out.keep k1)
 have hb31:W1.cell? ⟨x.b,3,none⟩=some (.slice pp ps.length pc):=(k1.cell (p:=⟨x.b,3,none⟩) hbl).trans hb3
 have HS:=hid (show W1.cell? ⟨x.b,3,none⟩=some (.slice pp ps.length pc)/\∀ o,W1.cell? ⟨w.heap.size,o,none⟩=(#[.string an,.int .i64 aop,.int .i64 av,.int .i64 asl,.string af,.bool aon]:Array Value)[o]? from ⟨hb31,b1.2⟩)
 have HSd:=hid (show W1.drew.cell? ⟨x.b,3,none⟩=some (.slice pp ps.length pc)/\∀ o,W1.drew.cell? ⟨w.heap.size,o,none⟩=(#[.string an,.int .i64 aop,.int .i64 av,.int .i64 asl,.string af,.bool aon]:Array Value)[o]? from ⟨hb31,b1.2⟩)
 have hbl1:x.b<W1.heap.size:=Nat.lt_of_lt_of_le hbl k1.size
 have hwl1:w.heap.size<W1.heap.size:=b1.1
 clear k1 b1
 have HCM:=hid (show ∀ W,aA W1 W->Calls Tryz.prog 162 #[.agg #[.slice pp ps.length pc],.agg #[.string an,.int .i64 aop,.int .i64 av,.int .i64 asl,.string af,.bool aon]] W fun e w'=> ∃ v,e=.returned (.tuple #[v,.int .i64 0])/\aQ (W.heap.size+2) v (bS ps ⟨an,aop,av,asl,af,aon⟩ ps.length) w'/\aA W w' from fun W kW=>by
  have hL:=HLL.out
  have hk:aA w W:=K1.out.trans kW
  refine (aDd (fun b=>b<L) ps _ an af aop av asl aon W (fun b hb=>by have:=hk.size;omega) (HPK.out.keep (B:=w.heap.size) (fun b hb=>by omega) hk)).mono ?_
  rintro e w' ⟨v,rfl,-,h3,h4⟩
  exact ⟨v,by rw [HE.out],h3 HE.out,h4⟩)
 go_region_held3 (fun W'=>W'.cell? ⟨x.b,3,none⟩=some (.slice pp ps.length pc)/\∀ o,W'.cell? ⟨w.heap.size,o,none⟩=(#[.string an,.int .i64 aop,.int .i64 av,.int .i64 asl,.string af,.bool aon]:Array Value)[o]?)
  (first | with_reducible exact HS.out | with_reducible exact HSd.out | with_reducible exact HS2.out | go_keep)
  (first | (go_at_call 162;refine (HCM.out _ (aA.drew (aA.refl _))).mono ?_;rintro e w7 ⟨zv,rfl,hzv,k7⟩;have K7:=hid (gH k7);have ZV:=hid hzv;have HS2:=hid (show w7.cell? ⟨x.b,3,none⟩=some (.slice pp ps.length pc)/\∀ o,w7.cell? ⟨w.heap.size,o,none⟩=(#[.string an,.int .i64 aop,.int .i64 av,.int .i64 asl,.string af,.bool aon]:Array Value)[o]? from ⟨(K7.out.cell (p:=⟨x.b,3,none⟩) hbl1).trans HS.out.1,fun o=>(K7.out.cell (p:=⟨w.heap.size,o,none⟩) hwl1).trans (HS.out.2 o)⟩);clear k7 hzv))
 obtain ⟨zp,zc,hzs⟩:=ZV.out.ints.len
 subst hzs
 have D7:=hid (D1.out.keep K7.out)
 have KW:=hid (K1.out.trans K7.out)
 have HNO:=hid (show ∀ b,w.heap.size<=b->¬ x.own b from fun b hb ho=>by have:=(HD.out.lt ho).2;omega)
 have BX:=hid HS2.out.2
 have hw7:w.heap.size<w7.heap.size:=Nat.lt_of_lt_of_le hwl1 K7.out.size
 have hZB:w.heap.size<W1.drew.heap.size+2:=by have:W1.drew.heap.size=W1.heap.size:=rfl;omega
 have ZN:=hid (show Cn.aH (fun b=>w.heap.size<b/\b<w7.heap.size) w7 (bS ps ⟨an,aop,av,asl,af,aon⟩ ps.length) (.slice zp (bS ps ⟨an,aop,av,asl,af,aon⟩ ps.length).length zc) from (Cn.aQ.nums (show Cn.aQ _ _ _ _ from ZV.out) (by have:=HML.out;omega)).mono (fun _ _=>rfl) (fun b hb=>⟨by have:=hb.1;omega,hb.2⟩))
 clear HS HSd HS2 hb31 hb3 D1 K1 ZV B1 HPK HPV hbl1 hwl1 hpl
 have hml:=HML.out
 obtain ⟨zs,hzs⟩ : ∃ zs,zs=bS ps ⟨an,aop,av,asl,af,aon⟩ ps.length:=⟨_,rfl⟩
 rw [← hzs] at ZN HASK HBJ HLITS hml ⊢
 have HZS:=hid hzs
 clear hzs HML
 obtain ⟨F,hF⟩ : ∃ F,F=aEp ps (aB ps wi) but ⟨an,aop,av,asl,af,aon⟩:=⟨_,rfl⟩
 rw [← hF] at HASK HBJ
 have HF:=hid hF
 clear hF
 go_wp2_with fail
 go_loopg [9,23] zs.length (fun gk lv iv wr=> ∃ (j:Nat) (v:Value) (k:Nat) (cc:Nat->Prop),j+gk=zs.length/\iv=.int .i64 j/\Cn.aQ w7.heap.size lv ((zs.take j).foldl F (s,[])).2 wr/\(∀ g,lv.ownBlock=some g->¬ (x.to v k cc).own g)/\Cn.DM (x.to v k cc) L ((zs.take j).foldl F (s,[])).1 wr/\Cn.aF x.own (x.to v k cc).own w7 wr)
 case atStart=>exact ⟨0,x.cv,x.np,x.cs,by omega,rfl,World.ownsRow_nil _ _ _ _,by simp [Value.ownBlock],D7.out,Cn.aF.refl _ _⟩
 case round=>
  obtain ⟨j,v,k,cc,hj,rfl,hown,hap,hd,ht⟩:=hrel
  have OW:=hid hown
  have AP:=hid hap
  have D2:=hid hd
  have T2:=hid ht
  obtain ⟨lp,lc,hlv⟩:=hown.ints.len
  subst hlv
  clear hown hap hd ht D7
  by_cases hlt:j<zs.length
  ·obtain ⟨zb,zo,rfl,hzb,hzc⟩:=(ZN.out.turn T2.out (fun b hb=>⟨hb.2,HNO.out b (by omega)⟩)).nth hlt
   have hcj:=hzc j _ (List.getElem?_eq_getElem hlt)
   have HZJ:=hid (List.getElem?_eq_getElem hlt)
   have hzl:=HLITS.out zs[j] (List.getElem_mem hlt)
   have hzm : ∃ i:Nat,i<ps.length/\zs[j]=(i:Int)/\iN (ps.getD i PK.zero) ⟨an,aop,av,asl,af,aon⟩=true:=jZ.1 (by rw [← HZS.out];exact List.getElem_mem hlt)
   have hzbl:=Nat.lt_of_lt_of_le hzb.2 T2.out.size
   have hjI:(j:Int)<(zs.length:Int):=by omega
   have HNX:=hid (aGt F (s,[]) HZJ.out)
   obtain ⟨hbd,hal⟩:=HBJ.out j
   generalize zs[j]=z at hcj hzl hzm HNX
   obtain ⟨i,hip,rfl,hmt⟩:=hzm
   generalize (zs.take j).foldl F (s,[])=st at OW D2 HNX hbd hal AP ⊢
   obtain ⟨s2,acc⟩:=st
   dsimp only at OW D2 hbd hal AP ⊢
   have HFE:=hid (show F (s2,acc) (i:Int)=if (i:Int)=but then (s2,acc) else if af.toList.isEmpty=true then (s2,acc ++ [(aB ps wi).tkL i]) else (s2.bothS ((aB ps wi).tkL i) (fgA ps (aB ps wi) ⟨an,aop,av,asl,af,aon⟩ (i:Int)),acc ++ [s2.bothL ((aB ps wi).tkL i) (fgA ps (aB ps wi) ⟨an,aop,av,asl,af,aon⟩ (i:Int))]) by rw [HF.out];rfl)
   clear hzc
   by_cases hbt:(i:Int)=but
   ·have hb1:((i:Int)==but)=true:=by simpa using hbt
    have HN:=hid (HNX.out.trans (HFE.out.trans (if_pos hbt)))
    clear hbt
    go_wp2_with fail
    go_roundg (zs.length-(j+1))
    case rel=>exact ⟨j+1,v,k,cc,by omega,by go_num,by rw [HN.out];exact OW.out,AP.out,by rw [HN.out];exact D2.out,T2.out⟩
    case measure=>omega
   ·have hb1:((i:Int)==but)=false:=by simpa using hbt
    have HFE2:=hid (HNX.out.trans (HFE.out.trans (if_neg hbt)))
    have B2:=hid (jX HD.out ((Cn.aF.keep KW.out).trans T2.out))
    have R2:=hid (HR.out.turn HD.out ((Cn.aF.keep KW.out).trans T2.out))
    have BX2:=hid (show ∀ o,wr.cell? ⟨w.heap.size,o,none⟩=(#[.string an,.int .i64 aop,.int .i64 av,.int .i64 asl,.string af,.bool aon]:Array Value)[o]? from fun o=>(T2.out.cell ⟨w.heap.size,o,none⟩ hw7 (HNO.out _ (Nat.le_refl _))).trans (BX.out o))
    have hwlr:w.heap.size<wr.heap.size:=Nat.lt_of_lt_of_le hw7 T2.out.size
    have ha4:wr.cell? ⟨w.heap.size,4,none⟩=some (.string af):=BX2.out 4
    have ha5:wr.cell? ⟨w.heap.size,5,none⟩=some (.bool aon):=BX2.out 5
    have hb1c:wr.cell? ⟨x.b,1,none⟩=some x.tv:=D2.out.cell 1
    have hbl2:x.b<wr.heap.size:=D2.out.box.facts.2.2
    have hnl:=cO ps wi
    have htl:=Cn.CT.tks_len (aB ps wi)
    obtain ⟨tp,tc,htv,-⟩:=R2.out.tk.shape
    have htv2:x.tv=.slice tp (aB ps wi).tks.length tc:=htv
    obtain ⟨tb,tof,htp,htb,htc⟩:=(htv ▸ R2.out.tk:Cn.aH _ wr (aB ps wi).tks (.slice tp (aB ps wi).tks.length tc)).nth (k:=i) (by omega)
    subst htp
    have htk:=htc i _ (Cn.CT.tks_get (aB ps wi) (i:=i) (by omega))
    rw [htv2,htl,hnl] at hb1c
    have htbw:tb<w.heap.size/\¬ x.own tb:=HR.out.ro tb htb
    have htbn : ¬ (x.to v k cc).own tb:=(R2.out.ro tb htb).2
    have htbl:tb<wr.heap.size:=(R2.out.ro tb htb).1
    have hiI:(i:Int)<(ps.length:Int):=by omega
    have htm:((aB ps wi).tkL i).natAbs<=(aB ps wi).many:=hzl.1.2
    have hm14:=hm
    have hw7r:=T2.out.size
    have HTL:=hid (And.intro hnl htl)
    clear htc hnl htl htv htv2 hbt
    cases hem:af.toList.isEmpty
    ·have h3:(af.toList == [])=false:=by simpa using hem
     have HN:=hid (HFE2.out.trans (if_neg (by rw [hem];decide)))
     have hfl:aP (ps.getD i PK.zero).fl af<(ps.getD i PK.zero).fl.length:=by
      unfold iN at hmt
      dsimp only at hmt
      rw [hem] at hmt
      simp only [Bool.and_eq_true,Bool.false_or] at hmt
      exact rQ.1 hmt.2.2
     have hfl2:(ps.getD i PK.zero).fl.length<=2:=(mO (iD ((dG hT).2 _ (by rw [List.getD_eq_getElem?_getD,List.getElem?_eq_getElem hip];exact List.getElem_mem hip))).2.2.1).1
     have hfgl:(fgA ps (aB ps wi) ⟨an,aop,av,asl,af,aon⟩ (i:Int)).natAbs<=(aB ps wi).many:=(hzl.2 hem).1.2
     have HFG:=hid (show fgA ps (aB ps wi) ⟨an,aop,av,asl,af,aon⟩ (i:Int)=Cn.sg ((aB ps wi).fgL i (aP (ps.getD i PK.zero).fl af)) aon by unfold fgA;rw [Int.toNat_natCast])
     have hfg0:((aB ps wi).fgL i (aP (ps.getD i PK.zero).fl af)).natAbs<=900000:=by rw [HFG.out,Cn.aDr] at hfgl;omega
     have HS:=hid (show wr.cell? ⟨x.b,1,none⟩=some (.slice (some ⟨tb,tof,none⟩) ps.length tc)/\wr.cell? ⟨tb,tof+i,none⟩=some (.int .i64 ((aB ps wi).tkL i))/\wr.cell? ⟨w.heap.size,4,none⟩=some (.string af)/\wr.cell? ⟨w.heap.size,5,none⟩=some (.bool aon) from ⟨hb1c,htk,ha4,ha5⟩)
     have HSd:=hid (show wr.drew.cell? ⟨x.b,1,none⟩=some (.slice (some ⟨tb,tof,none⟩) ps.length tc)/\wr.drew.cell? ⟨tb,tof+i,none⟩=some (.int .i64 ((aB ps wi).tkL i))/\wr.drew.cell? ⟨w.heap.size,4,none⟩=some (.string af)/\wr.drew.cell? ⟨w.heap.size,5,none⟩=some (.bool aon) from ⟨hb1c,htk,ha4,ha5⟩)
     have HBD:=hid hbd
     have hsn:s2.n<=500000:=by have:=hbd.1;omega
     have hscl:s2.cl.length<=500000:=by have:=hbd.2.1;omega
     generalize hfr:(aB ps wi).fgL i (aP (ps.getD i PK.zero).fl af)=fr at hfg0 HFG
     have HFR:=hid hfr
     generalize (aB ps wi).tkL i=tki at htk htm HN HS HSd
     clear hfr hbd
     have HCF:=hid (show ∀ W,aA wr W->Calls Tryz.prog 164 #[.pointer (some ⟨x.b,0,none⟩),.int .i64 i,.string af] W fun e w'=>e=.returned (.int .i64 fr)/\aA W w' from fun W kW=>by
      rw [← HFR.out]
      exact zU ps wi (x.to v k cc) L s2 i af W (D2.out.keep kW) (R2.out.keep (by have:=HLL.out;omega) kW) h8 hip hfl hfl2)
     have HLV:=hid (show ∀ b,b<w7.heap.size->(Value.slice lp acc.length lc).ownBlock≠some b from fun b hb e=>by have:=(Cn.bL OW.out e).1;omega)
     have hLw:L<=w.heap.size:=HLL.out
     have HNA:=hid (show ¬ (x.to v k cc).own w.heap.size from fun ho=>by
      rcases T2.out.new _ ho with h | h
      ·exact HNO.out _ (Nat.le_refl _) h
      ·omega)
     have HCB:=hid (show ∀ W,aA wr W->Calls Tryz.prog 163 #[.pointer (some ⟨x.b,0,none⟩),.int .i64 tki,.int .i64 (Cn.sg fr aon)] W fun e w'=>e=.returned (.int .i64 (s2.bothL tki (Cn.sg fr aon)))/\∃ v3 k3 c3,Cn.DM (x.to v3 k3 c3) L (s2.bothS tki (Cn.sg fr aon)) w'/\Cn.aF x.own (x.to v3 k3 c3).own w7 w'/\Cn.aQ w7.heap.size (.slice lp acc.length lc) acc w'/\(∀ g,(Value.slice lp acc.length lc).ownBlock=some g->¬ (x.to v3 k3 c3).own g)/\wr.heap.size<=w'.heap.size/\(w'.cell? ⟨x.b,1,none⟩=some (.slice (some ⟨tb,tof,none⟩) ps.length tc)/\w'.cell? ⟨tb,tof+i,none⟩=some (.int .i64 tki)/\w'.cell? ⟨w.heap.size,4,none⟩=some (.string af)/\w'.cell? ⟨w.heap.size,5,none⟩=some (.bool aon)) from fun W kW=>by
      refine (Cn.aJn (x.to v k cc) L s2 tki (Cn.sg fr aon) W (D2.out.keep kW) (by omega) (by rw [Cn.aDr];exact hfg0) hscl hsn).mono ?_
      rintro e w10 ⟨rfl,v3,k3,c3,d3,t3⟩
      have TR:Cn.aF (x.to v k cc).own (x.to v3 k3 c3).own wr w10:=(Cn.aF.keep kW).trans t3
      refine ⟨rfl,v3,k3,c3,d3,T2.out.trans TR,Cn.cF OW.out (fun g hg=>TR.block g (Cn.bL OW.out hg).2 (AP.out g hg)),wC (fun g hg=>⟨(Cn.bL OW.out hg).2,AP.out g hg⟩) TR,TR.size,?_,(TR.cell ⟨tb,tof+i,none⟩ htbl htbn).trans HS.out.2.1,(TR.cell ⟨w.heap.size,4,none⟩ hwlr HNA.out).trans HS.out.2.2.1,(TR.cell ⟨w.heap.size,5,none⟩ hwlr HNA.out).trans HS.out.2.2.2⟩
      have e1:=d3.cell 1
      have e2:=D2.out.cell 1
      exact e1.trans (e2.symm.trans HS.out.1))
     have HAP:=hid (show ∀ (w10 w5:World) (v5:Value) (o:Obj) (v3:Value) (k3:Nat) (c3:Nat->Prop),Cn.DM (x.to v3 k3 c3) L (s2.bothS tki (Cn.sg fr aon)) w10->Cn.aF x.own (x.to v3 k3 c3).own w7 w10->Cn.aQ w7.heap.size (.slice lp acc.length lc) acc w10->(∀ g,(Value.slice lp acc.length lc).ownBlock=some g->¬ (x.to v3 k3 c3).own g)->wr.heap.size<=w10.heap.size->(w10.cell? ⟨x.b,1,none⟩=some (.slice (some ⟨tb,tof,none⟩) ps.length tc)/\w10.cell? ⟨tb,tof+i,none⟩=some (.int .i64 tki)/\w10.cell? ⟨w.heap.size,4,none⟩=some (.string af)/\w10.cell? ⟨w.heap.size,5,none⟩=some (.bool aon))->w5.ownsRow w7.heap.size 3 1 v5 (acc.length+1) (acc.map (Value.int .i64) ++ [.int .i64 (s2.bothL tki (Cn.sg fr aon))])->(w10.alloc o).grownBy w5 (Value.slice lp acc.length lc).ownBlock->(v5.ownBlock=(Value.slice lp acc.length lc).ownBlock∨v5.ownBlock=some (w10.alloc o).heap.size)->(Cn.aQ w7.heap.size v5 (acc ++ [s2.bothL tki (Cn.sg fr aon)]) w5/\(∀ g,v5.ownBlock=some g->¬ (x.to v3 k3 c3).own g)/\Cn.DM (x.to v3 k3 c3) L (s2.bothS tki (Cn.sg fr aon)) w5/\Cn.aF x.own (x.to v3 k3 c3).own w7 w5)/\(w5.cell? ⟨x.b,1,none⟩=some (.slice (some ⟨tb,tof,none⟩) ps.length tc)/\w5.cell? ⟨tb,tof+i,none⟩=some (.int .i64 tki)/\w5.cell? ⟨w.heap.size,4,none⟩=some (.string af)/\w5.cell? ⟨w.heap.size,5,none⟩=some (.bool aon)) from fun w10 w5 v5 o v3 k3 c3 d t ow ap hz hs h1 h2 h4=>by
      have P:=sE ow ap d t h1 h2 h4
      refine ⟨P,(P.2.2.1.cell 1).trans ((d.cell 1).symm.trans hs.1),(sR (Cn.bU h2) (by omega) (HLV.out _ (by have:=htbw.1;omega))).trans hs.2.1,(sR (Cn.bU h2) (by omega) (HLV.out _ (by omega))).trans hs.2.2.1,(sR (Cn.bU h2) (by omega) (HLV.out _ (by omega))).trans hs.2.2.2⟩)
     go_wp2_with fail
     go_region_held3 (fun W'=>W'.cell? ⟨x.b,1,none⟩=some (.slice (some ⟨tb,tof,none⟩) ps.length tc)/\W'.cell? ⟨tb,tof+i,none⟩=some (.int .i64 tki)/\W'.cell? ⟨w.heap.size,4,none⟩=some (.string af)/\W'.cell? ⟨w.heap.size,5,none⟩=some (.bool aon))
      (first | with_reducible exact HS.out | with_reducible exact HSd.out | with_reducible exact HS8.out | with_reducible exact HS10.out | with_reducible exact HS11.out | with_reducible exact HS5.out | go_keep)
      (first
       | (go_at_call 164;refine (HCF.out _ (aA.drew (aA.refl _))).mono ?_;rintro e w8 ⟨rfl,k8⟩;have K8:=hid (gH k8);have HS8:=hid (show w8.cell? ⟨x.b,1,none⟩=some (.slice (some ⟨tb,tof,none⟩) ps.length tc)/\w8.cell? ⟨tb,tof+i,none⟩=some (.int .i64 tki)/\w8.cell? ⟨w.heap.size,4,none⟩=some (.string af)/\w8.cell? ⟨w.heap.size,5,none⟩=some (.bool aon) from ⟨(K8.out.cell (p:=⟨x.b,1,none⟩) hbl2).trans HS.out.1,(K8.out.cell (p:=⟨tb,tof+i,none⟩) htbl).trans HS.out.2.1,(K8.out.cell (p:=⟨w.heap.size,4,none⟩) hwlr).trans HS.out.2.2.1,(K8.out.cell (p:=⟨w.heap.size,5,none⟩) hwlr).trans HS.out.2.2.2⟩);clear k8)
       | (go_at_call 116;refine (tV fr aon _ hfg0).mono ?_;rintro e w9 ⟨rfl,hw9⟩;rw [hw9];clear hw9)
       | (go_at_call 163;refine (HCB.out w8 K8.out).mono ?_;rintro e w10 ⟨rfl,v3,k3,c3,d3,t3,o3,a3,z3,s3⟩;have D10:=hid d3;have T10:=hid t3;have OW10:=hid o3;have AP10:=hid a3;have HS10:=hid s3;clear d3 t3 o3 a3 s3)
       | (refine Cn.aX rfl _ _ 27 rfl w7.heap.size 3 i0 (.int .i64 0) 1 8 Tryz.underlying27 hi hz0 hz1 hz2 rfl (by decide) (.slice lp acc.length lc) acc.length (acc.map (Value.int .i64)) rfl (World.ownsRow.alloc OW10.out _) ⟨w10.heap.size,0,none⟩ 1 1 [.int .i64 (s2.bothL tki (Cn.sg fr aon))] rfl rfl Cn.cN cM (by unfold maxLen;omega) (by omega) (by rw [aC];omega) ?_;intro v5 w5 h1 h2 h4;have PP:=hid (HAP.out w10 w5 v5 _ v3 k3 c3 D10.out T10.out OW10.out AP10.out z3 HS10.out h1 h2 h4);have P5:=hid PP.out.1;have HS5:=hid PP.out.2;clear h1 h2 h4 PP))
     obtain ⟨g5,cap5,hv5⟩:=Cn.aW P5.out.1 (by simp)
     rw [hv5] at P5 ⊢
     go_wp2_with fail
     go_roundg (zs.length-(j+1))
     case rel=>exact ⟨j+1,v3,k3,c3,by omega,by go_num,by rw [HN.out,HFG.out];exact P5.out.1,P5.out.2.1,by rw [HN.out,HFG.out];exact P5.out.2.2.1,P5.out.2.2.2⟩
     case measure=>omega
    ·have h3:(af.toList == [])=true:=by simpa using hem
     have HN:=hid (HFE2.out.trans (if_pos hem))
     go_wp2_with (at_builtin;refine wpList_append_own_at _ rfl _ _ 27 rfl w7.heap.size 3 i0 (.int .i64 0) 1 8 Tryz.underlying27 hi hz0 hz1 hz2 rfl (by decide) (.slice lp acc.length lc) acc.length (acc.map (Value.int .i64)) rfl (World.ownsRow.alloc OW.out _) ⟨wr.heap.size,0,none⟩ 1 1 [.int .i64 ((aB ps wi).tkL i)] rfl rfl Cn.cN cM (by unfold maxLen;omega) (by omega) (by rw [aC];omega) ?_;intro v5 w5 h1 h2 _ h4)
     have P5:=hid (sE OW.out AP.out D2.out T2.out h1 h2 h4)
     clear h1 h2 h4
     go_wp2_with fail
     go_roundg (zs.length-(j+1))
     case rel=>exact ⟨j+1,v,k,cc,by omega,by go_num,by rw [HN.out];exact P5.out.1,P5.out.2.1,by rw [HN.out];exact P5.out.2.2.1,P5.out.2.2.2⟩
     case measure=>omega
  ·obtain rfl:j=zs.length:=by omega
   have HFIN:=hid (show cT ps (aB ps wi) but s ⟨an,aop,av,asl,af,aon⟩=(zs.take zs.length).foldl F (s,[]) by rw [List.take_length];exact HASK.out)
   obtain ⟨-,hal⟩:=HBJ.out zs.length
   go_wp2_with fail
   go_ret
   rw [HFIN.out]
   exact ⟨lp,lc,v,k,cc,rfl,aFl OW.out,(aAu OW.out (by omega) AP.out).mono (fun _ _=>rfl) (fun b hb=>⟨by have:=hb.1;omega,hb.2⟩),D2.out,(Cn.aF.keep KW.out).trans T2.out⟩
end Go.Proofs.YtonlloiemgdfkaaGreatDoor
namespace Go.Proofs.YtonlloiemgdfkaaGreatDoor
open Go.RowKit
structure CM (b g:Nat) (pv tsv inv mav onv:Value) (n:Nat) (tk:List Int) (cnt:Int) (f:Int->Int->Int) (k:Nat) (w:World):Prop where
 tr:aE b 24 pv w
 wi:aD (b+1) 30 #[tsv,inv,mav,onv] w
 rs:aD (b+2) 158 #[.int .i64 0,.slice none 0 0,.map none] w
 row:aD (b+3) 3 (tk.map (Value.int .i64)).toArray w
 mp:Cn.fV g k f w
 bx:aD (g+1) 158 #[.int .i64 cnt,.slice (some ⟨b+3,0,none⟩) n n,.map (some g)] w
 far:b+4<=g
section
variable {b g:Nat} {pv tsv inv mav onv:Value} {n:Nat} {tk:List Int} {cnt:Int} {f:Int->Int->Int} {k:Nat} {w w':World}
theorem CM.lt (h:CM b g pv tsv inv mav onv n tk cnt f k w):b+4<=g/\g+1<w.heap.size:=⟨h.far,h.bx.facts.2.2⟩
theorem CM.keep (h:CM b g pv tsv inv mav onv n tk cnt f k w) (kp:aA w w'):CM b g pv tsv inv mav onv n tk cnt f k w':=
 ⟨h.tr.keep kp h.tr.facts.2.2,h.wi.keep kp h.wi.facts.2.2,h.rs.keep kp h.rs.facts.2.2,h.row.keep kp h.row.facts.2.2,h.mp.keep kp,h.bx.keep kp h.bx.facts.2.2,h.far⟩
theorem CM.next (h:CM b g pv tsv inv mav onv n tk cnt f k w):CM b g pv tsv inv mav onv n tk (cnt+1) f k (w.setCell ⟨g+1,0,none⟩ (.int .i64 (cnt+1))):=by
 have hso : ∀ c,c≠g+1->(w.setCell ⟨g+1,0,none⟩ (.int .i64 (cnt+1))).heap[c]? = w.heap[c]? :=fun c hc=>Below.heap_setCell _ _ _ _ (fun e=>hc e)
 have hfar:=h.far
 refine ⟨?_,?_,?_,?_,h.mp.at (hso _ (by omega)),h.bx.set 0 _,hfar⟩
 ·have:=h.tr;unfold aE at *;rw [hso _ (by omega)];exact this
 ·have:=h.wi;unfold aD at *;rw [hso _ (by omega)];exact this
 ·have:=h.rs;unfold aD at *;rw [hso _ (by omega)];exact this
 ·have:=h.row;unfold aD at *;rw [hso _ (by omega)];exact this
theorem CM.set (h:CM b g pv tsv inv mav onv n tk cnt f k w) (i:Nat) (v:Int):CM b g pv tsv inv mav onv n (tk.set i v) cnt f k (w.setCell ⟨b+3,i,none⟩ (.int .i64 v)):=by
 have hso : ∀ c,c≠b+3->(w.setCell ⟨b+3,i,none⟩ (.int .i64 v)).heap[c]? = w.heap[c]? :=fun c hc=>Below.heap_setCell _ _ _ _ (fun e=>hc e)
 have hfar:=h.far
 refine ⟨?_,?_,?_,?_,h.mp.at (hso _ (by omega)),?_,hfar⟩
 ·have:=h.tr;unfold aE at *;rw [hso _ (by omega)];exact this
 ·have:=h.wi;unfold aD at *;rw [hso _ (by omega)];exact this
 ·have:=h.rs;unfold aD at *;rw [hso _ (by omega)];exact this
 ·have:=h.row.set i (.int .i64 v)
  rwa [List.setIfInBounds_toArray,← List.map_set] at this
 ·have:=h.bx;unfold aD at *;rw [hso _ (by omega)];exact this
theorem CM.put {f':Int->Int->Int} {k':Nat} (h:CM b g pv tsv inv mav onv n tk cnt f k w) (hm:Cn.fV (g) k' f' w') (hg:w.grownBy w' (some (g))):CM b g pv tsv inv mav onv n tk cnt f' k' w':=by
 have hl:=h.lt
 have hso : ∀ c,c<w.heap.size->c≠g->w'.heap[c]? = w.heap[c]? :=fun c hc hn=>hg.block c hc fun e=>hn (Option.some.inj e)
 refine ⟨?_,?_,?_,?_,hm,?_,h.far⟩
 ·have:=h.tr;unfold aE at *;rw [hso _ (by omega) (by omega)];exact this
 ·have:=h.wi;unfold aD at *;rw [hso _ (by omega) (by omega)];exact this
 ·have:=h.rs;unfold aD at *;rw [hso _ (by omega) (by omega)];exact this
 ·have:=h.row;unfold aD at *;rw [hso _ (by omega) (by omega)];exact this
 ·have:=h.bx;unfold aD at *;rw [hso _ (by omega) (by omega)];exact this
theorem CM.more {k':Nat} (h:CM b g pv tsv inv mav onv n tk cnt f k w) (hk:k<=k'):CM b g pv tsv inv mav onv n tk cnt f k' w:=⟨h.tr,h.wi,h.rs,h.row,h.mp.mono hk,h.bx,h.far⟩
theorem CM.at (h:CM b g pv tsv inv mav onv n tk cnt f k w) {i:Nat} (hi:i<tk.length):w.cell? ⟨b+3,i,none⟩=some (.int .i64 (tk.getD i 0))/\w.frozen? ⟨b+3,i,none⟩=false:=by
 refine ⟨?_,h.row.facts.2.1 i⟩
 rw [h.row.facts.1,List.getElem?_toArray,List.getElem?_map,List.getElem?_eq_getElem hi,List.getD_eq_getElem?_getD,List.getElem?_eq_getElem hi]
 rfl
end
theorem aJp {b n:Nat} {zs:List Int} {w:World} (h:aD b 3 (zs.map (Value.int .i64)).toArray w) (hn:zs.length=n) (hl:n<=1000000):Cn.aH (fun c=>c=b) w zs (.slice (some ⟨b,0,none⟩) n n):=by
 refine ⟨_,n,by rw [hn],by omega,fun _=>⟨b,0,rfl,rfl,fun j x hx=> ?_⟩⟩
 rw [Nat.zero_add,h.facts.1,List.getElem?_toArray,List.getElem?_map,hx]
 rfl
theorem aGf (c:Cn.CT) {i:Nat} (hi:i<c.nf.length):c.base (i+1)=c.base i+c.nf.getD i 0:=by
 unfold Cn.CT.base
 rw [List.take_succ_eq_append_getElem hi,List.sum_append,List.getD_eq_getElem?_getD,List.getElem?_eq_getElem hi]
 simp
 omega
theorem aJi (c:Cn.CT):c.base c.nf.length=c.many:=by unfold Cn.CT.base Cn.CT.many;rw [List.take_length]
theorem aMs (c:Cn.CT) (i:Nat):c.base i<=c.many:=by
 have:=Cn.nH c.nf i (max i c.nf.length) (by omega)
 rw [List.take_of_length_le (l:=c.nf) (i:=max i c.nf.length) (by omega)] at this
 unfold Cn.CT.base Cn.CT.many
 omega
theorem dS {z:Int} (h:z.natAbs<=1000000):IntKind.i64.wrap z=z:=by rw [IntKind.wrap_i64];omega
theorem aCq (args:Array Value) (w:World):(callFunc 161 args).run Tryz.prog w=.ok (.enter 161 args) w:=enters_of Tryz.func161 (by kernel_rfl) rfl args w
theorem pX (bc:Nat) (n:Int) (tv mv:Value) (w:World) (h:aD bc 158 #[.int .i64 n,tv,mv] w) (h0:0<=n) (h1:n<=1000000) :
  Calls Tryz.prog 161 #[.pointer (some ⟨bc,0,none⟩)] w fun e w'=>e=.returned (.int .i64 (n+1))/\w'=w.setCell ⟨bc,0,none⟩ (.int .i64 (n+1)):=by
 have hc0:w.cell? ⟨bc,0,none⟩=some (.int .i64 n):=h.facts.1 0
 have hf0:=h.facts.2.1 0
 have hl:=h.facts.2.2
 clear h
 go_enter Tryz.func161,Tryz.ntmps161
 go_wp2_with fail
 go_ret
 exact ⟨rfl,rfl⟩
theorem aAs {ps:List PK} {on:List (Int × Int)} (h:aV (onE ps on) 0 on.length=0) (h8:ps.length<=8) (h2 : ∀ p∈ps,p.fl.length<=2):(∀ q∈on,0<=q.1/\q.1<ps.length/\0<=q.2/\q.2<(ps.getD q.1.toNat PK.zero).fl.length)/\on.Nodup/\on.length<=32:=by
 have hz:=(cK on.length 0).1 h
 have hk : ∀ k (hk:k<on.length),(0<=on[k].1/\on[k].1<ps.length/\0<=on[k].2/\on[k].2<(ps.getD on[k].1.toNat PK.zero).fl.length)/\(0<k->(on.getD (k-1) (0,0)).1<on[k].1∨(on.getD (k-1) (0,0)).1=on[k].1/\(on.getD (k-1) (0,0)).2<on[k].2):=fun k hk=>by
  have h1:=hz k hk
  have e:on.getD k (0,0)=on[k]:=by rw [List.getD_eq_getElem?_getD,List.getElem?_eq_getElem hk];rfl
  rw [Nat.zero_add] at h1
  unfold onE at h1
  rw [e] at h1
  split at h1
  ·omega
  ·split at h1
   ·omega
   ·split at h1
    ·omega
    ·rename_i g1 g2 g3
     refine ⟨by omega,fun h0=> ?_⟩
     exact Classical.byContradiction fun hn=>g3 ⟨h0,hn⟩
 have hin : ∀ q∈on,0<=q.1/\q.1<ps.length/\0<=q.2/\q.2<(ps.getD q.1.toNat PK.zero).fl.length:=fun q hq=>by
  obtain ⟨k,hkl,rfl⟩:=List.getElem_of_mem hq
  exact (hk k hkl).1
 have hfl : ∀ q∈on,q.2<2:=fun q hq=>by
  have h3:=hin q hq
  have h4:ps.getD q.1.toNat PK.zero∈ps:=by rw [List.getD_eq_getElem?_getD,List.getElem?_eq_getElem (show q.1.toNat<ps.length by omega)];exact List.getElem_mem _
  have:=h2 _ h4
  omega
 have hcl:(on.map fun q=>4*q.1+q.2).length=on.length:=by simp
 have hcg : ∀ k (hk:k<on.length),(on.map fun q=>4*q.1+q.2).getD k 0=4*on[k].1+on[k].2:=fun k hk=>by rw [List.getD_eq_getElem?_getD,List.getElem?_map,List.getElem?_eq_getElem hk];rfl
 have hup : ∀ k,0<k->k<(on.map fun q=>4*q.1+q.2).length->(on.map fun q=>4*q.1+q.2).getD (k-1) 0<(on.map fun q=>4*q.1+q.2).getD k 0:=fun k h0 hkl=>by
  rw [hcl] at hkl
  rw [hcg k hkl,hcg (k-1) (by omega)]
  have e:on.getD (k-1) (0,0)=on[k-1]:=by rw [List.getD_eq_getElem?_getD,List.getElem?_eq_getElem (show k-1<on.length by omega)];rfl
  have h3:=(hk k hkl).2 h0
  rw [e] at h3
  have h4:=hin _ (List.getElem_mem hkl)
  have h5:=hfl _ (List.getElem_mem (show k-1<on.length by omega))
  omega
 have hpw:=yO hup
 refine ⟨hin,?_,?_⟩
 ·rw [List.pairwise_map] at hpw
  rw [List.nodup_iff_pairwise_ne]
  exact hpw.imp fun hab e=>by rw [e] at hab;omega
 ·by_cases h0:on.length=0
  ·omega
  ·have g1:=aFx hup (fun x hx=>by obtain ⟨q,hq,rfl⟩:=List.mem_map.1 hx;have:=hin q hq;omega) (on.length-1) (by omega)
   rw [hcg _ (by omega)] at g1
   have g2:=hin _ (List.getElem_mem (show on.length-1<on.length by omega))
   have g3:=hfl _ (List.getElem_mem (show on.length-1<on.length by omega))
   omega
end Go.Proofs.YtonlloiemgdfkaaGreatDoor
