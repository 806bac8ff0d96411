/- Steps of the proof: ResP, NeedNeeded, TreeForest, ValidSmall, ValidAllowed, ResSmall, EncRead, EncBoundN, EncAsked. -/
import Derived.Test.YtonlloiemgdfkaaGreatDoorRp19
import Derived.Test.YtonlloiemgdfkaaGreatDoorRp20
import Derived.Test.YtonlloiemgdfkaaGreatDoorRp07
import Derived.Test.YtonlloiemgdfkaaGreatDoorRp09
import Derived.BigRegion
import Derived.Deep.RegionHeld3
import Derived.Test.YtonlloiemgdfkaaGreatDoorRp18
set_option maxHeartbeats 16000000
set_option maxRecDepth 100000
namespace Go.Proofs.YtonlloiemgdfkaaGreatDoor
open Go.RowKit
theorem eV {m:List Bool} {c i:Nat} (h:i<c):(m.take c).getD i false=m.getD i false:=by
 rw [List.getD_eq_getElem?_getD,List.getD_eq_getElem?_getD,List.getElem?_take,if_pos h]
theorem aMe {m o:List Bool} (c:Nat) (hl:m.length=o.length) (h:Cn.oD m o):Cn.oD (m.take c) (o.take c):=by
 rcases h with rfl | ⟨j,hj,h1,h2,h3⟩
 ·exact .inl rfl
 ·by_cases hc:j<c
  ·exact .inr ⟨j,by rw [List.length_take];omega,fun i hi=>by rw [eV (by omega),eV (by omega)];exact h1 i hi,by rw [eV hc];exact h2,by rw [eV hc];exact h3⟩
  ·refine .inl (Cn.pT (by rw [List.length_take,List.length_take,hl]) fun i hi=> ?_)
   rw [List.length_take] at hi
   rw [eV (by omega),eV (by omega),h1 i (by omega)]
theorem aSc {m:List Bool} {c:Nat} (hc:c<=m.length):Cn.mF (Cn.chL (m.take c)) m:=by
 intro x hx
 obtain ⟨v,hv,rfl⟩:=List.mem_map.1 hx
 have hv:=List.mem_range.1 hv
 rw [List.length_take] at hv
 rw [eV (by omega)]
 unfold Cn.inM
 cases hm:m.getD v false with
 | true=>rw [if_pos rfl,show ((v:Int)+1).natAbs-1=v by omega,hm,decide_eq_true (by omega)];rfl
 | false=>rw [if_neg (by simp),show (-(v:Int)-1).natAbs-1=v by omega,hm,decide_eq_false (by omega)];rfl
theorem aPk {n c:Nat} {F:List (List Int)} {may:List Bool->Bool} (hE:Cn.tB n c F may) (hF : ∀ x∈F,Cn.aL n x) (hc:c<=n) {m:List Bool} (hm:Cn.Mod n F m):may (m.take c)=true:=by
 have hl:(m.take c).length=c:=by rw [List.length_take,hm.1];omega
 cases h:may (m.take c) with
 | true=>rfl
 | false=>exact absurd ((hE _ hl).2 h) (Cn.lM hF (fun x hx=>⟨(Cn.mJ _ x hx).1,by have:=(Cn.mJ _ x hx).2;omega⟩) hm.2 (aSc (by rw [hm.1];exact hc)))
theorem aHc {n c:Nat} {F:List (List Int)} {may:List Bool->Bool} (hE:Cn.tB n c F may) (hF : ∀ x∈F,Cn.aL n x) (hc:c<=n) {d:List Bool} (hd:d.length=c) (h:may d=true) : ∃ o,Cn.Mod n F o/\o.take c=d:=by
 obtain ⟨h1,h2⟩:=(hE d hd).1 h
 obtain ⟨h3,h4⟩:=Cn.aBz hF (fun x hx=>⟨(Cn.mJ d x hx).1,by have:=(Cn.mJ d x hx).2;omega⟩) h1 h2
 refine ⟨_,h3,Cn.pT (by rw [List.length_take,h3.1];omega) fun i hi=> ?_⟩
 rw [List.length_take,h3.1] at hi
 rw [eV (by omega)]
 have h5:=h4 _ (List.mem_of_getElem? (Cn.aGk (m:=d) (v:=i) (by omega)))
 unfold Cn.inM at h5
 revert h5
 cases hm:d.getD i false with
 | true=>rw [if_pos rfl,show ((i:Int)+1).natAbs-1=i by omega,decide_eq_true (by omega)];intro h5;simpa using h5
 | false=>rw [if_neg (by simp),show (-(i:Int)-1).natAbs-1=i by omega,decide_eq_false (by omega)];intro h5;simpa using h5
theorem aBh {α β:Type} {f g:α->Option β} : ∀ {l:List α},(∀ x∈l,f x=g x)->l.filterMap f=l.filterMap g
 | [],_=>rfl
 | a :: l,h=>by rw [List.filterMap_cons,List.filterMap_cons,h a (by simp),aBh fun x hx=>h x (by simp [hx])]
theorem aNi {c:Cn.CT} (h:c.Ok) {m m':List Bool} (e : ∀ v,v<c.many->m.getD v false=m'.getD v false):c.set m=c.set m':=by
 have hN:c.nf.length<=c.many:=by unfold Cn.CT.many;omega
 unfold Cn.CT.set
 refine aBh fun i hi=> ?_
 have hi:=List.mem_range.1 hi
 have e1:c.takes m i=c.takes m' i:=by
  unfold Cn.CT.takes
  rw [e _ (by have:=Cn.CT.idx_lt h hi;omega)]
 have e2:c.flags m i=c.flags m' i:=by
  unfold Cn.CT.flags
  refine List.map_congr_left fun k hk=> ?_
  rw [e _ (Cn.CT.base_lt_many c hi (List.mem_range.1 hk))]
 rw [e1,e2]
theorem xM {ps:List PK} {wi:WI} (h:(aB ps wi).Ok) (m:List Bool):bU ps wi (m.take (aB ps wi).many)=bU ps wi m:=by
 unfold bU
 rw [aNi h fun v hv=>eV hv]
def pD (ps:List PK) (wi:WI) (c:List Bool):Prop:=c.length=(aB ps wi).many/\gE ps wi (bU ps wi c)=true/\∀ d:List Bool,d.length=(aB ps wi).many->gE ps wi (bU ps wi d)=true->Cn.oD c d
def mG (ps:List PK) (wi:WI):Prop:= ∀ d:List Bool,d.length=(aB ps wi).many->gE ps wi (bU ps wi d)=false
theorem pD.one {ps:List PK} {wi:WI} {c d:List Bool} (h:pD ps wi c) (h':pD ps wi d):c=d:=(h.2.2 d h'.1 h'.2.1).anti (h'.2.2 c h.1 h.2.1)
theorem pD.some {ps:List PK} {wi:WI} {c:List Bool} (h:pD ps wi c) (h':mG ps wi):False:=by have:=h' c h.1;rw [h.2.1] at this;cases this
theorem set_mod {ps:List PK} {wi:WI} (hok:(aB ps wi).Ok) {ms:List MB} (h:cF ps ms=0):bU ps wi ((aB ps wi).mod (aKb ms))=ms:=by
 unfold bU
 rw [Cn.CT.set_mod hok (aNp wi h),aSt fun x hx=>((lC h).2.2.2.1 x hx).1]
theorem mG.not {ps:List PK} {wi:WI} (h:mG ps wi) (hok:(aB ps wi).Ok) {ms:List MB} (hs:cF ps ms=0):gE ps wi ms=false:=by
 have:=h _ (Cn.CT.mod_len hok (aKb ms))
 rwa [set_mod hok hs] at this
noncomputable def cM (ps:List PK) (wi:WI) (steps:Int):Cn.Ans:=Cn.oC ((cY ps wi).n:Nat) (cY ps wi).cl steps
theorem yK {ps:List PK} {wi:WI} (h:bF ps wi=0):Cn.eN ((cY ps wi).n:Nat) (cY ps wi).cl=0:=by
 obtain ⟨-,h2,h3,h4,-⟩:=jV h
 exact Cn.aEm h2 h3 fun c hc=>⟨(h4 c hc).2,(h4 c hc).1⟩
theorem aNc {ps:List PK} {wi:WI} (h:bF ps wi=0) {s:Int} (h1:1<=s) (h2:s<=40000):(cM ps wi s).er=0∨(cM ps wi s).er=8:=Cn.aQn (yK h) h1 h2
theorem lV {ps:List PK} {wi:WI} (h:bF ps wi=0):(cM ps wi 40000).er=0:=by
 have h14:=(sY wi (dN h).1).1
 have hp:(2 ^ ((aB ps wi).many+1):Nat)<=2 ^ 15:=Nat.pow_le_pow_right (by omega) (by omega)
 unfold cM
 rw [Cn.oZ (yK h) (by omega) (by omega)]
 have hne:=Cn.aNn (n:=(cY ps wi).n) (c:=(aB ps wi).many) (s:=(40000:Int).toNat) (wQ h).decides (by omega) (by show _<=40000;omega)
 unfold Cn.eY
 generalize (Cn.fV (cY ps wi).n (cY ps wi).cl (40000:Int).toNat)=r at hne ⊢
 cases hr:r.o with
 | out=>exact absurd hr hne
 | model m=>rfl
 | closed=>rfl
theorem uW {ps:List PK} {wi:WI} (h:bF ps wi=0) {s:Int} (he:(cM ps wi s).er=0):((cM ps wi s).P = []/\(aB ps wi).many<=(cM ps wi s).m.length/\(cM ps wi s).m.length<=400/\pD ps wi ((cM ps wi s).m.take (aB ps wi).many))∨((cM ps wi s).P ≠ []/\mG ps wi/\Cn.pF (cY ps wi).cl (cM ps wi s).P/\(cM ps wi s).P.length<=40000/\∀ c∈(cM ps wi s).P,c.length<=60/\Cn.aL (cY ps wi).n c):=by
 obtain ⟨g1,g2,g3,g4,-⟩:=jV h
 have hE:=wQ h
 obtain ⟨n,hn,-,-,-,-,ha⟩:=Cn.aPy he
 obtain rfl:(cY ps wi).n=n:=by omega
 have hF : ∀ x∈(cY ps wi).cl,Cn.aL (cY ps wi).n x:=fun x hx=>(g4 x hx).1
 rcases ha with ⟨h1,h2,h3⟩ | ⟨h1,-,h3,h4,h5,h6⟩
 ·refine .inl ⟨h1,?_,?_,?_,aPk hE hF g1 h2,fun d hd hv=> ?_⟩
  ·show _<=(Cn.oC _ _ s).m.length
   rw [h2.1];exact g1
  ·show (Cn.oC _ _ s).m.length<=_
   rw [h2.1];exact g2
  ·show ((Cn.oC _ _ s).m.take _).length=_
   rw [List.length_take,h2.1];omega
  ·obtain ⟨o,ho,rfl⟩:=aHc hE hF g1 hd hv
   exact aMe _ (h2.1.trans ho.1.symm) (h3 o ho)
 ·refine .inr ⟨h1,fun d hd=> ?_,h3,h4,h5⟩
  cases hv:gE ps wi (bU ps wi d) with
  | false=>rfl
  | true=>
   obtain ⟨o,ho,-⟩:=aHc hE hF g1 hd hv
   exact absurd ho (h6 o)
theorem qH {ps:List PK} {wi:WI} {c:List Bool} {s:Int} (h:bF ps wi=0) (he:(cM ps wi s).er=0) (hb:pD ps wi c):(cM ps wi s).P = []/\bU ps wi (cM ps wi s).m=bU ps wi c:=by
 rcases uW h he with ⟨h1,-,-,h4⟩ | ⟨-,h2,-⟩
 ·refine ⟨h1,?_⟩
  rw [← xM (kT (dN h).2.1),h4.one hb]
 ·exact (hb.some h2).elim
theorem qI {ps:List PK} {wi:WI} {s:Int} (h:bF ps wi=0) (he:(cM ps wi s).er=0) (hn:mG ps wi):(cM ps wi s).P ≠ []:=by
 rcases uW h he with ⟨-,-,-,h4⟩ | ⟨h1,-⟩
 ·exact (h4.some hn).elim
 ·exact h1
theorem aRs {ps:List PK} {wi:WI} (h:bF ps wi=0):(∃ c,pD ps wi c)∨mG ps wi:=by
 rcases uW h (lV h) with ⟨-,-,-,h4⟩ | ⟨-,h2,-⟩
 ·exact .inl ⟨_,h4⟩
 ·exact .inr h2
def yP (c:UInt8):NT:= .node 1 ⟨⟨#[c]⟩,0,0,0,⟨#[]⟩,false⟩ ⟨#[]⟩ false []
end Go.Proofs.YtonlloiemgdfkaaGreatDoor
namespace Go.Proofs.YtonlloiemgdfkaaGreatDoor
def nIf:NT:= .node 5 At.zero ⟨#[120]⟩ false [yP 98]
def uN:NT:= .node 3 At.zero ⟨#[]⟩ false [nIf]
def mX:NT:= .node 3 At.zero ⟨#[]⟩ false []
def F1:List UInt8:= [97,32,49,32,49,32,120,44,121,32,120,63,32,40,32,98,32,41,10]
def F2:List UInt8:= [97,32,49,32,49,32,120,44,121,32,40,32,120,63,32,40,32,98,32,41,32,41,10,98,32,50,32,49,32,32,40,32,41,10]
theorem aGz {c:UInt8} (h:aQ [c]=true):(yP c).ok:=by
 unfold yP
 rw [NT.ok]
 exact ⟨lQ 1 _ (Or.inl rfl) (by show chk [c] 0 0 0 [] false=0;unfold chk;rw [if_neg (by simp [h]),if_neg (by decide),if_neg (by decide)]),trivial⟩
theorem aRi:nIf.ok:=by
 unfold nIf
 rw [NT.ok,okL,okL]
 exact ⟨aCc _ _ _ (by decide),aGz (by decide),trivial⟩
theorem aPl:uN.ok:=by
 unfold uN
 rw [NT.ok,okL,okL]
 exact ⟨fP 3 _ (Or.inl rfl),aRi,trivial⟩
theorem aMo:mX.ok:=by
 unfold mX
 rw [NT.ok,okL]
 exact ⟨fP 3 _ (Or.inl rfl),trivial⟩
theorem rY:fI nIf=false/\fI uN=false/\fI mX=false:=by
 have i1:aP 1=2:=jZ (by decide) (by decide)
 have i2:aP 2=3:=jZ (by decide) (by decide)
 refine ⟨?_,?_,?_⟩<;>simp [fI,nIf,uN,mX,yP,bV,bS,fN,i1,i2]
theorem aMn:eD uN=0:=cV.2 ⟨rY.2.1,aPl⟩
theorem aJh:eD mX=0:=cV.2 ⟨rY.2.2,aMo⟩
theorem aSp:Lib.itoa 1 = [49]:=aBt (k:=1) (by decide)
theorem aSq:Lib.itoa 2 = [50]:=aBt (k:=2) (by decide)
theorem aCw:uN.sorted = [[120]]:=by
 have:uN.flags = [⟨#[120]⟩]:=by simp [uN,nIf,yP,NT.flags,cZ]
 unfold NT.sorted
 rw [this,List.map_cons,List.map_nil,List.mergeSort_singleton]
 rfl
theorem zJ:mX.sorted = []:=by
 have:mX.flags = []:=by simp [mX,NT.flags,cZ]
 unfold NT.sorted
 rw [this,List.map_nil,List.mergeSort_nil];exact jT
theorem yT:aQ [97]=true:=by decide
theorem aRj:aQ [98]=true:=by decide
end Go.Proofs.YtonlloiemgdfkaaGreatDoor
namespace Go.Proofs.YtonlloiemgdfkaaGreatDoor
open Go.RowKit
end Go.Proofs.YtonlloiemgdfkaaGreatDoor
namespace Go.Proofs.YtonlloiemgdfkaaGreatDoor
def nB1:NT:= .node 3 At.zero ⟨#[]⟩ false [yP 98]
def aIx:NT:= .node 2 ⟨⟨#[99]⟩,0,0,0,⟨#[]⟩,false⟩ ⟨#[]⟩ false []
def uO:NT:= .node 3 At.zero ⟨#[]⟩ false [aIx]
def q0:PK:=⟨⟨#[97]⟩,1,1,[],nB1⟩
def q1:PK:=⟨⟨#[97]⟩,2,1,[⟨#[120]⟩],uN⟩
def q2:PK:=⟨⟨#[98]⟩,1,1,[],uO⟩
def q3:PK:=⟨⟨#[99]⟩,1,1,[],mX⟩
def bA:List PK:= [q0,q1,q2,q3]
def F3:List UInt8:= [97,32,49,32,49,32,32,40,32,98,32,41,10,97,32,50,32,49,32,120,32,40,32,120,63,32,40,32,98,32,41,32,41,10,98,32,49,32,49,32,32,40,32,33,99,32,41,10,99,32,49,32,49,32,32,40,32,41,10]
theorem aPe:aIx.ok:=by
 unfold aIx
 rw [NT.ok]
 have h:aQ [99]=true:=by decide
 exact ⟨lQ 2 _ (Or.inr rfl) (by show chk [99] 0 0 0 [] false=0;unfold chk;rw [if_neg (by simp [h]),if_neg (by decide),if_neg (by decide)]),trivial⟩
theorem aRh:nB1.ok:=by
 unfold nB1
 rw [NT.ok,okL,okL]
 exact ⟨fP 3 _ (Or.inl rfl),aGz (by decide),trivial⟩
theorem aPn:uO.ok:=by
 unfold uO
 rw [NT.ok,okL,okL]
 exact ⟨fP 3 _ (Or.inl rfl),aPe,trivial⟩
theorem qM:fI nB1=false/\fI uO=false:=by
 have i1:aP 1=2:=jZ (by decide) (by decide)
 refine ⟨?_,?_⟩<;>simp [fI,nB1,uO,aIx,yP,bV,bS,fN,i1]
theorem aPm:eD nB1=0:=cV.2 ⟨qM.1,aRh⟩
theorem aMp:eD uO=0:=cV.2 ⟨qM.2,aPn⟩
theorem aGc:oJ bA=F3:=by
 simp [oJ,mT,bA,q0,q1,q2,q3,nB1,uO,aIx,uN,nIf,mX,NT.text,yP,NT.words,bN,fB,bZ,aSp,aSq,F3,Lib.join]
theorem aFq:nB1.sorted = []:=by
 have:nB1.flags = []:=by simp [nB1,yP,NT.flags,cZ]
 unfold NT.sorted
 rw [this,List.map_nil,List.mergeSort_nil];exact jT
theorem aCx:uO.sorted = []:=by
 have:uO.flags = []:=by simp [uO,aIx,NT.flags,cZ]
 unfold NT.sorted
 rw [this,List.map_nil,List.mergeSort_nil];exact jT
theorem aLu:dR [(⟨#[120]⟩:ByteArray)]=0:=by
 have n1:aQ [120]=true:=by decide
 simp [dR,aW,flE,n1]
theorem aRb:gV [(⟨#[120]⟩:ByteArray)] [120]=true:=by unfold gV;rw [Lib.containsS_iff];simp
theorem aRk:aQ [99]=true:=by decide
theorem aQt:eM q0=0:=by
 have hk:nB1.kind=3:=rfl
 simp [eM,q0,yT,dR,aW,gG,hk,aPm,aFq]
theorem aQu:eM q1=0:=by
 have hk:uN.kind=3:=rfl
 simp [eM,q1,yT,aLu,gG,hk,aMn,aCw,aRb]
theorem aQv:eM q2=0:=by
 have hk:uO.kind=3:=rfl
 simp [eM,q2,aRj,dR,aW,gG,hk,aMp,aCx]
theorem aQw:eM q3=0:=by
 have hk:mX.kind=3:=rfl
 simp [eM,q3,aRk,dR,aW,gG,hk,aJh,zJ]
theorem aId:eJ q1 q0=true:=by simp [eJ,q0,q1]
theorem aIe:eJ q2 q1=true:=by
 have h1:leS ⟨#[98]⟩ ⟨#[97]⟩=false:=by unfold leS;rw [Lib.toList_data,Lib.toList_data];decide
 simp [eJ,q1,q2,h1]
theorem aIf:eJ q3 q2=true:=by
 have h1:leS ⟨#[99]⟩ ⟨#[98]⟩=false:=by unfold leS;rw [Lib.toList_data,Lib.toList_data];decide
 simp [eJ,q3,q2,h1]
theorem tI:cW bA=0:=by
 have s1:eQ bA 1=0:=rfl
 have s2:eQ bA 2=1:=rfl
 have s3:eQ bA 3=1:=rfl
 have s4:eQ bA 4=1:=rfl
 have h8 : ¬ 8<bA.length:=by decide
 have hl:bA.length=4:=rfl
 unfold cW
 rw [if_neg h8]
 have e0:pkE bA 0=0:=by unfold pkE;rw [show bA.getD 0 PK.zero=q0 from rfl,aQt];simp [s1,hl]
 have e1:pkE bA 1=0:=by unfold pkE;rw [show bA.getD 1 PK.zero=q1 from rfl,show bA.getD (1-1) PK.zero=q0 from rfl,aQu,aId];simp [s2,hl]
 have e2:pkE bA 2=0:=by unfold pkE;rw [show bA.getD 2 PK.zero=q2 from rfl,show bA.getD (2-1) PK.zero=q1 from rfl,aQv,aIe];simp [s3,hl]
 have e3:pkE bA 3=0:=by unfold pkE;rw [show bA.getD 3 PK.zero=q3 from rfl,show bA.getD (3-1) PK.zero=q2 from rfl,aQw,aIf];simp [s4,hl]
 rw [hl]
 simp [aW,e0,e1,e2,e3]
theorem aOi:rdT F3=(0,0,bA):=by
 rw [← aGc]
 exact aNa tI (by rw [aGc];decide)
def atA:At:=⟨⟨#[97]⟩,0,0,0,⟨#[]⟩,false⟩
end Go.Proofs.YtonlloiemgdfkaaGreatDoor
namespace Go.Proofs.YtonlloiemgdfkaaGreatDoor
open Go.RowKit Go.Sort
theorem aFm (w:World) (hE:Env w) (hM:kQ w) :
  Calls Tryz.prog 66 #[] w fun e w'=> ∃ v,e=.returned (.tuple #[.agg #[v],.bool true])/\bC (fun b=>w.heap.size<=b/\b<w'.heap.size) w' bA v/\aA w w'/\kP v:=by
 have HE:=hid hE
 have HM:=hid hM
 clear hE hM
 go_enter Tryz.func66,Tryz.ntmps66
 go_wp2_with fail
 refine aU (fun W'=>aA w W'/\aD w.heap.size 24 (.slice none 0 0) W') ⟨aA.alloc _ _,aD.new _ _ _⟩ ?_
 rintro W0 ⟨k0,v0⟩
 refine (vI _ W0 (HE.out.keep k0) (HM.out.keep k0)).mono ?_
 rintro e w1 ⟨v1,rfl,-,hp1,k1,hcap1⟩
 have hrd:rdT (ByteArray.mk #[97,32,49,32,49,32,32,40,32,98,32,41,10,97,32,50,32,49,32,120,32,40,32,120,63,32,40,32,98,32,41,32,41,10,98,32,49,32,49,32,32,40,32,33,99,32,41,10,99,32,49,32,49,32,32,40,32,41,10]).data.toList=(0,0,bA):=aOi
 rw [hrd] at hp1 ⊢
 simp only at hp1 ⊢
 obtain ⟨p1,c1,rfl,-⟩:=hp1.len
 have hlen:bA.length=4:=rfl
 rw [hlen] at hp1 hcap1 ⊢
 have HCAP:=hid hcap1
 clear hcap1
 have K0s:=k0.size
 have hW0:w.heap.size+1<=W0.heap.size:=v0.facts.2.2
 have HP1:Hid (bC (fun b=>w.heap.size+1<=b/\b<w1.heap.size) w1 bA (.slice p1 4 c1)):=bC.mono (fun _ _=>rfl) (fun b hb=>⟨Nat.le_trans hW0 hb.1,hb.2⟩) hp1
 have K1:=hid (k0.trans k1)
 have V1:=hid (v0.keep k1 v0.facts.2.2)
 have hsz1:w.heap.size+1<=w1.heap.size:=by have:=V1.out.facts.2.2;omega
 clear k0 v0 hp1 k1 hrd hlen
 go_upto_region 2 with fail
 refine bO (fun W'=>aA w W'/\aA w1 W'/\aD w.heap.size 24 (.slice none 0 0) W'/\aD w1.heap.size 24 (.slice p1 4 c1) W') ⟨K1.out.alloc' _,aA.alloc _ _,V1.out.keep (aA.alloc _ _) V1.out.facts.2.2,aD.new _ _ _⟩ ?_
 rintro W2 ⟨k2,k12,v2,t2⟩
 have K2:=hid k2
 have K12:=hid k12
 have V2:=hid v2
 obtain ⟨g1,z1,l1⟩:=v2.facts
 obtain ⟨g2,z2,l2⟩:=t2.facts
 clear k2 k12 v2 t2
 go_region
 have v3:=V2.out.set (.slice p1 4 c1)
 have HQ:Hid (aD w.heap.size 24 (.slice p1 4 c1) (W2.setCell ⟨w.heap.size,0,none⟩ (.slice p1 4 c1)).drew/\aA w (W2.setCell ⟨w.heap.size,0,none⟩ (.slice p1 4 c1)).drew/\bC (fun b=>w.heap.size<=b/\b<(W2.setCell ⟨w.heap.size,0,none⟩ (.slice p1 4 c1)).drew.heap.size) (W2.setCell ⟨w.heap.size,0,none⟩ (.slice p1 4 c1)).drew bA (.slice p1 4 c1)):=by
  have ap:=gT w.heap.size W2 (.slice p1 4 c1)
  have hz:W2.heap.size<=(W2.setCell ⟨w.heap.size,0,none⟩ (.slice p1 4 c1)).heap.size:=ap.size
  refine ⟨v3.keep (kU _) v3.facts.2.2,aA.trans (show aA w (W2.setCell ⟨w.heap.size,0,none⟩ (.slice p1 4 c1)) from Below.trans K2.out (ap.below K2.out.size fun b hb e=>by have:b=w.heap.size:=e;omega)) (kU _),?_⟩
  refine bC.mono (fun p hp=> ?_) (fun b hb=>⟨by omega,Nat.lt_of_lt_of_le hb.2 (Nat.le_trans K12.out.size hz)⟩) HP1.out
  exact (ap.cell p (Nat.lt_of_lt_of_le hp.2 K12.out.size) (fun e=>by have e':p.block=w.heap.size:=e;have:=hp.1;omega)).trans (K12.out.cell (p:=p) hp.2)
 clear v3 g1 z1 g2 z2
 go_wp2_with fail
 refine cE (v:= .tuple #[.agg #[.slice p1 4 c1],.bool true]) (fun W'=>aD w.heap.size 24 (.slice p1 4 c1) W'/\aA w W'/\bC (fun b=>w.heap.size<=b/\b<W'.heap.size) W' bA (.slice p1 4 c1)) ?_ rfl ?_
 ·exact HQ.out
 rintro W ⟨hb,hk,hp⟩
 obtain ⟨hcW,-,-⟩:=hb.facts
 exact ⟨by simp [results,Tryz.results66,go_sem,hcW],_,rfl,hp,hk,HCAP.out⟩
theorem kS {W:World} {n:Nat} (h:W.heap.size=n) (cs:Array Value) (T:TypeId):aN n cs (W.alloc (.cells cs T)):=h ▸ aN.new W cs T
def inW (W:World) (b:Nat):Prop:=b<W.heap.size
end Go.Proofs.YtonlloiemgdfkaaGreatDoor
namespace Go.Proofs.YtonlloiemgdfkaaGreatDoor
open Go.RowKit
def aFy:Nat->List (List Bool)
 | 0=> [[]]
 | n+1=>(aFy n).map (false :: ·)++(aFy n).map (true :: ·)
theorem uL : ∀ {d:List Bool},d∈aFy d.length
 | []=>by simp [aFy]
 | a :: d=>by
  have:=uL (d:=d)
  rw [List.length_cons,aFy,List.mem_append]
  cases a
  ·exact .inl (List.mem_map.2 ⟨d,this,rfl⟩)
  ·exact .inr (List.mem_map.2 ⟨d,this,rfl⟩)
def aPj:List Bool->List Bool->Bool
 | a :: m,b :: o=>if a=b then aPj m o else !a
 | _,_=>true
theorem aHb : ∀ {m o:List Bool},m.length=o.length->aPj m o=true->Cn.oD m o
 | [],[],_,_=> .inl rfl
 | a :: m,b :: o,hl,h=>by
  rw [aPj] at h
  by_cases e:a=b
  ·subst e
   rw [if_pos rfl] at h
   rcases aHb (by simpa using hl) h with rfl | ⟨j,hj,h1,h2,h3⟩
   ·exact .inl rfl
   ·refine .inr ⟨j+1,by simpa using hj,fun i hi=> ?_,by simpa using h2,by simpa using h3⟩
    cases i with
    | zero=>rfl
    | succ i=>simpa using h1 i (by omega)
  ·rw [if_neg e] at h
   have ha:a=false:=by simpa using h
   subst ha
   have hb:b=true:=by cases b;exact absurd rfl e;rfl
   subst hb
   exact .inr ⟨0,by simp,fun i hi=>by omega,rfl,rfl⟩
theorem aGi {ps:List PK} {wi:WI} {c:List Bool} {n:Nat} (hn:(aB ps wi).many=n) (hc:c.length=n) (hv:gE ps wi (bU ps wi c)=true) (h:((aFy n).all fun d=> !gE ps wi (bU ps wi d)||aPj c d)=true):pD ps wi c:=by
 refine ⟨hc.trans hn.symm,hv,fun d hd hdv=>aHb (by rw [hd,hn];exact hc) ?_⟩
 have:=List.all_eq_true.1 h d (by rw [← hn,← hd];exact uL)
 rw [hdv] at this
 simpa using this
theorem aPp {ps:List PK} {wi:WI} {n:Nat} (hn:(aB ps wi).many=n) (h:((aFy n).all fun d=> !gE ps wi (bU ps wi d))=true):mG ps wi:=fun d hd=>by
 have:=List.all_eq_true.1 h d (by rw [← hn,← hd];exact uL)
 simpa using this
def aIa:At:=⟨⟨#[97]⟩,0,0,0,⟨#[120]⟩,true⟩
def wR:WI:=⟨[atA],[⟨3,[]⟩],[],[]⟩
def wX (ma:List Int):WI:=⟨[aIa],[⟨3,[]⟩],ma,[]⟩
def cR:List Bool:= [false,false,true,false,false]
def cX:List Bool:= [true,false,true,true,true]
theorem aQj:cF bA [⟨3,[]⟩]=0:=by
 unfold cF;rw [tI]
 show aLn bA [⟨3,[]⟩]=0
 decide
theorem aRl:aQ [120]=true:=by decide
theorem aQs:bF bA wR=0:=by
 have h2:taE [atA]=0:=by
  have:hY atA=0:=by
   show chk [97] 0 0 0 [] false=0
   unfold chk
   rw [if_neg (by simp [yT]),if_neg (by decide),if_neg (by decide)]
  simp [taE,aW,this]
 unfold bF
 rw [show wR.ins = [⟨3,[]⟩] from rfl,show wR.ts = [atA] from rfl,show wR.ma = [] from rfl,show wR.on = [] from rfl,aQj,h2]
 rfl
theorem qV {ma:List Int} (h:ma = []∨ma = [0]∨ma = [0,2]):bF bA (wX ma)=0:=by
 have h2:taE [aIa]=0:=by
  have:hY aIa=0:=by
   show chk [97] 0 0 0 [120] true=0
   unfold chk
   rw [if_neg (by simp [yT,aRl]),if_neg (by decide),if_neg (by decide)]
  simp [taE,aW,this]
 unfold bF
 rw [show (wX ma).ins = [⟨3,[]⟩] from rfl,show (wX ma).ts = [aIa] from rfl,show (wX ma).ma=ma from rfl,show (wX ma).on = [] from rfl,aQj,h2]
 rcases h with rfl | rfl | rfl<;>rfl
theorem aQq:pD bA wR cR:=aGi (n:=5) (by decide) rfl (by decide +kernel) (by decide +kernel)
theorem aDq {ma:List Int} (h:ma = []∨ma = [0]):pD bA (wX ma) cX:=by
 rcases h with rfl | rfl<;>exact aGi (n:=5) (by decide) rfl (by decide +kernel) (by decide +kernel)
theorem aMt:mG bA (wX [0,2]):=aPp (n:=5) (by decide) (by decide +kernel)
theorem aSv:bU bA wR cR = [⟨1,[false]⟩,⟨3,[]⟩]:=rfl
theorem aSw (ma:List Int):bU bA (wX ma) cX = [⟨1,[true]⟩,⟨2,[]⟩]:=rfl
structure DR (ps:List PK) (wi:WI) (x:Cn.DD) (L:Nat) (w:World):Prop where
 tk:Cn.aH x.ro w (aB ps wi).tks x.tv
 fg : ∃ k,Cn.gJ x.g1 k ((aB ps wi).fgs wi.on) w
 gl:x.ro x.g1
 pk:bC (fun b=>b<L) w ps x.pv
 many:x.many=(aB ps wi).many
 cap:kP x.pv
 ro : ∀ b,x.ro b->b<w.heap.size/\¬ x.own b
theorem DR.other {ps:List PK} {wi:WI} {x:Cn.DD} {L:Nat} {w w':World} (h:DR ps wi x L w) (hs:w.heap.size<=w'.heap.size) (k:Below L w w') (hb : ∀ b,x.ro b->w'.heap[b]? = w.heap[b]?):DR ps wi x L w':=by
 obtain ⟨n,hf⟩:=h.fg
 exact ⟨h.tk.mono (fun p hp=>World.cell?_of_block (w:=w) (hb _ hp)) fun _ h=>h,⟨n,hf.at (hb _ h.gl)⟩,h.gl,h.pk.keep (B:=L) (fun _ h=>h) k,h.many,h.cap,fun b hr=>⟨Nat.lt_of_lt_of_le (h.ro b hr).1 hs,(h.ro b hr).2⟩⟩
theorem DR.keep {ps:List PK} {wi:WI} {x:Cn.DD} {L:Nat} {w w':World} (h:DR ps wi x L w) (hL:L<=w.heap.size) (k:aA w w'):DR ps wi x L w':=h.other k.size (Below.mono k hL) fun b hr=>k.block b (h.ro b hr).1
theorem kV {x:Cn.DD} {L:Nat} {s:Cn.DS} {O':Nat->Prop} {w w':World} (d:Cn.DM x L s w) (t:Cn.aF x.own O' w w'):Below L w w':=t.below d.L fun b hb ho=>by have:=(d.lt ho).1;omega
theorem DR.turn {ps:List PK} {wi:WI} {x:Cn.DD} {L:Nat} {s:Cn.DS} {w w':World} {v:Value} {k:Nat} {cc:Nat->Prop} (h:DR ps wi x L w) (d:Cn.DM x L s w) (t:Cn.aF x.own (x.to v k cc).own w w'):DR ps wi (x.to v k cc) L w':=by
 have h2:=h.other t.size (kV d t) fun b hr=>t.block b (h.ro b hr).1 (h.ro b hr).2
 exact ⟨h2.tk,h2.fg,h2.gl,h2.pk,h2.many,h2.cap,fun b hr=>⟨(h2.ro b hr).1,fun ho=>(t.new b ho).elim (h.ro b hr).2 fun hge=>by have:=(h.ro b hr).1;omega⟩⟩
theorem pZ {L:Nat} {w w':World} (hL:L<=w.heap.size) (k:aA w w'):Below L w w':=Below.mono k hL
theorem vB (x:Int) (b:Bool) (w:World) (h:x.natAbs<=900000):Calls Tryz.prog 116 #[.int .i64 x,.bool b] w fun e w'=>e=.returned (.int .i64 (Cn.sg x b))/\w'=w:=by
 have h1:x<=900000:=by omega
 have h2 : -900000<=x:=by omega
 cases b with
 | true=>
  go_enter Tryz.func116,Tryz.ntmps116
  go_wp2_with fail
  go_ret
  exact ⟨rfl,rfl⟩
 | false=>
  go_enter Tryz.func116,Tryz.ntmps116
  go_wp2_with fail
  go_ret
  exact ⟨rfl,rfl⟩
theorem vK:Tryz.prog.underlying 156=some (.map 105 3):=Tryz.underlying156
theorem aBe (ps:List PK) (wi:WI) (x:Cn.DD) (L:Nat) (s:Cn.DS) (i:Nat) (nm:ByteArray) (w:World) (h:Cn.DM x L s w) (hr:DR ps wi x L w) (h8:ps.length<=8) (hi:i<ps.length) (hf:aO (ps.getD i PK.zero).fl nm<(ps.getD i PK.zero).fl.length) (hf2:(ps.getD i PK.zero).fl.length<=2) :
  Calls Tryz.prog 164 #[.pointer (some ⟨x.b,0,none⟩),.int .i64 i,.string nm] w fun e w'=>e=.returned (.int .i64 ((aB ps wi).fgL i (aO (ps.getD i PK.zero).fl nm)))/\aA w w':=by
 obtain ⟨pb,po,pc,hpv,hpb,-,hrow⟩:=hr.pk.get hi
 obtain ⟨cs,hcs,hpj⟩:=hrow i hi
 obtain ⟨k,a,fl,nt,kids,kp,fp,kc,fc,-,hfl0,rfl,hf0,-⟩:=hpj.spelt
 have c3:w.cell? ⟨pb,po+i*14+3,none⟩=some (.slice fp ps[i].fl.length fc):=hcs 3 _ rfl
 have hq:ps.getD i PK.zero=ps[i]:=fD ps i hi
 have hnf:=lP wi hi
 have hnl:=dA ps wi
 rw [hq] at hf hf2 hnf ⊢
 obtain ⟨n,hm⟩:=hr.fg
 have hlt:=Cn.CT.fgs_get (c:=aB ps wi) (on:=wi.on) (fun i k=>rfl) (i:=i) (k:=aO ps[i].fl nm) (by rw [hnl];exact hi) (by rw [hnf];exact hf)
 have HI:=hid (show ∀ W,aA w W->Calls Tryz.prog 89 #[.slice fp ps[i].fl.length fc,.string nm] W fun e w'=>e=.returned (.int .i64 (aO ps[i].fl nm:Nat))/\w'=W from fun W kW=>by
  have hL:=h.L
  have:=qY (fun b=>b<L) ps[i].fl (.slice fp ps[i].fl.length fc) nm W (hf0.keep (B:=w.heap.size) (fun b hb=>Nat.lt_of_lt_of_le hb hL) kW)
  rw [if_pos hf] at this
  exact this)
 have hsk:Cn.SmP ((aO ps[i].fl nm:Nat):Int):=by unfold Cn.SmP;omega
 have hsi:Cn.SmP ((i:Nat):Int):=by unfold Cn.SmP;omega
 have hlk:=hm.look vK hsi hsk
 have hlkd:=(hm.keep (aA.drew (aA.refl w))).look vK hsi hsk
 rw [hlt] at hlk hlkd
 generalize (aB ps wi).fgL i (aO ps[i].fl nm)=r at hlk hlkd ⊢
 generalize ps[i].fl=fs at c3 HI hlk hlkd hf hf2 hfl0 hsk
 generalize aO fs nm=kf at HI hlk hlkd hf hsk
 have hb2:w.cell? ⟨x.b,2,none⟩=some (.map (some x.g1)):=h.cell 2
 have hb3:w.cell? ⟨x.b,3,none⟩=some (.slice (some ⟨pb,po,none⟩) ps.length pc):=(h.cell 3).trans (congrArg some hpv)
 have hbl:=h.box.facts.2.2
 have hpl:pb<w.heap.size:=Nat.lt_of_lt_of_le hpb h.L
 have hiI:(i:Int)<(ps.length:Int):=by omega
 have HS:=hid (show w.cell? ⟨x.b,2,none⟩=some (.map (some x.g1))/\w.cell? ⟨x.b,3,none⟩=some (.slice (some ⟨pb,po,none⟩) ps.length pc)/\w.cell? ⟨pb,po+i*14+3,none⟩=some (.slice fp fs.length fc)/\(Instr.lookup 156 (.map (some x.g1)) (.agg #[.int .i64 i,.int .i64 kf]) false).run Tryz.prog w=.ok (.int .i64 r) w from ⟨hb2,hb3,c3,hlk⟩)
 have HSd:=hid (show w.drew.cell? ⟨x.b,2,none⟩=some (.map (some x.g1))/\w.drew.cell? ⟨x.b,3,none⟩=some (.slice (some ⟨pb,po,none⟩) ps.length pc)/\w.drew.cell? ⟨pb,po+i*14+3,none⟩=some (.slice fp fs.length fc)/\(Instr.lookup 156 (.map (some x.g1)) (.agg #[.int .i64 i,.int .i64 kf]) false).run Tryz.prog w.drew=.ok (.int .i64 r) w.drew from ⟨hb2,hb3,c3,hlkd⟩)
 clear hcs hpj hrow hf0 hm h hr hpv hq hnf hnl hlt
 go_enter Tryz.func164,Tryz.ntmps164
 go_upto_region 1 with fail
 go_region_held3 (fun W'=>W'.cell? ⟨x.b,2,none⟩=some (.map (some x.g1))/\W'.cell? ⟨x.b,3,none⟩=some (.slice (some ⟨pb,po,none⟩) ps.length pc)/\W'.cell? ⟨pb,po+i*14+3,none⟩=some (.slice fp fs.length fc)/\(Instr.lookup 156 (.map (some x.g1)) (.agg #[.int .i64 i,.int .i64 kf]) false).run Tryz.prog W'=.ok (.int .i64 r) W')
  (first | with_reducible exact HS.out | with_reducible exact HSd.out | go_keep)
  (first | (go_at_call 89;refine (HI.out _ (aA.drew (aA.refl _))).mono ?_;rintro e w7 ⟨rfl,hw7⟩;rw [hw7];clear hw7))
 go_wp2_with fail
 go_ret
 exact ⟨rfl,aA.drew (aA.refl _)⟩
end Go.Proofs.YtonlloiemgdfkaaGreatDoor
namespace Go.Proofs.YtonlloiemgdfkaaGreatDoor
theorem pJ {ps:List PK} {wi:WI} (hok:(aB ps wi).Ok) (h8:ps.length<=8) {s:Cn.DS} {m c:Nat} (h:Cn.Bd s m c) (hm:(aB ps wi).many<=m) (but:Int) (a:At):Cn.Bd (dH ps (aB ps wi) but s a).1 (m+8) (c+24)/\(∀ y∈(dH ps (aB ps wi) but s a).2,y.natAbs<=m+8)/\(dH ps (aB ps wi) but s a).2.length<=8:=by
 obtain ⟨h1,h2,h3⟩:=Cn.aDo (but:=but) (nof:=a.f.toList.isEmpty) (tk:=fun z=>(aB ps wi).tkL z.toNat) (fg:=fgA ps (aB ps wi) a) (bW ps a ps.length) s [] m c h (fun z hz=>by
  exact Nat.le_trans (pI hok a z hz).1.2 hm) (fun y hy=>by simp at hy)
 have hl:=gM ps a ps.length
 unfold dH
 exact ⟨h1.mono (by omega) (by omega),fun y hy=>Nat.le_trans (h2 y hy) (by omega),by simp at h3;omega⟩
mutual
theorem aQg {ps:List PK} {wi:WI} (hok:(aB ps wi).Ok) (h8:ps.length<=8) {i:Nat} (hi:i<ps.length) : ∀ (t:NT) (s:Cn.DS) (m c:Nat),Cn.Bd s m c->(aB ps wi).many<=m->(∀ f∈t.flags,aO (ps.getD i PK.zero).fl f<(ps.getD i PK.zero).fl.length)->t.size<=50->
  Cn.Bd (ndS ps (aB ps wi) i t s).1 (m+10*t.size) (c+100*t.size)/\(ndS ps (aB ps wi) i t s).2.natAbs<=m+10*t.size
 | .node kd a fl nt kids,s,m,c,h,hm,hfl,hsz=>by
  rw [NT.flags] at hfl
  rw [NT.size] at hsz ⊢
  obtain ⟨g1,g2⟩:=aLg hok h8 hi kids s m c h hm (fun f hf=>hfl f (List.mem_append_right _ hf)) (by omega)
  have hlen:=sV ps (aB ps wi) i kids s
  have hkl:=sW kids
  rw [ndS]
  generalize kdS ps (aB ps wi) i kids s=Q at g1 g2 hlen ⊢
  by_cases k1:kd=1
  ·rw [if_pos k1]
   obtain ⟨j1,j2,j3⟩:=pJ hok h8 g1 (by omega) (-1) a
   exact ⟨(j1.some (k:=8) j3).mono (by omega) (by omega),Nat.le_trans (j1.someL fun y hy=>Nat.le_trans (j2 y hy) (by omega)) (by omega)⟩
  rw [if_neg k1]
  by_cases k2:kd=2
  ·rw [if_pos k2]
   obtain ⟨j1,j2,j3⟩:=pJ hok h8 g1 (by omega) i a
   refine ⟨(j1.some (k:=8) j3).mono (by omega) (by omega),?_⟩
   show (-(_:Int)).natAbs<=_
   rw [Int.natAbs_neg]
   exact Nat.le_trans (j1.someL fun y hy=>Nat.le_trans (j2 y hy) (by omega)) (by omega)
  rw [if_neg k2]
  by_cases k4:kd=4
  ·rw [if_pos k4]
   exact ⟨(g1.some (k:=50) (by omega)).mono (by omega) (by omega),Nat.le_trans (g1.someL fun y hy=>Nat.le_trans (g2 y hy) (by omega)) (by omega)⟩
  rw [if_neg k4]
  have a1:=g1.all (k:=50) (l:=Q.2) (by omega)
  have a2:(Q.1.allL Q.2).natAbs<=m+10*bM kids+1:=g1.allL fun y hy=>Nat.le_trans (g2 y hy) (Nat.le_succ _)
  by_cases k5:kd=5
  ·rw [if_pos k5]
   have hf:=Cn.CT.fg_lit (aB ps wi) (i:=i) (k:=aO (ps.getD i PK.zero).fl fl) (by rw [dA];exact hi) (by rw [lP wi hi];exact hfl fl (by simp [k5]))
   have hf2:=(Cn.rI hf nt).2
   have a3:((Q.1.allS Q.2).someL [Cn.sg ((aB ps wi).fgL i (aO (ps.getD i PK.zero).fl fl)) nt,Q.1.allL Q.2]).natAbs<=m+10*bM kids+1+1:=a1.someL fun y hy=>by
    rcases List.mem_cons.1 hy with rfl | hy
    ·omega
    ·rw [List.mem_singleton.1 hy];omega
   exact ⟨(a1.some (k:=2) (by simp)).mono (by omega) (by omega),Nat.le_trans (show (ifS _ (rM Q)).2.natAbs<=_ from a3) (by omega)⟩
  ·rw [if_neg k5]
   exact ⟨a1.mono (by omega) (by omega),Nat.le_trans (show (rM Q).2.natAbs<=_ from a2) (by omega)⟩
theorem aLg {ps:List PK} {wi:WI} (hok:(aB ps wi).Ok) (h8:ps.length<=8) {i:Nat} (hi:i<ps.length) : ∀ (ts:List NT) (s:Cn.DS) (m c:Nat),Cn.Bd s m c->(aB ps wi).many<=m->(∀ f∈cZ ts,aO (ps.getD i PK.zero).fl f<(ps.getD i PK.zero).fl.length)->bM ts<=49->
  Cn.Bd (kdS ps (aB ps wi) i ts s).1 (m+10*bM ts) (c+100*bM ts)/\∀ y∈(kdS ps (aB ps wi) i ts s).2,y.natAbs<=m+10*bM ts
 | [],s,m,c,h,_,_,_=>by rw [kdS];exact ⟨h.mono (by omega) (by omega),by simp⟩
 | t :: ts,s,m,c,h,hm,hfl,hsz=>by
  rw [cZ] at hfl
  rw [bM] at hsz ⊢
  obtain ⟨g1,g2⟩:=aQg hok h8 hi t s m c h hm (fun f hf=>hfl f (List.mem_append_left _ hf)) (by omega)
  obtain ⟨j1,j2⟩:=aLg hok h8 hi ts _ _ _ g1 (by omega) (fun f hf=>hfl f (List.mem_append_right _ hf)) (by omega)
  rw [kdS]
  refine ⟨j1.mono (by omega) (by omega),fun y hy=> ?_⟩
  rcases List.mem_cons.1 hy with rfl | hy
  ·omega
  ·exact Nat.le_trans (j2 y hy) (by omega)
end
end Go.Proofs.YtonlloiemgdfkaaGreatDoor
namespace Go.Proofs.YtonlloiemgdfkaaGreatDoor
open Go.RowKit
def aGh (ps:List PK) (c:Cn.CT) (but:Int) (a:At):Cn.DS × List Int->Int->Cn.DS × List Int:=Cn.gU but a.f.toList.isEmpty (fun z=>c.tkL z.toNat) (fgA ps c a)
def aOe (x:Cn.DD) (L:Nat) (r:Cn.DS × List Int) (w:World) (e:Ending) (w':World):Prop:=
 ∃ (lp:Option Addr) (lc:Nat) (v:Value) (k:Nat) (cc:Nat->Prop),e=.returned (.slice lp r.2.length lc)/\(lp=none->lc=0)/\Cn.aH (fun b=>w.heap.size<=b/\b<w'.heap.size/\¬ (x.to v k cc).own b) w' r.2 (.slice lp r.2.length lc)/\Cn.DM (x.to v k cc) L r.1 w'/\Cn.aF x.own (x.to v k cc).own w w'
theorem aHf {B:Nat} {zs:List Int} {p:Option Addr} {n c:Nat} {w:World} (h:Cn.aR B (.slice p n c) zs w):p=none->c=0:=by
 rintro rfl
 obtain ⟨-,⟨e,-⟩ | ⟨g,cap,cur,e,-⟩⟩:=h
 ·cases e;rfl
 ·cases e
theorem aCh {B:Nat} {zs:List Int} {p:Option Addr} {n c:Nat} {w:World} {O:Nat->Prop} (h:Cn.aR B (.slice p n c) zs w) (hl:zs.length<=1000000) (ho : ∀ g,(Value.slice p n c).ownBlock=some g->¬ O g):Cn.aH (fun b=>B<=b/\b<w.heap.size/\¬ O b) w zs (.slice p n c):=by
 obtain ⟨p',c',e1,e2,e3⟩:=h.nums hl
 cases e1
 refine ⟨p,c,rfl,e2,fun h0=> ?_⟩
 obtain ⟨b,off,rfl,hb,hc⟩:=e3 h0
 exact ⟨b,off,rfl,⟨hb.1,hb.2,ho b (by
  obtain ⟨-,⟨e,-⟩ | ⟨g,cap,cur,e,-⟩⟩:=h
  ·cases e
  ·cases e;rfl)⟩,hc⟩
theorem aIr {α β:Type} (F:α->β->α) (a:α) {zs:List β} {j:Nat} {z:β} (h:zs[j]? = some z):(zs.take (j+1)).foldl F a=F ((zs.take j).foldl F a) z:=by
 obtain ⟨hj,rfl⟩:=List.getElem?_eq_some_iff.1 h
 rw [List.take_succ_eq_append_getElem hj,List.foldl_append]
 rfl
theorem aOt {ps:List PK} {wi:WI} (hok:(aB ps wi).Ok) (h8:ps.length<=8) {s:Cn.DS} {m c:Nat} (h:Cn.Bd s m c) (hm:(aB ps wi).many<=m) (but:Int) (a:At) (j:Nat):Cn.Bd (((bW ps a ps.length).take j).foldl (aGh ps (aB ps wi) but a) (s,[])).1 (m+8) (c+24)/\(((bW ps a ps.length).take j).foldl (aGh ps (aB ps wi) but a) (s,[])).2.length<=8:=by
 obtain ⟨h1,h2,h3⟩:=Cn.aDo (but:=but) (nof:=a.f.toList.isEmpty) (tk:=fun z=>(aB ps wi).tkL z.toNat) (fg:=fgA ps (aB ps wi) a) ((bW ps a ps.length).take j) s [] m c h (fun z hz=>Nat.le_trans (pI hok a z (List.mem_of_mem_take hz)).1.2 hm) (fun y hy=>by simp at hy)
 have hl:=gM ps a ps.length
 have ht:((bW ps a ps.length).take j).length<=8:=by rw [List.length_take];omega
 exact ⟨h1.mono (by omega) (by omega),by simp only [List.length_nil] at h3;exact Nat.le_trans h3 (by omega)⟩
theorem xG {x x':Cn.DD} {lv:Value} {w w':World} (h : ∀ g,lv.ownBlock=some g->g<w.heap.size/\¬ x.own g) (t:Cn.aF x.own x'.own w w') : ∀ g,lv.ownBlock=some g->¬ x'.own g:=fun g hg ho=>by
 rcases t.new g ho with h1 | h1
 ·exact (h g hg).2 h1
 ·have:=(h g hg).1;omega
theorem aNu {O O':Nat->Prop} {w7 wr w5:World} {v:Value} (t:Cn.aF O O' w7 wr) (g:wr.grownBy w5 v.ownBlock) (hv : ∀ c,v.ownBlock=some c->w7.heap.size<=c):Cn.aF O O' w7 w5:=
 ⟨g.os.trans t.os,g.tape.trans t.tape,g.output.trans t.output,Nat.le_trans t.size g.size,fun b hb hn=>(g.block b (Nat.lt_of_lt_of_le hb t.size) (fun e=>by have:=hv b e.symm;omega)).trans (t.block b hb hn),t.new⟩
theorem tS {wr w5:World} {v:Value} (g:wr.grownBy w5 v.ownBlock) {b o:Nat} (hb:b<wr.heap.size) (hv:v.ownBlock≠some b):w5.cell? ⟨b,o,none⟩=wr.cell? ⟨b,o,none⟩:=World.cell?_of_block (w:=wr) (g.block b hb (fun e=>hv e.symm))
theorem tF {x:Cn.DD} {L:Nat} {s2:Cn.DS} {O:Nat->Prop} {acc:List Int} {z:Int} {lv v5:Value} {w7 wr w5:World} {o:Obj} (ow:Cn.aR w7.heap.size lv acc wr) (ap : ∀ g,lv.ownBlock=some g->¬ x.own g) (d:Cn.DM x L s2 wr) (t:Cn.aF O x.own w7 wr) (h1:w5.ownsRow w7.heap.size 3 1 v5 (acc.length+1) (acc.map (Value.int .i64) ++ [.int .i64 z])) (h2:(wr.alloc o).grownBy w5 lv.ownBlock) (h4:v5.ownBlock=lv.ownBlock∨v5.ownBlock=some (wr.alloc o).heap.size) :
  Cn.aR w7.heap.size v5 (acc ++ [z]) w5/\(∀ g,v5.ownBlock=some g->¬ x.own g)/\Cn.DM x L s2 w5/\Cn.aF O x.own w7 w5:=by
 have g5:=Cn.bY h2
 refine ⟨?_,fun g hg ho=> ?_,d.other g5.size fun b ho=>g5.block b (d.lt ho).2 (fun e=>ap b e.symm ho),aNu t g5 fun c hc=>(Cn.bK ow hc).1⟩
 ·unfold Cn.aR
  rw [List.length_append,List.map_append]
  exact h1
 ·rcases Cn.nT h4 with e | ⟨g',e,hge⟩
  ·exact ap g (e ▸ hg) ho
  ·rw [e] at hg
   have:=Option.some.inj hg
   have:=(d.lt ho).2
   omega
theorem wL (ps:List PK) (wi:WI) (x:Cn.DD) (L:Nat) (s:Cn.DS) (an af:ByteArray) (aop av asl:Int) (aon:Bool) (but:Int) (w:World) (m c:Nat) (hT:cW ps=0) (hA:hY ⟨an,aop,av,asl,af,aon⟩=0) (hok:(aB ps wi).Ok) (h:Cn.DM x L s w) (hr:DR ps wi x L w) (hb:Cn.Bd s m c) (hm:(aB ps wi).many<=m) (hm2:m<=400000) (hc2:c<=400000) :
  Calls Tryz.prog 107 #[.pointer (some ⟨x.b,0,none⟩),.agg #[.string an,.int .i64 aop,.int .i64 av,.int .i64 asl,.string af,.bool aon],.int .i64 but] w fun e w'=>aOe x L (dH ps (aB ps wi) but s ⟨an,aop,av,asl,af,aon⟩) w e w':=by
 obtain ⟨i0,hi,hz0,hz1,hz2⟩:=info_parts dC
 have h8:=(dJ hT).1
 have HD:=hid h
 have HR:=hid hr
 have HLL:=hid h.L
 have HE:=hid (show lO ps ⟨an,aop,av,asl,af,aon⟩=0 by unfold lO;rw [hT];simpa using hA)
 have HBJ:=hid (fun j=>aOt hok h8 hb hm but ⟨an,aop,av,asl,af,aon⟩ j)
 obtain ⟨pp,pc,hpv,hpl⟩:=hr.pk.len
 have HPV:=hid hpv
 have hbl:=h.box.facts.2.2
 have hb3:w.cell? ⟨x.b,3,none⟩=some (.slice pp ps.length pc):=(h.cell 3).trans (congrArg some hpv)
 have HPK:=hid (hpv ▸ hr.pk)
 have HLITS:=hid (pI hok ⟨an,aop,av,asl,af,aon⟩)
 have HASK:Hid (dH ps (aB ps wi) but s ⟨an,aop,av,asl,af,aon⟩=(bW ps ⟨an,aop,av,asl,af,aon⟩ ps.length).foldl (aGh ps (aB ps wi) but ⟨an,aop,av,asl,af,aon⟩) (s,[])):=rfl
 have HML:=hid (gM ps ⟨an,aop,av,asl,af,aon⟩ ps.length)
 clear h hr hb hpv hA
 go_enter Tryz.func107,Tryz.ntmps107
 go_upto_region 1 with fail
 refine bO (fun W'=>aA w W'/\aN w.heap.size #[.string an,.int .i64 aop,.int .i64 av,.int .i64 asl,.string af,.bool aon] W') ⟨aA.alloc _ _,aN.new _ _ _⟩ ?_
 rintro W1 ⟨k1,b1⟩
 have K1:=hid k1
 have B1:=hid b1
 have D1:=hid (HD.out.keep k1)
 have hb31:W1.cell? ⟨x.b,3,none⟩=some (.slice pp ps.length pc):=(k1.cell (p:=⟨x.b,3,none⟩) hbl).trans hb3
 have HS:=hid (show W1.cell? ⟨x.b,3,none⟩=some (.slice pp ps.length pc)/\∀ o,W1.cell? ⟨w.heap.size,o,none⟩=(#[.string an,.int .i64 aop,.int .i64 av,.int .i64 asl,.string af,.bool aon]:Array Value)[o]? from ⟨hb31,b1.2⟩)
 have HSd:=hid (show W1.drew.cell? ⟨x.b,3,none⟩=some (.slice pp ps.length pc)/\∀ o,W1.drew.cell? ⟨w.heap.size,o,none⟩=(#[.string an,.int .i64 aop,.int .i64 av,.int .i64 asl,.string af,.bool aon]:Array Value)[o]? from ⟨hb31,b1.2⟩)
 have hbl1:x.b<W1.heap.size:=Nat.lt_of_lt_of_le hbl k1.size
 have hwl1:w.heap.size<W1.heap.size:=b1.1
 clear k1 b1
 have HCM:=hid (show ∀ W,aA W1 W->Calls Tryz.prog 162 #[.agg #[.slice pp ps.length pc],.agg #[.string an,.int .i64 aop,.int .i64 av,.int .i64 asl,.string af,.bool aon]] W fun e w'=> ∃ v,e=.returned (.tuple #[v,.int .i64 0])/\aR (W.heap.size+2) v (bW ps ⟨an,aop,av,asl,af,aon⟩ ps.length) w'/\aA W w' from fun W kW=>by
  have hL:=HLL.out
  have hk:aA w W:=K1.out.trans kW
  refine (aEu (fun b=>b<L) ps _ an af aop av asl aon W (fun b hb=>by have:=hk.size;omega) (HPK.out.keep (B:=w.heap.size) (fun b hb=>by omega) hk)).mono ?_
  rintro e w' ⟨v,rfl,-,h3,h4⟩
  exact ⟨v,by rw [HE.out],h3 HE.out,h4⟩)
 go_region_held3 (fun W'=>W'.cell? ⟨x.b,3,none⟩=some (.slice pp ps.length pc)/\∀ o,W'.cell? ⟨w.heap.size,o,none⟩=(#[.string an,.int .i64 aop,.int .i64 av,.int .i64 asl,.string af,.bool aon]:Array Value)[o]?)
  (first | with_reducible exact HS.out | with_reducible exact HSd.out | with_reducible exact HS2.out | go_keep)
  (first | (go_at_call 162;refine (HCM.out _ (aA.drew (aA.refl _))).mono ?_;rintro e w7 ⟨zv,rfl,hzv,k7⟩;have K7:=hid (gW k7);have ZV:=hid hzv;have HS2:=hid (show w7.cell? ⟨x.b,3,none⟩=some (.slice pp ps.length pc)/\∀ o,w7.cell? ⟨w.heap.size,o,none⟩=(#[.string an,.int .i64 aop,.int .i64 av,.int .i64 asl,.string af,.bool aon]:Array Value)[o]? from ⟨(K7.out.cell (p:=⟨x.b,3,none⟩) hbl1).trans HS.out.1,fun o=>(K7.out.cell (p:=⟨w.heap.size,o,none⟩) hwl1).trans (HS.out.2 o)⟩);clear k7 hzv))
 obtain ⟨zp,zc,hzs⟩:=ZV.out.ints.len
 subst hzs
 have D7:=hid (D1.out.keep K7.out)
 have KW:=hid (K1.out.trans K7.out)
 have HNO:=hid (show ∀ b,w.heap.size<=b->¬ x.own b from fun b hb ho=>by have:=(HD.out.lt ho).2;omega)
 have BX:=hid HS2.out.2
 have hw7:w.heap.size<w7.heap.size:=Nat.lt_of_lt_of_le hwl1 K7.out.size
 have hZB:w.heap.size<W1.drew.heap.size+2:=by have:W1.drew.heap.size=W1.heap.size:=rfl;omega
 have ZN:=hid (show Cn.aH (fun b=>w.heap.size<b/\b<w7.heap.size) w7 (bW ps ⟨an,aop,av,asl,af,aon⟩ ps.length) (.slice zp (bW ps ⟨an,aop,av,asl,af,aon⟩ ps.length).length zc) from (Cn.aR.nums (show Cn.aR _ _ _ _ from ZV.out) (by have:=HML.out;omega)).mono (fun _ _=>rfl) (fun b hb=>⟨by have:=hb.1;omega,hb.2⟩))
 clear HS HSd HS2 hb31 hb3 D1 K1 ZV B1 HPK HPV hbl1 hwl1 hpl
 have hml:=HML.out
 obtain ⟨zs,hzs⟩ : ∃ zs,zs=bW ps ⟨an,aop,av,asl,af,aon⟩ ps.length:=⟨_,rfl⟩
 rw [← hzs] at ZN HASK HBJ HLITS hml ⊢
 have HZS:=hid hzs
 clear hzs HML
 obtain ⟨F,hF⟩ : ∃ F,F=aGh ps (aB ps wi) but ⟨an,aop,av,asl,af,aon⟩:=⟨_,rfl⟩
 rw [← hF] at HASK HBJ
 have HF:=hid hF
 clear hF
 go_wp2_with fail
 go_loopg [9,23] zs.length (fun gk lv iv wr=> ∃ (j:Nat) (v:Value) (k:Nat) (cc:Nat->Prop),j+gk=zs.length/\iv=.int .i64 j/\Cn.aR w7.heap.size lv ((zs.take j).foldl F (s,[])).2 wr/\(∀ g,lv.ownBlock=some g->¬ (x.to v k cc).own g)/\Cn.DM (x.to v k cc) L ((zs.take j).foldl F (s,[])).1 wr/\Cn.aF x.own (x.to v k cc).own w7 wr)
 case atStart=>exact ⟨0,x.cv,x.np,x.cs,by omega,rfl,World.ownsRow_nil _ _ _ _,by simp [Value.ownBlock],D7.out,Cn.aF.refl _ _⟩
 case round=>
  obtain ⟨j,v,k,cc,hj,rfl,hown,hap,hd,ht⟩:=hrel
  have OW:=hid hown
  have AP:=hid hap
  have D2:=hid hd
  have T2:=hid ht
  obtain ⟨lp,lc,hlv⟩:=hown.ints.len
  subst hlv
  clear hown hap hd ht D7
  by_cases hlt:j<zs.length
  ·obtain ⟨zb,zo,rfl,hzb,hzc⟩:=(ZN.out.turn T2.out (fun b hb=>⟨hb.2,HNO.out b (by omega)⟩)).nth hlt
   have hcj:=hzc j _ (List.getElem?_eq_getElem hlt)
   have HZJ:=hid (List.getElem?_eq_getElem hlt)
   have hzl:=HLITS.out zs[j] (List.getElem_mem hlt)
   have hzm : ∃ i:Nat,i<ps.length/\zs[j]=(i:Int)/\jC (ps.getD i PK.zero) ⟨an,aop,av,asl,af,aon⟩=true:=kY.1 (by rw [← HZS.out];exact List.getElem_mem hlt)
   have hzbl:=Nat.lt_of_lt_of_le hzb.2 T2.out.size
   have hjI:(j:Int)<(zs.length:Int):=by omega
   have HNX:=hid (aIr F (s,[]) HZJ.out)
   obtain ⟨hbd,hal⟩:=HBJ.out j
   generalize zs[j]=z at hcj hzl hzm HNX
   obtain ⟨i,hip,rfl,hmt⟩:=hzm
   generalize (zs.take j).foldl F (s,[])=st at OW D2 HNX hbd hal AP ⊢
   obtain ⟨s2,acc⟩:=st
   dsimp only at OW D2 hbd hal AP ⊢
   have HFE:=hid (show F (s2,acc) (i:Int)=if (i:Int)=but then (s2,acc) else if af.toList.isEmpty=true then (s2,acc ++ [(aB ps wi).tkL i]) else (s2.bothS ((aB ps wi).tkL i) (fgA ps (aB ps wi) ⟨an,aop,av,asl,af,aon⟩ (i:Int)),acc ++ [s2.bothL ((aB ps wi).tkL i) (fgA ps (aB ps wi) ⟨an,aop,av,asl,af,aon⟩ (i:Int))]) by rw [HF.out];rfl)
   clear hzc
   by_cases hbt:(i:Int)=but
   ·have hb1:((i:Int)==but)=true:=by simpa using hbt
    have HN:=hid (HNX.out.trans (HFE.out.trans (if_pos hbt)))
    clear hbt
    go_wp2_with fail
    go_roundg (zs.length-(j+1))
    case rel=>exact ⟨j+1,v,k,cc,by omega,by go_num,by rw [HN.out];exact OW.out,AP.out,by rw [HN.out];exact D2.out,T2.out⟩
    case measure=>omega
   ·have hb1:((i:Int)==but)=false:=by simpa using hbt
    have HFE2:=hid (HNX.out.trans (HFE.out.trans (if_neg hbt)))
    have B2:=hid (kV HD.out ((Cn.aF.keep KW.out).trans T2.out))
    have R2:=hid (HR.out.turn HD.out ((Cn.aF.keep KW.out).trans T2.out))
    have BX2:=hid (show ∀ o,wr.cell? ⟨w.heap.size,o,none⟩=(#[.string an,.int .i64 aop,.int .i64 av,.int .i64 asl,.string af,.bool aon]:Array Value)[o]? from fun o=>(T2.out.cell ⟨w.heap.size,o,none⟩ hw7 (HNO.out _ (Nat.le_refl _))).trans (BX.out o))
    have hwlr:w.heap.size<wr.heap.size:=Nat.lt_of_lt_of_le hw7 T2.out.size
    have ha4:wr.cell? ⟨w.heap.size,4,none⟩=some (.string af):=BX2.out 4
    have ha5:wr.cell? ⟨w.heap.size,5,none⟩=some (.bool aon):=BX2.out 5
    have hb1c:wr.cell? ⟨x.b,1,none⟩=some x.tv:=D2.out.cell 1
    have hbl2:x.b<wr.heap.size:=D2.out.box.facts.2.2
    have hnl:=dA ps wi
    have htl:=Cn.CT.tks_len (aB ps wi)
    obtain ⟨tp,tc,htv,-⟩:=R2.out.tk.shape
    have htv2:x.tv=.slice tp (aB ps wi).tks.length tc:=htv
    obtain ⟨tb,tof,htp,htb,htc⟩:=(htv ▸ R2.out.tk:Cn.aH _ wr (aB ps wi).tks (.slice tp (aB ps wi).tks.length tc)).nth (k:=i) (by omega)
    subst htp
    have htk:=htc i _ (Cn.CT.tks_get (aB ps wi) (i:=i) (by omega))
    rw [htv2,htl,hnl] at hb1c
    have htbw:tb<w.heap.size/\¬ x.own tb:=HR.out.ro tb htb
    have htbn : ¬ (x.to v k cc).own tb:=(R2.out.ro tb htb).2
    have htbl:tb<wr.heap.size:=(R2.out.ro tb htb).1
    have hiI:(i:Int)<(ps.length:Int):=by omega
    have htm:((aB ps wi).tkL i).natAbs<=(aB ps wi).many:=hzl.1.2
    have hm14:=hm
    have hw7r:=T2.out.size
    have HTL:=hid (And.intro hnl htl)
    clear htc hnl htl htv htv2 hbt
    cases hem:af.toList.isEmpty
    ·have h3:(af.toList == [])=false:=by simpa using hem
     have HN:=hid (HFE2.out.trans (if_neg (by rw [hem];decide)))
     have hfl:aO (ps.getD i PK.zero).fl af<(ps.getD i PK.zero).fl.length:=by
      unfold jC at hmt
      dsimp only at hmt
      rw [hem] at hmt
      simp only [Bool.and_eq_true,Bool.false_or] at hmt
      exact sS.1 hmt.2.2
     have hfl2:(ps.getD i PK.zero).fl.length<=2:=(nL (iS ((dJ hT).2 _ (by rw [List.getD_eq_getElem?_getD,List.getElem?_eq_getElem hip];exact List.getElem_mem hip))).2.2.1).1
     have hfgl:(fgA ps (aB ps wi) ⟨an,aop,av,asl,af,aon⟩ (i:Int)).natAbs<=(aB ps wi).many:=(hzl.2 hem).1.2
     have HFG:=hid (show fgA ps (aB ps wi) ⟨an,aop,av,asl,af,aon⟩ (i:Int)=Cn.sg ((aB ps wi).fgL i (aO (ps.getD i PK.zero).fl af)) aon by unfold fgA;rw [Int.toNat_natCast])
     have hfg0:((aB ps wi).fgL i (aO (ps.getD i PK.zero).fl af)).natAbs<=900000:=by rw [HFG.out,Cn.aFi] at hfgl;omega
     have HS:=hid (show wr.cell? ⟨x.b,1,none⟩=some (.slice (some ⟨tb,tof,none⟩) ps.length tc)/\wr.cell? ⟨tb,tof+i,none⟩=some (.int .i64 ((aB ps wi).tkL i))/\wr.cell? ⟨w.heap.size,4,none⟩=some (.string af)/\wr.cell? ⟨w.heap.size,5,none⟩=some (.bool aon) from ⟨hb1c,htk,ha4,ha5⟩)
     have HSd:=hid (show wr.drew.cell? ⟨x.b,1,none⟩=some (.slice (some ⟨tb,tof,none⟩) ps.length tc)/\wr.drew.cell? ⟨tb,tof+i,none⟩=some (.int .i64 ((aB ps wi).tkL i))/\wr.drew.cell? ⟨w.heap.size,4,none⟩=some (.string af)/\wr.drew.cell? ⟨w.heap.size,5,none⟩=some (.bool aon) from ⟨hb1c,htk,ha4,ha5⟩)
     have HBD:=hid hbd
     have hsn:s2.n<=500000:=by have:=hbd.1;omega
     have hscl:s2.cl.length<=500000:=by have:=hbd.2.1;omega
     generalize hfr:(aB ps wi).fgL i (aO (ps.getD i PK.zero).fl af)=fr at hfg0 HFG
     have HFR:=hid hfr
     generalize (aB ps wi).tkL i=tki at htk htm HN HS HSd
     clear hfr hbd
     have HCF:=hid (show ∀ W,aA wr W->Calls Tryz.prog 164 #[.pointer (some ⟨x.b,0,none⟩),.int .i64 i,.string af] W fun e w'=>e=.returned (.int .i64 fr)/\aA W w' from fun W kW=>by
      rw [← HFR.out]
      exact aBe ps wi (x.to v k cc) L s2 i af W (D2.out.keep kW) (R2.out.keep (by have:=HLL.out;omega) kW) h8 hip hfl hfl2)
     have HLV:=hid (show ∀ b,b<w7.heap.size->(Value.slice lp acc.length lc).ownBlock≠some b from fun b hb e=>by have:=(Cn.bK OW.out e).1;omega)
     have hLw:L<=w.heap.size:=HLL.out
     have HNA:=hid (show ¬ (x.to v k cc).own w.heap.size from fun ho=>by
      rcases T2.out.new _ ho with h | h
      ·exact HNO.out _ (Nat.le_refl _) h
      ·omega)
     have HCB:=hid (show ∀ W,aA wr W->Calls Tryz.prog 163 #[.pointer (some ⟨x.b,0,none⟩),.int .i64 tki,.int .i64 (Cn.sg fr aon)] W fun e w'=>e=.returned (.int .i64 (s2.bothL tki (Cn.sg fr aon)))/\∃ v3 k3 c3,Cn.DM (x.to v3 k3 c3) L (s2.bothS tki (Cn.sg fr aon)) w'/\Cn.aF x.own (x.to v3 k3 c3).own w7 w'/\Cn.aR w7.heap.size (.slice lp acc.length lc) acc w'/\(∀ g,(Value.slice lp acc.length lc).ownBlock=some g->¬ (x.to v3 k3 c3).own g)/\wr.heap.size<=w'.heap.size/\(w'.cell? ⟨x.b,1,none⟩=some (.slice (some ⟨tb,tof,none⟩) ps.length tc)/\w'.cell? ⟨tb,tof+i,none⟩=some (.int .i64 tki)/\w'.cell? ⟨w.heap.size,4,none⟩=some (.string af)/\w'.cell? ⟨w.heap.size,5,none⟩=some (.bool aon)) from fun W kW=>by
      refine (Cn.aLk (x.to v k cc) L s2 tki (Cn.sg fr aon) W (D2.out.keep kW) (by omega) (by rw [Cn.aFi];exact hfg0) hscl hsn).mono ?_
      rintro e w10 ⟨rfl,v3,k3,c3,d3,t3⟩
      have TR:Cn.aF (x.to v k cc).own (x.to v3 k3 c3).own wr w10:=(Cn.aF.keep kW).trans t3
      refine ⟨rfl,v3,k3,c3,d3,T2.out.trans TR,Cn.cL OW.out (fun g hg=>TR.block g (Cn.bK OW.out hg).2 (AP.out g hg)),xG (fun g hg=>⟨(Cn.bK OW.out hg).2,AP.out g hg⟩) TR,TR.size,?_,(TR.cell ⟨tb,tof+i,none⟩ htbl htbn).trans HS.out.2.1,(TR.cell ⟨w.heap.size,4,none⟩ hwlr HNA.out).trans HS.out.2.2.1,(TR.cell ⟨w.heap.size,5,none⟩ hwlr HNA.out).trans HS.out.2.2.2⟩
      have e1:=d3.cell 1
      have e2:=D2.out.cell 1
      exact e1.trans (e2.symm.trans HS.out.1))
     have HAP:=hid (show ∀ (w10 w5:World) (v5:Value) (o:Obj) (v3:Value) (k3:Nat) (c3:Nat->Prop),Cn.DM (x.to v3 k3 c3) L (s2.bothS tki (Cn.sg fr aon)) w10->Cn.aF x.own (x.to v3 k3 c3).own w7 w10->Cn.aR w7.heap.size (.slice lp acc.length lc) acc w10->(∀ g,(Value.slice lp acc.length lc).ownBlock=some g->¬ (x.to v3 k3 c3).own g)->wr.heap.size<=w10.heap.size->(w10.cell? ⟨x.b,1,none⟩=some (.slice (some ⟨tb,tof,none⟩) ps.length tc)/\w10.cell? ⟨tb,tof+i,none⟩=some (.int .i64 tki)/\w10.cell? ⟨w.heap.size,4,none⟩=some (.string af)/\w10.cell? ⟨w.heap.size,5,none⟩=some (.bool aon))->w5.ownsRow w7.heap.size 3 1 v5 (acc.length+1) (acc.map (Value.int .i64) ++ [.int .i64 (s2.bothL tki (Cn.sg fr aon))])->(w10.alloc o).grownBy w5 (Value.slice lp acc.length lc).ownBlock->(v5.ownBlock=(Value.slice lp acc.length lc).ownBlock∨v5.ownBlock=some (w10.alloc o).heap.size)->(Cn.aR w7.heap.size v5 (acc ++ [s2.bothL tki (Cn.sg fr aon)]) w5/\(∀ g,v5.ownBlock=some g->¬ (x.to v3 k3 c3).own g)/\Cn.DM (x.to v3 k3 c3) L (s2.bothS tki (Cn.sg fr aon)) w5/\Cn.aF x.own (x.to v3 k3 c3).own w7 w5)/\(w5.cell? ⟨x.b,1,none⟩=some (.slice (some ⟨tb,tof,none⟩) ps.length tc)/\w5.cell? ⟨tb,tof+i,none⟩=some (.int .i64 tki)/\w5.cell? ⟨w.heap.size,4,none⟩=some (.string af)/\w5.cell? ⟨w.heap.size,5,none⟩=some (.bool aon)) from fun w10 w5 v5 o v3 k3 c3 d t ow ap hz hs h1 h2 h4=>by
      have P:=tF ow ap d t h1 h2 h4
      refine ⟨P,(P.2.2.1.cell 1).trans ((d.cell 1).symm.trans hs.1),(tS (Cn.bY h2) (by omega) (HLV.out _ (by have:=htbw.1;omega))).trans hs.2.1,(tS (Cn.bY h2) (by omega) (HLV.out _ (by omega))).trans hs.2.2.1,(tS (Cn.bY h2) (by omega) (HLV.out _ (by omega))).trans hs.2.2.2⟩)
     go_wp2_with fail
     go_region_held3 (fun W'=>W'.cell? ⟨x.b,1,none⟩=some (.slice (some ⟨tb,tof,none⟩) ps.length tc)/\W'.cell? ⟨tb,tof+i,none⟩=some (.int .i64 tki)/\W'.cell? ⟨w.heap.size,4,none⟩=some (.string af)/\W'.cell? ⟨w.heap.size,5,none⟩=some (.bool aon))
      (first | with_reducible exact HS.out | with_reducible exact HSd.out | with_reducible exact HS8.out | with_reducible exact HS10.out | with_reducible exact HS11.out | with_reducible exact HS5.out | go_keep)
      (first
       | (go_at_call 164;refine (HCF.out _ (aA.drew (aA.refl _))).mono ?_;rintro e w8 ⟨rfl,k8⟩;have K8:=hid (gW k8);have HS8:=hid (show w8.cell? ⟨x.b,1,none⟩=some (.slice (some ⟨tb,tof,none⟩) ps.length tc)/\w8.cell? ⟨tb,tof+i,none⟩=some (.int .i64 tki)/\w8.cell? ⟨w.heap.size,4,none⟩=some (.string af)/\w8.cell? ⟨w.heap.size,5,none⟩=some (.bool aon) from ⟨(K8.out.cell (p:=⟨x.b,1,none⟩) hbl2).trans HS.out.1,(K8.out.cell (p:=⟨tb,tof+i,none⟩) htbl).trans HS.out.2.1,(K8.out.cell (p:=⟨w.heap.size,4,none⟩) hwlr).trans HS.out.2.2.1,(K8.out.cell (p:=⟨w.heap.size,5,none⟩) hwlr).trans HS.out.2.2.2⟩);clear k8)
       | (go_at_call 116;refine (vB fr aon _ hfg0).mono ?_;rintro e w9 ⟨rfl,hw9⟩;rw [hw9];clear hw9)
       | (go_at_call 163;refine (HCB.out w8 K8.out).mono ?_;rintro e w10 ⟨rfl,v3,k3,c3,d3,t3,o3,a3,z3,s3⟩;have D10:=hid d3;have T10:=hid t3;have OW10:=hid o3;have AP10:=hid a3;have HS10:=hid s3;clear d3 t3 o3 a3 s3)
       | (refine Cn.aY rfl _ _ 27 rfl w7.heap.size 3 i0 (.int .i64 0) 1 8 Tryz.underlying27 hi hz0 hz1 hz2 rfl (by decide) (.slice lp acc.length lc) acc.length (acc.map (Value.int .i64)) rfl (World.ownsRow.alloc OW10.out _) ⟨w10.heap.size,0,none⟩ 1 1 [.int .i64 (s2.bothL tki (Cn.sg fr aon))] rfl rfl Cn.cJ cI (by unfold maxLen;omega) (by omega) (by rw [aC];omega) ?_;intro v5 w5 h1 h2 h4;have PP:=hid (HAP.out w10 w5 v5 _ v3 k3 c3 D10.out T10.out OW10.out AP10.out z3 HS10.out h1 h2 h4);have P5:=hid PP.out.1;have HS5:=hid PP.out.2;clear h1 h2 h4 PP))
     obtain ⟨g5,cap5,hv5⟩:=Cn.aX P5.out.1 (by simp)
     rw [hv5] at P5 ⊢
     go_wp2_with fail
     go_roundg (zs.length-(j+1))
     case rel=>exact ⟨j+1,v3,k3,c3,by omega,by go_num,by rw [HN.out,HFG.out];exact P5.out.1,P5.out.2.1,by rw [HN.out,HFG.out];exact P5.out.2.2.1,P5.out.2.2.2⟩
     case measure=>omega
    ·have h3:(af.toList == [])=true:=by simpa using hem
     have HN:=hid (HFE2.out.trans (if_pos hem))
     go_wp2_with (at_builtin;refine wpList_append_own_at _ rfl _ _ 27 rfl w7.heap.size 3 i0 (.int .i64 0) 1 8 Tryz.underlying27 hi hz0 hz1 hz2 rfl (by decide) (.slice lp acc.length lc) acc.length (acc.map (Value.int .i64)) rfl (World.ownsRow.alloc OW.out _) ⟨wr.heap.size,0,none⟩ 1 1 [.int .i64 ((aB ps wi).tkL i)] rfl rfl Cn.cJ cI (by unfold maxLen;omega) (by omega) (by rw [aC];omega) ?_;intro v5 w5 h1 h2 _ h4)
     have P5:=hid (tF OW.out AP.out D2.out T2.out h1 h2 h4)
     clear h1 h2 h4
     go_wp2_with fail
     go_roundg (zs.length-(j+1))
     case rel=>exact ⟨j+1,v,k,cc,by omega,by go_num,by rw [HN.out];exact P5.out.1,P5.out.2.1,by rw [HN.out];exact P5.out.2.2.1,P5.out.2.2.2⟩
     case measure=>omega
  ·obtain rfl:j=zs.length:=by omega
   have HFIN:=hid (show dH ps (aB ps wi) but s ⟨an,aop,av,asl,af,aon⟩=(zs.take zs.length).foldl F (s,[]) by rw [List.take_length];exact HASK.out)
   obtain ⟨-,hal⟩:=HBJ.out zs.length
   go_wp2_with fail
   go_ret
   rw [HFIN.out]
   exact ⟨lp,lc,v,k,cc,rfl,aHf OW.out,(aCh OW.out (by omega) AP.out).mono (fun _ _=>rfl) (fun b hb=>⟨by have:=hb.1;omega,hb.2⟩),D2.out,(Cn.aF.keep KW.out).trans T2.out⟩
end Go.Proofs.YtonlloiemgdfkaaGreatDoor
