/- Steps of the proof: ValidSmall, ValidAllowed. -/
import Derived.Test.YtonlloiemgdfkaaGreatDoorRe20
import Derived.Test.YtonlloiemgdfkaaGreatDoorRe14
import Derived.BigRegion
set_option maxHeartbeats 16000000
set_option maxRecDepth 100000
namespace Go.Proofs.YtonlloiemgdfkaaGreatDoor
def nB1:NT:= .node 3 At.zero ⟨#[]⟩ false [aCg 98]
def aMx:NT:= .node 2 ⟨⟨#[99]⟩,0,0,0,⟨#[]⟩,false⟩ ⟨#[]⟩ false []
def xT:NT:= .node 3 At.zero ⟨#[]⟩ false [aMx]
def q0:PK:=⟨⟨#[97]⟩,1,1,[],nB1⟩
def q1:PK:=⟨⟨#[97]⟩,2,1,[⟨#[120]⟩],xS⟩
def q2:PK:=⟨⟨#[98]⟩,1,1,[],xT⟩
def q3:PK:=⟨⟨#[99]⟩,1,1,[],oL⟩
def aQ:List PK:= [q0,q1,q2,q3]
def F3:List UInt8:= [97,32,49,32,49,32,32,40,32,98,32,41,10,97,32,50,32,49,32,120,32,40,32,120,63,32,40,32,98,32,41,32,41,10,98,32,49,32,49,32,32,40,32,33,99,32,41,10,99,32,49,32,49,32,32,40,32,41,10]
theorem aTi:aMx.ok:=by
 unfold aMx
 rw [NT.ok]
 have h:aT [99]=true:=by decide
 exact ⟨nB 2 _ (Or.inr rfl) (by show chk [99] 0 0 0 [] false=0;unfold chk;rw [if_neg (by simp [h]),if_neg (by decide),if_neg (by decide)]),trivial⟩
theorem aVl:nB1.ok:=by
 unfold nB1
 rw [NT.ok,okL,okL]
 exact ⟨gM 3 _ (Or.inl rfl),aKw (by decide),trivial⟩
theorem aTr:xT.ok:=by
 unfold xT
 rw [NT.ok,okL,okL]
 exact ⟨gM 3 _ (Or.inl rfl),aTi,trivial⟩
theorem tC:gD nB1=false/\gD xT=false:=by
 have i1:aR 1=2:=lF (by decide) (by decide)
 refine ⟨?_,?_⟩<;>simp [gD,nB1,xT,aMx,aCg,cB,bY,fN,i1]
theorem aTq:eV nB1=0:=dQ.2 ⟨tC.1,aVl⟩
theorem aQt:eV xT=0:=dQ.2 ⟨tC.2,aTr⟩
theorem aJx:qC aQ=F3:=by
 simp [qC,oG,aQ,q0,q1,q2,q3,nB1,xT,aMx,xS,nIf,oL,NT.text,aCg,NT.words,bV,fX,cI,aWg,aWh,F3,Lib.join]
theorem aJl:nB1.sorted = []:=by
 have:nB1.flags = []:=by simp [nB1,aCg,NT.flags,dR]
 unfold NT.sorted
 rw [this,List.map_nil,List.mergeSort_nil];exact kZ
theorem aGr:xT.sorted = []:=by
 have:xT.flags = []:=by simp [xT,aMx,NT.flags,dR]
 unfold NT.sorted
 rw [this,List.map_nil,List.mergeSort_nil];exact kZ
theorem aPu:eG [(⟨#[120]⟩:ByteArray)]=0:=by
 have n1:aT [120]=true:=by decide
 simp [eG,aV,flE,n1]
theorem aVe:iU [(⟨#[120]⟩:ByteArray)] [120]=true:=by unfold iU;rw [Lib.containsS_iff];simp
theorem aVo:aT [99]=true:=by decide
theorem aUy:fG q0=0:=by
 have hk:nB1.kind=3:=rfl
 simp [fG,q0,xU,eG,aV,hZ,hk,aTq,aJl]
theorem aUz:fG q1=0:=by
 have hk:xS.kind=3:=rfl
 simp [fG,q1,xU,aPu,hZ,hk,aQr,aGq,aVe]
theorem aVa:fG q2=0:=by
 have hk:xT.kind=3:=rfl
 simp [fG,q2,aVn,eG,aV,hZ,hk,aQt,aGr]
theorem aVb:fG q3=0:=by
 have hk:oL.kind=3:=rfl
 simp [fG,q3,aVo,eG,aV,hZ,hk,aNg,aDa]
theorem aMa:fC q1 q0=true:=by simp [fC,q0,q1]
theorem aMb:fC q2 q1=true:=by
 have h1:leS ⟨#[98]⟩ ⟨#[97]⟩=false:=by unfold leS;rw [Lib.toList_data,Lib.toList_data];decide
 simp [fC,q1,q2,h1]
theorem aMc:fC q3 q2=true:=by
 have h1:leS ⟨#[99]⟩ ⟨#[98]⟩=false:=by unfold leS;rw [Lib.toList_data,Lib.toList_data];decide
 simp [fC,q3,q2,h1]
theorem mR:dL aQ=0:=by
 have s1:fL aQ 1=0:=rfl
 have s2:fL aQ 2=1:=rfl
 have s3:fL aQ 3=1:=rfl
 have s4:fL aQ 4=1:=rfl
 have h8 : ¬ 8<aQ.length:=by decide
 have hl:aQ.length=4:=rfl
 unfold dL
 rw [if_neg h8]
 have e0:pkE aQ 0=0:=by unfold pkE;rw [show aQ.getD 0 PK.zero=q0 from rfl,aUy];simp [s1,hl]
 have e1:pkE aQ 1=0:=by unfold pkE;rw [show aQ.getD 1 PK.zero=q1 from rfl,show aQ.getD (1-1) PK.zero=q0 from rfl,aUz,aMa];simp [s2,hl]
 have e2:pkE aQ 2=0:=by unfold pkE;rw [show aQ.getD 2 PK.zero=q2 from rfl,show aQ.getD (2-1) PK.zero=q1 from rfl,aVa,aMb];simp [s3,hl]
 have e3:pkE aQ 3=0:=by unfold pkE;rw [show aQ.getD 3 PK.zero=q3 from rfl,show aQ.getD (3-1) PK.zero=q2 from rfl,aVb,aMc];simp [s4,hl]
 rw [hl]
 simp [aV,e0,e1,e2,e3]
theorem aSn:rdT F3=(0,0,aQ):=by
 rw [← aJx]
 exact aRg mR (by rw [aJx];decide)
def atA:At:=⟨⟨#[97]⟩,0,0,0,⟨#[]⟩,false⟩
end Go.Proofs.YtonlloiemgdfkaaGreatDoor
namespace Go.Proofs.YtonlloiemgdfkaaGreatDoor
open Go.RowKit Go.Sort
theorem yJ (w:World) (hE:Env w) (hM:fQ w) :
  Calls Tryz.prog 66 #[] w fun e w'=> ∃ v,e=.returned (.tuple #[.agg #[v],.bool true])/\aY (fun b=>w.heap.size<=b/\b<w'.heap.size) w' aQ v/\aA w w'/\fB v:=by
 have HE:=hid hE
 have HM:=hid hM
 clear hE hM
 go_enter Tryz.func66,Tryz.ntmps66
 go_wp2_with fail
 refine aP (fun W'=>aA w W'/\aE w.heap.size 24 (.slice none 0 0) W') ⟨aA.alloc _ _,aE.new _ _ _⟩ ?_
 rintro W0 ⟨k0,v0⟩
 refine (yQ _ W0 (HE.out.keep k0) (HM.out.keep k0)).mono ?_
 rintro e w1 ⟨v1,rfl,-,hp1,k1,hcap1⟩
 have hrd:rdT (ByteArray.mk #[97,32,49,32,49,32,32,40,32,98,32,41,10,97,32,50,32,49,32,120,32,40,32,120,63,32,40,32,98,32,41,32,41,10,98,32,49,32,49,32,32,40,32,33,99,32,41,10,99,32,49,32,49,32,32,40,32,41,10]).data.toList=(0,0,aQ):=aSn
 rw [hrd] at hp1 ⊢
 simp only at hp1 ⊢
 obtain ⟨p1,c1,rfl,-⟩:=hp1.len
 have hlen:aQ.length=4:=rfl
 rw [hlen] at hp1 hcap1 ⊢
 have HCAP:=hid hcap1
 clear hcap1
 have K0s:=k0.size
 have hW0:w.heap.size+1<=W0.heap.size:=v0.facts.2.2
 have HP1:Hid (aY (fun b=>w.heap.size+1<=b/\b<w1.heap.size) w1 aQ (.slice p1 4 c1)):=aY.mono (fun _ _=>rfl) (fun b hb=>⟨Nat.le_trans hW0 hb.1,hb.2⟩) hp1
 have K1:=hid (k0.trans k1)
 have V1:=hid (v0.keep k1 v0.facts.2.2)
 have hsz1:w.heap.size+1<=w1.heap.size:=by have:=V1.out.facts.2.2;omega
 clear k0 v0 hp1 k1 hrd hlen
 go_upto_region 2 with fail
 refine bH (fun W'=>aA w W'/\aA w1 W'/\aE w.heap.size 24 (.slice none 0 0) W'/\aE w1.heap.size 24 (.slice p1 4 c1) W') ⟨K1.out.alloc' _,aA.alloc _ _,V1.out.keep (aA.alloc _ _) V1.out.facts.2.2,aE.new _ _ _⟩ ?_
 rintro W2 ⟨k2,k12,v2,t2⟩
 have K2:=hid k2
 have K12:=hid k12
 have V2:=hid v2
 obtain ⟨g1,z1,l1⟩:=v2.facts
 obtain ⟨g2,z2,l2⟩:=t2.facts
 clear k2 k12 v2 t2
 go_region
 have v3:=V2.out.set (.slice p1 4 c1)
 have HQ:Hid (aE w.heap.size 24 (.slice p1 4 c1) (W2.setCell ⟨w.heap.size,0,none⟩ (.slice p1 4 c1)).drew/\aA w (W2.setCell ⟨w.heap.size,0,none⟩ (.slice p1 4 c1)).drew/\aY (fun b=>w.heap.size<=b/\b<(W2.setCell ⟨w.heap.size,0,none⟩ (.slice p1 4 c1)).drew.heap.size) (W2.setCell ⟨w.heap.size,0,none⟩ (.slice p1 4 c1)).drew aQ (.slice p1 4 c1)):=by
  have ap:=iR w.heap.size W2 (.slice p1 4 c1)
  have hz:W2.heap.size<=(W2.setCell ⟨w.heap.size,0,none⟩ (.slice p1 4 c1)).heap.size:=ap.size
  refine ⟨v3.keep (mB _) v3.facts.2.2,aA.trans (show aA w (W2.setCell ⟨w.heap.size,0,none⟩ (.slice p1 4 c1)) from Below.trans K2.out (ap.below K2.out.size fun b hb e=>by have:b=w.heap.size:=e;omega)) (mB _),?_⟩
  refine aY.mono (fun p hp=> ?_) (fun b hb=>⟨by omega,Nat.lt_of_lt_of_le hb.2 (Nat.le_trans K12.out.size hz)⟩) HP1.out
  exact (ap.cell p (Nat.lt_of_lt_of_le hp.2 K12.out.size) (fun e=>by have e':p.block=w.heap.size:=e;have:=hp.1;omega)).trans (K12.out.cell (p:=p) hp.2)
 clear v3 g1 z1 g2 z2
 go_wp2_with fail
 refine cT (v:= .tuple #[.agg #[.slice p1 4 c1],.bool true]) (fun W'=>aE w.heap.size 24 (.slice p1 4 c1) W'/\aA w W'/\aY (fun b=>w.heap.size<=b/\b<W'.heap.size) W' aQ (.slice p1 4 c1)) ?_ rfl ?_
 ·exact HQ.out
 rintro W ⟨hb,hk,hp⟩
 obtain ⟨hcW,-,-⟩:=hb.facts
 exact ⟨by simp [results,Tryz.results66,go_sem,hcW],_,rfl,hp,hk,HCAP.out⟩
theorem eU {W:World} {n:Nat} (h:W.heap.size=n) (cs:Array Value) (T:TypeId):aM n cs (W.alloc (.cells cs T)):=h ▸ aM.new W cs T
def inW (W:World) (b:Nat):Prop:=b<W.heap.size
end Go.Proofs.YtonlloiemgdfkaaGreatDoor
